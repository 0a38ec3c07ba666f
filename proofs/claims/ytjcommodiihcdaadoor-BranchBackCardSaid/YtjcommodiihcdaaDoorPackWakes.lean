/- PackWakes -/
import Derived.Test.YtjcommodiihcdaaDoorPackTb
import Derived.Test.YtjcommodiihcdaaDoorPackPb
import Derived.Test.YtjcommodiihcdaaDoorPackHalves
/- The statements' wakes. -/
namespace Go.Proofs.YtjcommodiihcdaaDoor
open Go.RowKit
set_option linter.unusedVariables false
set_option linter.unusedSimpArgs false
attribute [local go_sem high] sliced_cut
attribute [local go_sem] cutA_zero Nat.sub_zero
/-- A literal of two bytes. -/
theorem Bytes.two (W : World) (x y : BitVec 8) : Bytes (W.heap.size + 1) (W.alloc (.cells #[.int .u8 (bI x), .int .u8 (bI y)] 5)) (.slice (some ⟨W.heap.size, 0, none⟩) 2 2) [x, y] :=
  Sl.of_row (heap_alloc_new W _) (Nat.lt_succ_self _) 2 [byteV x, byteV y] rfl (Nat.le_refl _) (by decide)
/-- A page from a place on, and its first bytes, as slices. -/
theorem PRow.tail {w : World} {g : Nat} {l : List (BitVec 8)} (h : PRow w g l) (k n : Nat) (hk : k < 256) (hn : n = 256 - k) : Bytes w.heap.size w (.slice (some ⟨g, k, none⟩) n n) (l.drop k) := by
  subst hn
  have := Bytes.cut (l := k) (h := 256) h.bytes (by omega) (by rw [h.1]; omega)
  rw [if_neg (by omega), Option.map_some, add_lit, Nat.zero_add, List.take_of_length_le (by rw [h.1]; omega)] at this
  exact this
theorem PRow.head {w : World} {g : Nat} {l : List (BitVec 8)} (h : PRow w g l) (k : Nat) (hk : k ≤ 256) : Bytes w.heap.size w (.slice (some ⟨g, 0, none⟩) k 256) (l.take k) := Bytes.take h.bytes (by rw [h.1]; exact hk)
end Go.Proofs.YtjcommodiihcdaaDoor
