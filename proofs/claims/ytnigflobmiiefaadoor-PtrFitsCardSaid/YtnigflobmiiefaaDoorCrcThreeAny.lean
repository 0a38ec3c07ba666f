/- CrcThreeAny -/
import Derived.Test.YtnigflobmiiefaaDoorCrcWakes
import Derived.Test.YtnigflobmiiefaaDoorBaseA
/- The law on three rows, as a call. -/
namespace Go.Proofs.YtnigflobmiiefaaDoor
open Go.RowKit
set_option linter.unusedVariables false
set_option linter.unusedSimpArgs false
attribute [local go_sem] uI_beq bI_beq bits_xor_b bits_xor_u cutA_zero Nat.sub_zero
attribute [local go_sem high] sliced_cut
theorem sum1 {w : World} {v : Value} {l : List (BitVec 8)} (hp : Parts w.heap.size w v [l]) :
    Calls Tryd.prog 43 #[v] w fun e w' => e = .returned (.int .u64 (uI (CrcM.sum l))) ∧ Grows w w' :=
  (sum_any v [l] w hp).mono fun e w' ⟨he, hb⟩ => ⟨by rw [he]; simp, hb⟩
theorem parts_mono (l : List (BitVec 8)) : ∀ v w w', Parts w.heap.size w v [l] → Grows w w' → Parts w'.heap.size w' v [l] := fun _ _ _ h hg => (h.below hg).more (Below.size hg)
theorem val_mono (x : Value) : ∀ (v : Value) (w w' : World), v = x → Grows w w' → v = x := fun _ _ _ h _ => h
theorem bytes_grow {W w : World} {v : Value} {l : List (BitVec 8)} (h : Bytes W.heap.size W v l) (hg : Grows W.drew w) : Bytes w.heap.size w v l := (Sl.below (W := W.drew) h hg).more (show W.drew.heap.size ≤ w.heap.size from Below.size hg)
/-- Three rows combined. -/
def x3 (a b c : List (BitVec 8)) : List (BitVec 8) := List.zipWith (· ^^^ ·) (List.zipWith (· ^^^ ·) a b) c
theorem x3_get (a b c : List (BitVec 8)) (k : Nat) (x y z : BitVec 8) (hx : a[k]? = some x) (hy : b[k]? = some y) (hz : c[k]? = some z) : (x3 a b c)[k]? = some (x ^^^ y ^^^ z) := by
  simp [x3, List.getElem?_zipWith, hx, hy, hz]
end Go.Proofs.YtnigflobmiiefaaDoor
