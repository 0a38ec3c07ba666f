/- PackPage -/
import Derived.Test.YtnigflobmiiefaaDoorPackSmall
import Derived.Test.YtnigflobmiiefaaDoorPage
/- pack.Clean, Fill, Halves. -/
namespace Go.Proofs.YtnigflobmiiefaaDoor
open Go.RowKit
set_option linter.unusedVariables false
set_option linter.unusedSimpArgs false
attribute [local go_sem high] sliced_cut
attribute [local go_sem] cutA_zero Nat.sub_zero
theorem all_snoc (b : List (BitVec 8)) (k : Nat) (x : BitVec 8) (h : b[k]? = some x) : (b.take (k + 1)).all (· == 0#8) = ((b.take k).all (· == 0#8) && (x == 0#8)) := by
  rw [List.take_add_one, h]; simp
theorem clean_not (b : List (BitVec 8)) (k : Nat) (x : BitVec 8) (h : b[k]? = some x) (hx : x ≠ 0#8) : PackM.clean b = false := by
  unfold PackM.clean
  rw [List.all_eq_false]
  exact ⟨x, List.mem_of_getElem? h, by simpa using hx⟩
theorem nought_beq (x : BitVec 8) (h : x = 0#8) : (bI x == 0) = true ∧ (bI x != 0) = false := by subst h; exact ⟨rfl, rfl⟩
theorem nought_bne (x : BitVec 8) (h : x ≠ 0#8) : (bI x == 0) = false ∧ (bI x != 0) = true := by
  have : bI x ≠ 0 := fun e => h (bI_inj (y := 0#8) e)
  exact ⟨by simpa using this, by simpa using this⟩
theorem splice_fill (b : List (BitVec 8)) (h : b.length ≤ 256) : (splice (pageA noughts).toList 0 (b.map byteV)).toArray = pageA (PackM.fill b) := by
  unfold PackM.fill
  rw [if_neg (by omega)]
  unfold splice pageA noughts
  rw [Nat.zero_add, List.take_zero, List.nil_append, List.length_map]
  congr 1
  rw [List.map_append]
  congr 1
  show ((List.replicate 256 0#8).map byteV).drop b.length = _
  rw [← List.map_drop, List.drop_replicate]
end Go.Proofs.YtnigflobmiiefaaDoor
