/- VdIter -/
import Derived.Test.YtnigflobmiiefaaDoorBaseA
import Derived.Test.YtnigflobmiiefaaDoorBaseB
import Derived.RangeFuncNested
import Derived.RangeFuncBound
import Derived.RangeFuncCalls
import Derived.RangeFuncLeaves
import Derived.OwnWalkIn
import Derived.TacticsInMore
import Derived.LoopNIn
import Derived.LoopIn
import Derived.Lib.Hide
/- Layer 3's small answers and its iterator: sizes, places; a cache's writes, from the last one on. -/
namespace Go.Proofs.YtnigflobmiiefaaDoor
open Go.RowKit
set_option linter.unusedVariables false
set_option linter.unusedSimpArgs false
attribute [local go_sem] Oper.semAt_some
/-- The places from the last one down to k. -/
def backs (n k : Nat) : List (Fin n) := ((List.finRange n).drop k).reverse
theorem backs_full (n : Nat) : backs n n = [] := by unfold backs; rw [List.drop_eq_nil_of_le (by simp)]; rfl
theorem backs_step {n k : Nat} (h : k < n) : backs n k = backs n (k + 1) ++ [⟨k, h⟩] := by
  unfold backs
  rw [List.drop_eq_getElem_cons (by simpa using h), List.reverse_cons]
  simp
theorem backs_zero (n : Nat) : backs n 0 = (List.finRange n).reverse := rfl
theorem backs_prefix (n k : Nat) : backs n k <+: (List.finRange n).reverse := by
  refine ⟨((List.finRange n).take k).reverse, ?_⟩
  unfold backs
  rw [← List.reverse_append, List.take_append_drop]
theorem backs_len (n k : Nat) : (backs n k).length = n - k := by simp [backs]
theorem prefix_backs {n : Nat} {pre : List (Fin n)} (h : pre <+: (List.finRange n).reverse) : pre = backs n (n - pre.length) := by
  obtain ⟨t, ht⟩ := h
  have hl := congrArg List.length ht
  simp only [List.length_append, List.length_reverse, List.length_finRange] at hl
  obtain ⟨s, hs⟩ := backs_prefix n (n - pre.length)
  refine List.append_inj_left (hs.symm ▸ ht : pre ++ t = backs n (n - pre.length) ++ s) ?_
  rw [backs_len]; omega
/-- Where a cache's write stands. -/
def wrAt (g o : Nat) (j : Nat) : Value := .pointer (some ⟨g, o + j * 257, none⟩)
end Go.Proofs.YtnigflobmiiefaaDoor
