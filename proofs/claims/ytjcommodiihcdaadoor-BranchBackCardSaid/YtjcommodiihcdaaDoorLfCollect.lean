/- LfCollect -/
import Derived.Test.YtjcommodiihcdaaDoorLfIter
import Derived.Test.YtjcommodiihcdaaDoorVdA
/- Layer 6: the items that a page tells, collected. -/
namespace Go.Proofs.YtjcommodiihcdaaDoor
open Go.RowKit Go.Shelf Go.Joins
set_option linter.unusedVariables false
set_option linter.unusedSimpArgs false
attribute [local go_sem] Oper.semAt_some
theorem Turns.below {B : Nat} {w W W' : World} (h : Turns B W W') (hb : Below B w W) (hB : B ≤ W.heap.size) : Below B w W' := by
  obtain ⟨l, o, o', h1, h2, h3, rfl⟩ := h
  exact hb.grown (grownBy_putObj' W l o') hB (fun k e => by cases e; exact h1)
theorem Turns.less {B B' : Nat} {W W' : World} (h : Turns B' W W') (hB : B ≤ B') : Turns B W W' := by
  obtain ⟨l, o, o', h1, h2, h3, rfl⟩ := h
  exact ⟨l, o, o', Nat.le_trans hB h1, h2, h3, rfl⟩
theorem Turns.row {B g : Nat} {W W' : World} {t : TypeId} {cs : Array Value} (h : Turns B W W') (hr : Row W g t cs) : Row W' g t cs := by
  obtain ⟨l, o, o', h1, h2, h3, rfl⟩ := h
  refine (World.putObj_heap_other ?_).trans hr
  intro e
  subst e
  rw [show W.heap[g]? = _ from hr] at h2
  cases h2
  cases h3
theorem Turns.mine {B base : Nat} {W W' : World} {v : Value} {l : List (BitVec 8)} (h : Turns B W W') (hm : Mine base W v l) : Mine base W' v l := by
  obtain ⟨k, o, o', h1, h2, h3, rfl⟩ := h
  exact ownsRow_putObj hm o' h2 h3
theorem Turns.rawOwn {B base : Nat} {W W' : World} {r : Raw} {x : It} (h : Turns B W W') (hr : RawOwn base W r x) : RawOwn base W' r x := ⟨h.mine hr.1, h.mine hr.2.1, hr.2.2⟩
theorem Turns.leaves {B : Nat} {W W' : World} (h : Turns B W W') (hB : B ≤ W.heap.size) : Leaves B W W' := ⟨h.below (Below.refl _ _) hB, fun v l hm => h.mine hm⟩
theorem Leaves.of_grows {B : Nat} {W W' : World} (h : Grows W W') (hB : B ≤ W.heap.size) : Leaves B W W' := ⟨Below.mono h hB, fun v l hm => hm.grows h⟩
section
variable {F : Fence} {nn : Nat} {w : World} {ops : Array Oper} {rest : List Oper} {o : Oper} {a : Act} {Q : Exit → Act → World → Prop}
end
end Go.Proofs.YtjcommodiihcdaaDoor
