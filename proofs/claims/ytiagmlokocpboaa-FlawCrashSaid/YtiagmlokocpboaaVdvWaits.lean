/- VdvWaits -/
import Derived.Test.YtiagmlokocpboaaVdvSort
/- vdev.Waits. -/
namespace Go.Proofs.Ytiagmlokocpboaa
open Go.RowKit Go.Shelf
set_option linter.unusedVariables false
set_option linter.unusedSimpArgs false
attribute [local go_sem] Oper.semAt_some
/-- What a round keeps: the places so far. -/
def InvW (w : World) (Bs : Nat) (C : Value) (c : List (Int × Pg)) (pre : List (Fin c.length)) (W : World) : Prop :=
  (∃ v, Row W (w.heap.size + 1) 24 #[v] ∧ Own' 3 1 intE w.heap.size W v (pre.map fun j => (c[j.val]).1)) ∧ Row W Bs 23 #[C] ∧ pre.length ≤ c.length ∧ Below w.heap.size w W
theorem places_all (c : List (Int × Pg)) : (List.finRange c.length).reverse.map (fun j => (c[j.val]).1) = (c.map (·.1)).reverse := by
  have := congrArg (List.map (·.1)) (VdM.revs_map c)
  rw [List.map_map] at this
  rw [← List.map_reverse, ← this]
  rfl
end Go.Proofs.Ytiagmlokocpboaa
