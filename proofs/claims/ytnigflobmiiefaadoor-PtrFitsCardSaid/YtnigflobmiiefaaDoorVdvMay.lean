/- VdvMay -/
import Derived.Test.YtnigflobmiiefaaDoorBaseA
import Derived.Test.YtnigflobmiiefaaDoorVdRef
import Derived.Test.YtnigflobmiiefaaDoorVdIter
import Derived.BigRegionIn
import Derived.Shelf.Abstract
import Derived.ProofKit
import Derived.OpenShut
import Derived.Stop.RegionWithIn
import Derived.Scope
/- vdev.May: which disks may be. -/
namespace Go.Proofs.YtnigflobmiiefaaDoor
open Go.RowKit Go.Shelf
set_option linter.unusedVariables false
set_option linter.unusedSimpArgs false
attribute [local go_sem] Oper.semAt_some
theorem results_bool_cell {fn : Func} {p : Tmp} {w : World} {g : Nat} {b : Bool} (h : fn.results = #[.cell p 4]) (tmps : Array Value) (hp : tmps.getD p undef = .pointer (some ⟨g, 0, none⟩)) (hr : Row w g 4 #[.bool b]) :
    (results fn tmps).run Tryd.prog w = .ok (.bool b) w := by
  have hp' : tmps[p]?.getD undef = .pointer (some ⟨g, 0, none⟩) := by simpa using hp
  have hc : w.cell? ⟨g, 0, none⟩ = some (.bool b) := hr.cell 0
  have hagg : (isAgg 4).run Tryd.prog w = .ok false w := by
    unfold isAgg
    rw [Sem.run_bind, run_underlying Tryd.underlying4 w]
    rfl
  simp [results, h, hp', asAddr, loadVar, hagg, go_sem, hc]
def LeftM (w : World) (n : Nat) (c : List (Int × Pg)) (cd : Code) (pre : List (Fin c.length)) (W : World) : Prop :=
  (cd = .ret ∧ ∃ j : Fin c.length, ¬ (0 ≤ (c[j.val]).1 ∧ (c[j.val]).1 < n)) ∧ Row W (w.heap.size + 1) 4 #[.bool false] ∧ Below w.heap.size w W
end Go.Proofs.YtnigflobmiiefaaDoor
