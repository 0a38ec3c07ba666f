/- VdvWrite -/
import Derived.Test.YtnigflobmiiefaaDoorVdvOwn
import Derived.Test.YtnigflobmiiefaaDoorVdNew
import Derived.Test.YtnigflobmiiefaaDoorVdvMay
/- vdev.Write. -/
namespace Go.Proofs.YtnigflobmiiefaaDoor
open Go.RowKit
set_option linter.unusedVariables false
set_option linter.unusedSimpArgs false
theorem pg_run_load_row {w : World} {g : Nat} {p : Pg} (hl : p.length = 256) (hr : Row w g 29 (pgA p)) : (loadVar 29 ⟨g, 0, none⟩).run Tryd.prog w = .ok (.agg (pgA p)) w :=
  run_loadVar_row w g 29 29 (pgA p) (0, 0) _ hr Tryd.underlying29 rfl (by rw [pgA_size, hl]; kernel_rfl)
/-- A list that grows with the heap. -/
def ElsAt {α : Type} (s : Nat) (f : α → List Value) (l : List α) (v : Value) (w : World) : Prop := Els s f w.heap.size w v l
theorem ElsAt.mono {α : Type} {s : Nat} {f : α → List Value} (l : List α) : ∀ v w w', ElsAt s f l v w → Grows w w' → ElsAt s f l v w' := fun v w w' h hg => h.grows hg
end Go.Proofs.YtnigflobmiiefaaDoor
