/- VdGreat -/
import Derived.Test.YtnigflobmiiefaaDoorVdRef
/- The document's Great: disks too great to be asked. -/
namespace Go.Proofs.YtnigflobmiiefaaDoor
open Go.RowKit
set_option linter.unusedVariables false
set_option linter.unusedSimpArgs false
/-- A slice of disks. -/
def Disks (B : Nat) (W : World) (v : Value) (ds : List Dk) : Prop :=
  ∃ vs : List (List Value), Els 4 id B W v vs ∧ vs.length = ds.length ∧ ∀ (i : Nat) (x : List Value) (d : Dk), vs[i]? = some x → ds[i]? = some d → IsDisk B W (.agg x.toArray) d
theorem disk_cells {B : Nat} {W : World} {x : List Value} {d : Dk} (h : IsDisk B W (.agg x.toArray) d) : ∃ A cap A' cap' A'' cap'', x = [.slice A d.pages.length cap, .slice A' d.cache.length cap', .slice A'' d.bad.length cap'', .bool d.off] := by
  obtain ⟨pv, cv, bv, h0, h1, h2, h3⟩ := h
  obtain ⟨A, cap, rfl, _⟩ := h1.form
  obtain ⟨A', cap', rfl, _⟩ := h2.form
  obtain ⟨A'', cap'', rfl, _⟩ := h3.form
  simp only [Value.agg.injEq] at h0
  exact ⟨A, cap, A', cap', A'', cap'', by simpa using congrArg Array.toList h0⟩
end Go.Proofs.YtnigflobmiiefaaDoor
