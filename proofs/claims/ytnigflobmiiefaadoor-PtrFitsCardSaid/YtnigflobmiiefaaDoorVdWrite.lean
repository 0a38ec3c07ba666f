/- VdWrite -/
import Derived.Test.YtnigflobmiiefaaDoorBaseA
import Derived.Test.YtnigflobmiiefaaDoorVdRead
import Derived.Test.YtnigflobmiiefaaDoorBaseB
/- The document's Write. -/
namespace Go.Proofs.YtnigflobmiiefaaDoor
open Go.RowKit
set_option linter.unusedVariables false
set_option linter.unusedSimpArgs false
/-- A disk's four cells, each of them one cell. -/
theorem dk_one {B : Nat} {W : World} {D : Array Value} {d : Dk} (h : IsDisk B W (.agg D) d) : D.size = 4 ∧ D.all (·.oneCell') = true := by
  obtain ⟨pv, cv, bv, h0, h1, h2, h3⟩ := h
  obtain ⟨A, cap, rfl, _⟩ := h1.form
  obtain ⟨A', cap', rfl, _⟩ := h2.form
  obtain ⟨A'', cap'', rfl, _⟩ := h3.form
  simp only [Value.agg.injEq] at h0
  subst h0
  exact ⟨rfl, by simp [Value.oneCell']⟩
def noDk : Array Value := #[.slice none 0 0, .slice none 0 0, .slice none 0 0, .bool false]
section
variable {w : World} {ops : Array Oper} {rest : List Oper} {o : Oper} {a : Act} {Q : Exit → Act → World → Prop}
theorem wpList_load_pgrow (hgd : o.guard = none) (x : Operand) (ho : o.op = .load 29 x) (g : Nat) (p : Pg) (hx : a.eval x = .pointer (some ⟨g, 0, none⟩)) (hl : p.length = 256) (hr : Row w g 29 (pgA p))
    (h : wpList Tryd.prog ops Q rest (a.put o.dst (.agg (pgA p))) w) : wpList Tryd.prog ops Q (o :: rest) a w :=
  wpList_load_row hgd 29 x ho g hx 29 (pgA p) (0, 0) _ hr Tryd.underlying29 rfl (by rw [pgA_size, hl]; exact pg_info) h
end
section
variable {w : World} {ops : Array Oper} {rest : List Oper} {o : Oper} {a : Act} {Q : Exit → Act → World → Prop}
end
end Go.Proofs.YtnigflobmiiefaaDoor
