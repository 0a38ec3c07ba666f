/- VdRef -/
import Derived.Test.YtiagmlokocpboaaBaseB
import Derived.Test.YtiagmlokocpboaaBaseA
import Derived.BigQuiet
import Derived.Lib.Hide
import Derived.RangeFuncBox
/- The document's answers for layer 3: numbers compared, which disks may be. -/
namespace Go.Proofs.Ytiagmlokocpboaa
open Go.RowKit
set_option linter.unusedVariables false
set_option linter.unusedSimpArgs false
/-- What a slice of numbers gives at a place. -/
theorem Els.ints {B : Nat} {W : World} {v : Value} {l : List Int} (h : Els 1 intE B W v l) : ∃ A cap, v = .slice A l.length cap ∧ l.length ≤ cap ∧ cap ≤ maxLen ∧ (0 < l.length → ∃ b o, A = some ⟨b, o, none⟩ ∧ b < B ∧ ∀ j x, l[j]? = some x → W.cell? ⟨b, o + j, none⟩ = some (.int .i64 x)) := by
  obtain ⟨A, cap, hv, h1, h2, h3⟩ := h.form
  refine ⟨A, cap, hv, h1, h2, fun hp => ?_⟩
  obtain ⟨b, o, ha, hb, hr⟩ := h3 hp
  refine ⟨b, o, ha, hb, fun j x hx => ?_⟩
  have := hr j x hx 0 (.int .i64 x) rfl
  simpa using this
theorem take_eq_step {a b : List Int} {k : Nat} (h : a.take k = b.take k) {x : Int} (ha : a[k]? = some x) (hb : b[k]? = some x) : a.take (k + 1) = b.take (k + 1) := by
  rw [List.take_add_one, List.take_add_one, h, ha, hb]
theorem below_drewN' {B : Nat} {a w : World} (h : Below B a w) (n : Nat) : Below B a (w.drewN n) := ⟨h.os, h.tape, h.output, h.size, h.block⟩
end Go.Proofs.Ytiagmlokocpboaa
