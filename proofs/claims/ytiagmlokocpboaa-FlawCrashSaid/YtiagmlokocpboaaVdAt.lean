/- VdAt -/
import Derived.Test.YtiagmlokocpboaaVdCopy
import Derived.Test.YtiagmlokocpboaaVdMay
/- The document's at: the errors of a place. -/
namespace Go.Proofs.Ytiagmlokocpboaa
open Go.RowKit
set_option linter.unusedVariables false
set_option linter.unusedSimpArgs false
section
variable {w : World} {ops : Array Oper} {rest : List Oper} {o : Oper} {a : Act} {Q : Exit → Act → World → Prop}
theorem wpList_load_dk (hgd : o.guard = none) (x : Operand) (ho : o.op = .load 26 x) (g : Nat) (D : Array Value) (hx : a.eval x = .pointer (some ⟨g, 0, none⟩)) (hr : Row w g 26 D) (h4 : D.size = 4)
    (h : wpList Try.prog ops Q rest (a.put o.dst (.agg D)) w) : wpList Try.prog ops Q (o :: rest) a w :=
  wpList_load_row hgd 26 x ho g hx 26 D (0, 0) _ hr Try.underlying26 rfl (by rw [h4]; exact disk_info) h
end
theorem rat_any (v : Value) (d : Dk) (n : Int) (w : World) (hv : IsDisk w.heap.size w v d) :
    Calls Try.prog 36 #[v, .int .i64 n] w fun e w' => e = .returned (.int .i64 (VdM.atE d n)) ∧ Grows w w' := by
  have HV := Lib.hid hv
  obtain ⟨pv, cv, bv, rfl, hp, _⟩ := hv
  obtain ⟨A, cap, rfl, q1, q2, q3⟩ := hp.form
  clear q3 hp
  unfold maxLen at q2
  have HA : Hid (VdM.atE d n = if VdM.may d = true ∧ 0 ≤ n ∧ n < d.pages.length then (if d.off then 30 else 0) else 2) := rfl
  obtain ⟨D, hD⟩ : ∃ D, D = #[Value.slice A d.pages.length cap, cv, bv, .bool d.off] := ⟨_, rfl⟩
  have Ds : Hid (D.size = 4 ∧ D[0]? = some (.slice A d.pages.length cap) ∧ D[3]? = some (.bool d.off)) := by subst hD; exact ⟨rfl, rfl, rfl⟩
  rw [← hD] at HV ⊢
  clear hD
  have R1 := Lib.hid (Row.new w 26 D)
  have HG := Lib.hid (Grows.alloc w (.cells D 26))
  have HM := Lib.hid (rmay_any (.agg D) d (w.alloc (.cells D 26)) (HV.out.grows HG.out))
  by_cases h1 : VdM.may d = true
  case neg =>
    have h1' : VdM.may d = false := by simpa using h1
    have HE : Hid (VdM.atE d n = 2) := HA.out.trans (if_neg (fun h => h1 h.1))
    rw [h1'] at HM
    clear h1 h1'
    go_enter Try.func36, Try.ntmps36
    go_wp2_with (first
      | ((with_reducible refine wpList_load_dk ?_ (.tmp 2) ?_ w.heap.size D ?_ ?_ ?_ ?_); exact rfl; exact rfl; exact rfl; exact R1.out; exact Ds.out.1)
      | (go_at_call 23; refine HM.out.mono ?_; rintro e w1 ⟨rfl, g1⟩; have HG1 := Lib.hid (HG.out.trans g1); clear g1))
    go_ret
    exact ⟨by rw [HE.out]; rfl, HG1.out⟩
  rw [h1] at HM
  have H1 := Lib.hid h1
  clear h1
  by_cases h2 : 0 ≤ n ∧ n < d.pages.length
  case neg =>
    have HE : Hid (VdM.atE d n = 2) := HA.out.trans (if_neg (fun h => h2 h.2))
    by_cases h3 : n < 0
    · clear h2
      go_enter Try.func36, Try.ntmps36
      go_wp2_with (first
        | ((with_reducible refine wpList_load_dk ?_ (.tmp 2) ?_ w.heap.size D ?_ ?_ ?_ ?_); exact rfl; exact rfl; exact rfl; exact R1.out; exact Ds.out.1)
        | (go_at_call 23; refine HM.out.mono ?_; rintro e w1 ⟨rfl, g1⟩; have HG1 := Lib.hid (HG.out.trans g1); clear g1))
      go_ret
      exact ⟨by rw [HE.out]; rfl, HG1.out⟩
    · have h4 : (d.pages.length : Int) ≤ n := by omega
      clear h2
      go_enter Try.func36, Try.ntmps36
      go_wp2_with (first
        | ((with_reducible refine wpList_load_dk ?_ (.tmp 2) ?_ w.heap.size D ?_ ?_ ?_ ?_); exact rfl; exact rfl; exact rfl; exact R1.out; exact Ds.out.1)
        | (go_at_call 23; refine HM.out.mono ?_; rintro e w1 ⟨rfl, g1⟩; have b0 := ((Row.grows R1.out g1).cell 0).trans Ds.out.2.1; have HG1 := Lib.hid (HG.out.trans g1); clear g1))
      go_ret
      exact ⟨by rw [HE.out]; rfl, HG1.out⟩
  obtain ⟨h2, h3⟩ := h2
  have HE : Hid (VdM.atE d n = if d.off then 30 else 0) := HA.out.trans (if_pos ⟨H1.out, h2, h3⟩)
  generalize d.off = off at *
  cases off
  all_goals
    go_enter Try.func36, Try.ntmps36
    go_wp2_with (first
      | ((with_reducible refine wpList_load_dk ?_ (.tmp 2) ?_ w.heap.size D ?_ ?_ ?_ ?_); exact rfl; exact rfl; exact rfl; exact R1.out; exact Ds.out.1)
      | (go_at_call 23; refine HM.out.mono ?_; rintro e w1 ⟨rfl, g1⟩; have b0 := ((Row.grows R1.out g1).cell 0).trans Ds.out.2.1; have b3 := ((Row.grows R1.out g1).cell 3).trans Ds.out.2.2; have HG1 := Lib.hid (HG.out.trans g1); clear g1))
    go_ret
    exact ⟨by rw [HE.out]; rfl, HG1.out⟩
end Go.Proofs.Ytiagmlokocpboaa
