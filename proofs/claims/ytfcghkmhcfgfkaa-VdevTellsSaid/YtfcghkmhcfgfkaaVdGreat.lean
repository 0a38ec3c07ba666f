/- The document's Great: disks too great to be asked. -/
import Derived.Test.YtfcghkmhcfgfkaaVdRef
namespace Go.Proofs.Ytfcghkmhcfgfkaa
open Go.RowKit
set_option linter.unusedVariables false
set_option linter.unusedSimpArgs false
/-- A slice of disks. -/
def Disks (B : Nat) (W : World) (v : Value) (ds : List Dk) : Prop :=
  ∃ vs : List (List Value), Els 4 id B W v vs ∧ vs.length = ds.length ∧ ∀ (i : Nat) (x : List Value) (d : Dk), vs[i]? = some x → ds[i]? = some d → IsDisk B W (.agg x.toArray) d
theorem disk_cells {B : Nat} {W : World} {x : List Value} {d : Dk} (h : IsDisk B W (.agg x.toArray) d) : ∃ A cap A' cap' A'' cap'', x = [.slice A d.pages.length cap, .slice A' d.cache.length cap', .slice A'' d.bad.length cap'', .bool d.off] := by
  obtain ⟨pv, cv, bv, h0, h1, h2, h3⟩ := h
  obtain ⟨A, cap, rfl, _⟩ := h1.form
  obtain ⟨A', cap', rfl, _⟩ := h2.form
  obtain ⟨A'', cap'', rfl, _⟩ := h3.form
  simp only [Value.agg.injEq] at h0
  exact ⟨A, cap, A', cap', A'', cap'', by simpa using congrArg Array.toList h0⟩
set_option maxHeartbeats 1000000 in
/-- The document's Great. -/
theorem rgreat_any (v : Value) (ds : List Dk) (w : World) (hv : Disks w.heap.size w v ds) :
    Calls Try.prog 8 #[v] w fun e w' => e = .returned (.bool (ds.any VdM.great)) ∧ Grows w w' := by
  obtain ⟨vs, he, hl, hx⟩ := hv
  obtain ⟨A, cap, rfl, q1, q2, q3⟩ := he.form
  have HQ := Lib.hid q3; have HX := Lib.hid hx
  clear q3 hx he
  unfold maxLen at q2
  go_enter Try.func8, Try.ntmps8
  go_wp2
  go_loopw [3] (fun i wr => ∃ k : Nat, k ≤ vs.length ∧ i = .int .i64 k ∧ (ds.take k).any VdM.great = false ∧ Grows w wr) (fun i _ => vs.length - (intOf i).toNat)
  case atStart => exact ⟨0, Nat.zero_le _, rfl, rfl, Grows.refl _⟩
  case round =>
    obtain ⟨k, hk, rfl, hg, hb⟩ := hrel
    have HGr := Lib.hid hg; have HB := Lib.hid hb
    clear hg hb
    by_cases hlt : k < vs.length
    · obtain ⟨g1, o1, rfl, hg1, hcA⟩ := HQ.out (by omega)
      have e1 : vs[k]? = some vs[k] := List.getElem?_eq_getElem hlt
      have e2 : ds[k]? = some (ds[k]'(by omega)) := List.getElem?_eq_getElem (by omega)
      obtain ⟨A1, c1, A2, c2, A3, c3, hcs⟩ := disk_cells (HX.out k _ _ e1 e2)
      have hr := hcA k _ e1
      have HE2 := Lib.hid e2
      generalize ds[k]'(by omega) = d at *
      rw [hcs] at hr
      have hc0 := (Below.cell HB.out (p := ⟨g1, o1 + k * 4, none⟩) hg1).trans (hr 0 _ rfl)
      have hc1 := (Below.cell HB.out (p := ⟨g1, o1 + k * 4 + 1, none⟩) hg1).trans (hr 1 _ rfl)
      have hc2 := (Below.cell HB.out (p := ⟨g1, o1 + k * 4 + 2, none⟩) hg1).trans (hr 2 _ rfl)
      have HS : Hid ((ds.take (k + 1)).any VdM.great = VdM.great d) := by
        unfold Hid
        rw [List.take_add_one, HE2.out, List.any_append, HGr.out]
        simp
      have HA : Hid (VdM.great d = true → ds.any VdM.great = true) := fun h => List.any_eq_true.2 ⟨d, List.mem_of_getElem? HE2.out, h⟩
      have HD : Hid (VdM.great d = (decide (300 < d.pages.length) || decide (60 < d.cache.length) || decide (300 < d.bad.length))) := rfl
      clear e1 e2 hcA hcs hr
      generalize d.pages.length = n1 at *
      generalize d.cache.length = n2 at *
      generalize d.bad.length = n3 at *
      by_cases a1 : 300 < n1
      · have a1' : (300 : Int) < n1 := by omega
        have HT : Hid (VdM.great d = true) := by unfold Hid; rw [HD.out, decide_eq_true a1]; rfl
        go_wp2
        go_ret
        exact ⟨by rw [HA.out HT.out]; rfl, HB.out⟩
      have a1' : ¬ (300 : Int) < n1 := by omega
      by_cases a2 : 60 < n2
      · have a2' : (60 : Int) < n2 := by omega
        have HT : Hid (VdM.great d = true) := by unfold Hid; rw [HD.out, decide_eq_true a2, Bool.or_true]; rfl
        go_wp2
        go_ret
        exact ⟨by rw [HA.out HT.out]; rfl, HB.out⟩
      have a2' : ¬ (60 : Int) < n2 := by omega
      by_cases a3 : 300 < n3
      · have a3' : (300 : Int) < n3 := by omega
        have HT : Hid (VdM.great d = true) := by unfold Hid; rw [HD.out, decide_eq_true a3, Bool.or_true]
        go_wp2
        go_ret
        exact ⟨by rw [HA.out HT.out]; rfl, HB.out⟩
      have a3' : ¬ (300 : Int) < n3 := by omega
      have HF : Hid (VdM.great d = false) := by unfold Hid; rw [HD.out, decide_eq_false a1, decide_eq_false a2, decide_eq_false a3]; rfl
      go_wp2
      go_roundw
      case rel => exact ⟨k + 1, by omega, by go_num, by rw [HS.out, HF.out], HB.out⟩
      case measure => simp [intOf]; omega
    · obtain rfl : k = vs.length := by omega
      have HF : Hid (ds.any VdM.great = false) := by have := HGr.out; rwa [hl, List.take_length] at this
      go_wp2
      go_ret
      exact ⟨by rw [HF.out]; rfl, HB.out⟩
end Go.Proofs.Ytfcghkmhcfgfkaa
