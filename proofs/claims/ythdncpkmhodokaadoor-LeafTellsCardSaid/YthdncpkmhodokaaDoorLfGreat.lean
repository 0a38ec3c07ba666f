/- LfGreat -/
import Derived.Test.YthdncpkmhodokaaDoorLfA
/- The document's Great for layer 6: items too many or too long to be asked. -/
namespace Go.Proofs.YthdncpkmhodokaaDoor
open Go.RowKit
set_option linter.unusedVariables false
set_option linter.unusedSimpArgs false
set_option maxHeartbeats 1000000 in
theorem rgreat6_any (v : Value) (l : List It) (w : World) (hv : Its w.heap.size w v l) :
    Calls Tryd.prog 8 #[v] w fun e w' => e = .returned (.bool (LeafM.great l)) ∧ Grows w w' := by
  obtain ⟨A, cap, rfl, q1, q2, q3⟩ := hv.form
  have HQ := Lib.hid q3
  clear q3 hv
  unfold maxLen at q2
  go_enter Tryd.func8, Tryd.ntmps8
  go_wp2
  go_loopw [3] (fun i wr => ∃ k : Nat, k ≤ l.length ∧ k ≤ 21 ∧ i = .int .i64 k ∧ (l.take k).any LeafM.big = false ∧ Grows w wr) (fun i _ => l.length - (intOf i).toNat)
  case atStart => exact ⟨0, Nat.zero_le _, by omega, rfl, rfl, Grows.refl _⟩
  case round =>
    obtain ⟨k, hk, hk2, rfl, hg, hb⟩ := hrel
    have HGr := Lib.hid hg; have HB := Lib.hid hb
    clear hg hb
    by_cases hlt : k < l.length
    · by_cases h20 : k ≤ 20
      · have h20' : (k : Int) ≤ 20 := by omega
        obtain ⟨g1, o1, rfl, hg1, hcA⟩ := HQ.out (by omega)
        have e1 : l[k]? = some l[k] := List.getElem?_eq_getElem hlt
        obtain ⟨r, hr, hc⟩ := hcA k _ e1
        obtain ⟨z0, z1, _⟩ := raw_at hc
        have hc0 := (Below.cell HB.out (p := ⟨g1, o1 + k * 8, none⟩) hg1).trans z0
        have hc1 := (Below.cell HB.out (p := ⟨g1, o1 + k * 8 + 1, none⟩) hg1).trans z1
        have k1 := hr.1.len
        have k2 := hr.2.1.len
        have HS := Lib.hid (LeafM.any_step HGr.out e1)
        have HT := Lib.hid (LeafM.great_true e1 h20)
        have HD : Hid (LeafM.big l[k] = (decide (40 < r.kn) || decide (800 < r.vn))) := by unfold Hid; rw [k1, k2]; rfl
        clear e1 hcA hc z0 z1 hr k1 k2
        generalize l[k] = x at *
        generalize r.kn = n1 at *
        generalize r.vn = n2 at *
        generalize LeafM.big x = t at *
        by_cases a1 : 40 < n1
        · have a1' : (40 : Int) < n1 := by omega
          have HTt : Hid (t = true) := by unfold Hid; rw [HD.out, decide_eq_true a1]; rfl
          go_wp2
          go_ret
          exact ⟨by rw [HT.out HTt.out]; rfl, HB.out⟩
        have a1' : ¬ (40 : Int) < n1 := by omega
        by_cases a2 : 800 < n2
        · have a2' : (800 : Int) < n2 := by omega
          have HTt : Hid (t = true) := by unfold Hid; rw [HD.out, decide_eq_true a2, Bool.or_true]
          go_wp2
          go_ret
          exact ⟨by rw [HT.out HTt.out]; rfl, HB.out⟩
        have a2' : ¬ (800 : Int) < n2 := by omega
        have HF : Hid (t = false) := by unfold Hid; rw [HD.out, decide_eq_false a1, decide_eq_false a2]; rfl
        go_wp2
        go_roundw
        case rel => exact ⟨k + 1, by omega, by omega, by go_num, by rw [HS.out, HF.out], HB.out⟩
        case measure => simp [intOf]; omega
      · obtain rfl : k = 21 := by omega
        have HE := Lib.hid (LeafM.great_end HGr.out (by omega) (.inr rfl))
        have hgt : (20 : Int) < l.length := by omega
        have HT : Hid (decide (20 < l.length) = true) := decide_eq_true (by omega)
        go_wp2
        go_ret
        exact ⟨by rw [HE.out, HT.out]; rfl, HB.out⟩
    · have HE := Lib.hid (LeafM.great_end HGr.out hk2 (.inl (by omega)))
      by_cases hgt : 20 < l.length
      · have hgt' : (20 : Int) < l.length := by omega
        have HT : Hid (decide (20 < l.length) = true) := decide_eq_true (by omega)
        go_wp2
        go_ret
        exact ⟨by rw [HE.out, HT.out]; rfl, HB.out⟩
      · have hgt' : ¬ (20 : Int) < l.length := by omega
        have HT : Hid (decide (20 < l.length) = false) := decide_eq_false (by omega)
        go_wp2
        go_ret
        exact ⟨by rw [HE.out, HT.out]; rfl, HB.out⟩
end Go.Proofs.YthdncpkmhodokaaDoor
