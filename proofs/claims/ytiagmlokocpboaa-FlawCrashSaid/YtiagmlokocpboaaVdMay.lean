/- VdMay -/
import Derived.Test.YtiagmlokocpboaaVdRef
/- The document's May. -/
namespace Go.Proofs.Ytiagmlokocpboaa
open Go.RowKit
set_option linter.unusedVariables false
set_option linter.unusedSimpArgs false
set_option maxHeartbeats 1000000 in
/-- The document's May. -/
theorem rmay_any (v : Value) (d : Dk) (w : World) (hv : IsDisk w.heap.size w v d) :
    Calls Try.prog 23 #[v] w fun e w' => e = .returned (.bool (VdM.may d)) ∧ Grows w w' := by
  obtain ⟨pv, cv, bv, rfl, hp, hc, hb⟩ := hv
  obtain ⟨A, cap, rfl, q1, q2, q3⟩ := hp.form
  obtain ⟨A', cap', rfl, r1, r2, r3⟩ := hc.form
  obtain ⟨A'', cap'', rfl, s1, s2, s3⟩ := hb.ints
  have HR := Lib.hid r3; have HS := Lib.hid s3
  clear q3 r3 s3 hp hc hb
  unfold maxLen at q2 r2 s2
  obtain ⟨ps, cs, bs, off⟩ := d
  simp only at *
  have HG := Lib.hid (Grows.alloc w (.cells #[.slice A ps.length cap, .slice A' cs.length cap', .slice A'' bs.length cap'', .bool off] 26))
  by_cases h1 : ps.length < 32
  · have h1' : (ps.length : Int) < 32 := by omega
    have hm : Hid (VdM.may ⟨ps, cs, bs, off⟩ = false) := by unfold Hid VdM.may VdM.shape; simp; omega
    go_enter Try.func23, Try.ntmps23
    go_wp2
    go_ret
    exact ⟨by rw [hm.out]; rfl, HG.out⟩
  by_cases h2 : 256 < ps.length
  · have h2' : (256 : Int) < ps.length := by omega
    have h1' : ¬ (ps.length : Int) < 32 := by omega
    have hm : Hid (VdM.may ⟨ps, cs, bs, off⟩ = false) := by unfold Hid VdM.may VdM.shape; simp; omega
    go_enter Try.func23, Try.ntmps23
    go_wp2
    go_ret
    exact ⟨by rw [hm.out]; rfl, HG.out⟩
  have h1' : ¬ (ps.length : Int) < 32 := by omega
  have h2' : ¬ (256 : Int) < ps.length := by omega
  by_cases h3 : 2000 < cs.length
  · have h3' : (2000 : Int) < cs.length := by omega
    have hm : Hid (VdM.may ⟨ps, cs, bs, off⟩ = false) := by unfold Hid VdM.may VdM.shape; simp; omega
    go_enter Try.func23, Try.ntmps23
    go_wp2
    go_ret
    exact ⟨by rw [hm.out]; rfl, HG.out⟩
  have h3' : ¬ (2000 : Int) < cs.length := by omega
  by_cases h4 : off = true ∧ 0 < cs.length
  · obtain ⟨rfl, h4⟩ := h4
    have h4' : (0 : Int) < cs.length := by omega
    have hm : Hid (VdM.may ⟨ps, cs, bs, true⟩ = false) := by
      have h5 : decide (0 < cs.length) = true := decide_eq_true h4
      unfold Hid VdM.may VdM.shape
      simp only [h5]
      simp
    go_enter Try.func23, Try.ntmps23
    go_wp2
    go_ret
    exact ⟨by rw [hm.out]; rfl, HG.out⟩
  have hsh : Hid (VdM.shape ⟨ps, cs, bs, off⟩ = true) := by unfold Hid VdM.shape; simp; refine ⟨⟨⟨by omega, by omega⟩, by omega⟩, ?_⟩; cases off <;> simp_all
  have hm : Hid (VdM.may ⟨ps, cs, bs, off⟩ = (VdM.mayC ps.length cs && VdM.mayB ps.length bs)) := by
    unfold Hid VdM.may
    rw [hsh.out]; rfl
  clear hsh
  have key : Hid (off = false ∨ (off = true ∧ cs.length = 0)) := by
    cases off
    · exact .inl rfl
    · exact .inr ⟨rfl, by have : ¬ 0 < cs.length := fun h => h4 ⟨rfl, h⟩; omega⟩
  clear h4
  have RW := Lib.hid (Row.new w 26 #[.slice A ps.length cap, .slice A' cs.length cap', .slice A'' bs.length cap'', .bool off])
  generalize hD : #[Value.slice A ps.length cap, .slice A' cs.length cap', .slice A'' bs.length cap'', .bool off] = D at *
  have Ds : Hid (D[0]? = some (.slice A ps.length cap) ∧ D[1]? = some (.slice A' cs.length cap') ∧ D[2]? = some (.slice A'' bs.length cap'') ∧ D[3]? = some (.bool off)) := by subst hD; exact ⟨rfl, rfl, rfl, rfl⟩
  clear hD
  generalize ps.length = n at *
  have b0 := (RW.out.cell 0).trans Ds.out.1
  have b1 := (RW.out.cell 1).trans Ds.out.2.1
  have b2 := (RW.out.cell 2).trans Ds.out.2.2.1
  have b3 := (RW.out.cell 3).trans Ds.out.2.2.2
  have hq1 : Hid (q1 = q1) := rfl
  have key' := key.out
  rcases key' with rfl | ⟨rfl, hc0⟩
  all_goals
    (try (have hc0' : ¬ (0 : Int) < cs.length := by omega); clear hc0)
    go_enter Try.func23, Try.ntmps23
    go_wp2
    clear b0 b1 b2 b3
    (try clear hc0')
    go_loopw [4] (fun i wr => ∃ k : Nat, k ≤ cs.length ∧ i = .int .i64 k ∧ VdM.mayC n (cs.take k) = true ∧ Row wr w.heap.size 26 D ∧ Grows w wr) (fun i _ => cs.length - (intOf i).toNat)
    case atStart => exact ⟨0, Nat.zero_le _, rfl, rfl, RW.out, HG.out⟩
    case round =>
      obtain ⟨k, hk, rfl, hmc, hrow, hb⟩ := hrel
      have b1 := (hrow.cell 1).trans Ds.out.2.1
      have b2 := (hrow.cell 2).trans Ds.out.2.2.1
      have HM := Lib.hid hmc; have HW := Lib.hid hrow; have HB := Lib.hid hb
      clear hmc hrow hb
      by_cases hlt : k < cs.length
      · (try (exfalso; omega))
        all_goals
          obtain ⟨g1, o1, rfl, hg1, hcA⟩ := HR.out (by omega)
          have e1 : cs[k]? = some cs[k] := List.getElem?_eq_getElem hlt
          have hck := (Below.cell HB.out (p := ⟨g1, o1 + k * 257, none⟩) hg1).trans (hcA k _ e1 0 (.int .i64 cs[k].1) rfl)
          have HMn := Lib.hid (VdM.mayC_step n cs k _ e1)
          have HMf := Lib.hid (VdM.mayC_false n cs k _ e1)
          generalize cs[k].1 = y at *
          clear hcA e1
          by_cases y0 : y < 0
          · go_wp2
            go_ret
            exact ⟨by rw [hm.out, HMf.out (by omega)]; rfl, HB.out⟩
          by_cases y1 : (n : Int) ≤ y
          · go_wp2
            go_ret
            exact ⟨by rw [hm.out, HMf.out (by omega)]; rfl, HB.out⟩
          have HMy : Hid ((decide (0 ≤ y) && decide (y < n)) = true) := by unfold Hid; simp; omega
          go_wp2
          go_roundw
          case rel => exact ⟨k + 1, by omega, by go_num, by rw [HMn.out, HM.out, HMy.out]; rfl, HW.out, HB.out⟩
          case measure => simp [intOf]; omega
      · obtain rfl : k = cs.length := by omega
        have HMC : Hid (VdM.mayC n cs = true) := by have := HM.out; rwa [List.take_length] at this
        clear HM HR
        go_wp2
        go_loopw [5] (fun i wr => ∃ k : Nat, k ≤ bs.length ∧ i = .int .i64 k ∧ (List.range k).all (VdM.okB n bs) = true ∧ Row wr w.heap.size 26 D ∧ Grows w wr) (fun i _ => bs.length - (intOf i).toNat)
        case atStart => exact ⟨0, Nat.zero_le _, rfl, rfl, HW.out, HB.out⟩
        case round =>
          obtain ⟨k, hk, rfl, hmb, hrow, hb⟩ := hrel
          have b2 := (hrow.cell 2).trans Ds.out.2.2.1
          have HM := Lib.hid hmb; have HW := Lib.hid hrow; have HB := Lib.hid hb
          clear hmb hrow hb
          by_cases hlt : k < bs.length
          · obtain ⟨g1, o1, rfl, hg1, hcA⟩ := HS.out (by omega)
            have e1 : bs[k]? = some bs[k] := List.getElem?_eq_getElem hlt
            have hcx := (Below.cell HB.out (p := ⟨g1, o1 + k, none⟩) hg1).trans (hcA k _ e1)
            have HF := Lib.hid (fun h => VdM.mayB_false n bs k hlt h)
            have HK : Hid ((List.range (k + 1)).all (VdM.okB n bs) = VdM.okB n bs k) := by
              unfold Hid
              rw [List.range_succ, List.all_append, HM.out]
              simp
            have HO : Hid (VdM.okB n bs k = (decide (0 ≤ bs[k]) && decide (bs[k] < n) && (decide (k = 0) || decide (bs[k - 1]?.getD 0 < bs[k])))) := by
              unfold Hid VdM.okB
              rw [e1]
              rfl
            by_cases x0 : bs[k] < 0
            · have HX : Hid (VdM.okB n bs k = false) := by unfold Hid; rw [HO.out, decide_eq_false (show ¬ 0 ≤ bs[k] by omega)]; rfl
              clear HO e1 hcA
              generalize bs[k] = x at *
              go_wp2
              have d0 : decide (x < 0) = true := decide_eq_true x0
              go_quiet (fail)
              go_wp2
              go_ret
              exact ⟨by rw [hm.out, HF.out HX.out, Bool.and_false]; rfl, below_drewN' HB.out _⟩
            by_cases x1 : (n : Int) ≤ bs[k]
            · have HX : Hid (VdM.okB n bs k = false) := by unfold Hid; rw [HO.out, decide_eq_false (show ¬ bs[k] < n by omega), Bool.and_false]; rfl
              clear HO e1 hcA
              generalize bs[k] = x at *
              go_wp2
              have d0 : decide (x < 0) = false := decide_eq_false (by omega)
              have d1 : decide (x ≥ (n : Int)) = true := decide_eq_true (by omega)
              go_quiet (fail)
              go_wp2
              go_ret
              exact ⟨by rw [hm.out, HF.out HX.out, Bool.and_false]; rfl, below_drewN' HB.out _⟩
            rw [decide_eq_true (show 0 ≤ bs[k] by omega), decide_eq_true (show bs[k] < n by omega)] at HO
            by_cases hk0 : k = 0
            · subst hk0
              rw [Nat.add_zero] at hcx
              have hlt' : (0 : Int) < bs.length := by omega
              have HX := Lib.hid (HK.out.trans HO.out)
              clear HO HK e1 hcA
              generalize bs[0] = x at *
              go_wp2
              have d0 : decide (x < 0) = false := decide_eq_false (by omega)
              have d1 : decide (x ≥ (n : Int)) = false := decide_eq_false (by omega)
              go_quiet (fail)
              go_wp2
              go_roundw
              case rel => exact ⟨1, by omega, by go_num, HX.out, HW.out.drewN _, below_drewN' HB.out _⟩
              case measure => simp [intOf]; omega
            obtain ⟨j, rfl⟩ : ∃ j, k = j + 1 := ⟨k - 1, by omega⟩
            have e2 : bs[j]? = some bs[j] := List.getElem?_eq_getElem (by omega)
            have hcy := (Below.cell HB.out (p := ⟨g1, o1 + j, none⟩) hg1).trans (hcA j _ e2)
            rw [decide_eq_false hk0, Nat.add_sub_cancel, e2] at HO
            by_cases xy : bs[j] < bs[j + 1]
            · have HX : Hid ((List.range (j + 1 + 1)).all (VdM.okB n bs) = true) := by
                unfold Hid
                rw [HK.out, HO.out, Option.getD_some, decide_eq_true xy]; rfl
              clear HO HK e1 e2 hcA
              generalize bs[j + 1] = x at *
              generalize bs[j] = y at *
              go_wp2
              have d0 : decide (x < 0) = false := decide_eq_false (by omega)
              have d1 : decide (x ≥ (n : Int)) = false := decide_eq_false (by omega)
              have d2 : decide (y ≥ x) = false := decide_eq_false (by omega)
              go_quiet (fail)
              go_wp2
              go_roundw
              case rel => exact ⟨j + 1 + 1, by omega, by go_num, HX.out, HW.out.drewN _, below_drewN' HB.out _⟩
              case measure => simp [intOf]; omega
            · have HX : Hid (VdM.okB n bs (j + 1) = false) := by
                unfold Hid
                rw [HO.out, Option.getD_some, decide_eq_false xy]; rfl
              clear HO HK e1 e2 hcA
              generalize bs[j + 1] = x at *
              generalize bs[j] = y at *
              go_wp2
              have d0 : decide (x < 0) = false := decide_eq_false (by omega)
              have d1 : decide (x ≥ (n : Int)) = false := decide_eq_false (by omega)
              have d2 : decide (y ≥ x) = true := decide_eq_true (by omega)
              go_quiet (fail)
              go_wp2
              go_ret
              exact ⟨by rw [hm.out, HF.out HX.out, Bool.and_false]; rfl, below_drewN' HB.out _⟩
          · obtain rfl : k = bs.length := by omega
            have HMB : Hid (VdM.mayB n bs = true) := HM.out
            go_wp2
            go_ret
            exact ⟨by rw [hm.out, HMC.out, HMB.out]; rfl, HB.out⟩
end Go.Proofs.Ytiagmlokocpboaa
