/- FlGreat -/
import Derived.Test.YtiagmlokocpboaaBaseC
import Derived.Test.YtiagmlokocpboaaVdRef
import Derived.Test.YtiagmlokocpboaaVdCopy
/- The document's Great for layer 4: disks too great to be asked. -/
namespace Go.Proofs.Ytiagmlokocpboaa
open Go.RowKit
set_option linter.unusedVariables false
set_option linter.unusedSimpArgs false
set_option maxRecDepth 20000 in
set_option maxHeartbeats 2000000 in
theorem rgreat4_any (v : Value) (d : Dk) (w : World) (hv : IsDisk w.heap.size w v d) :
    Calls Try.prog 7 #[v] w fun e w' => e = .returned (.bool (FlM.great d)) ∧ Grows w w' := by
  obtain ⟨pv, cv, bv, rfl, hp, hc, hb⟩ := hv
  obtain ⟨A, cap, rfl, q1, q2, q3⟩ := hp.form
  obtain ⟨C, cup, rfl, r1, r2, r3⟩ := hc.form
  obtain ⟨E, cop, rfl, s1, s2, s3⟩ := hb.ints
  have HS := Lib.hid s3
  clear hp hc hb q3 r3 s3
  unfold maxLen at q2 r2 s2
  have HGd : Hid (FlM.great d = (!decide (d.bad.Pairwise (· < ·)) || decide (256 < d.pages.length) || decide (64 < d.cache.length) || decide (64 < d.bad.length))) := rfl
  obtain ⟨ps, cs, bs, off⟩ := d
  simp only at *
  generalize FlM.great ⟨ps, cs, bs, off⟩ = t at *
  obtain ⟨D, hD⟩ : ∃ D, D = #[Value.slice A ps.length cap, .slice C cs.length cup, .slice E bs.length cop, .bool off] := ⟨_, rfl⟩
  have Ds : Hid (D[0]? = some (.slice A ps.length cap) ∧ D[1]? = some (.slice C cs.length cup) ∧ D[2]? = some (.slice E bs.length cop)) := by subst hD; exact ⟨rfl, rfl, rfl⟩
  have R1 := Lib.hid (Row.new w 26 D)
  have HG := Lib.hid (Grows.alloc w (.cells D 26))
  rw [← hD]
  clear hD
  go_enter Try.func7, Try.ntmps7
  go_wp2
  go_loopw [3] (fun i wr => ∃ k : Nat, 1 ≤ k ∧ (k = 1 ∨ k ≤ bs.length) ∧ i = .int .i64 k ∧ (∀ j, (h : j + 1 < bs.length) → j + 1 < k → bs[j] < bs[j + 1]) ∧ Row wr w.heap.size 26 D ∧ Grows w wr) (fun i _ => bs.length - (intOf i).toNat)
  case atStart => exact ⟨1, Nat.le_refl _, .inl rfl, rfl, fun j _ h => by omega, R1.out, HG.out⟩
  case round =>
    obtain ⟨k, hk1, hk, rfl, hall, hr, hb⟩ := hrel
    have a2 : _ = some _ := (hr.cell 2).trans Ds.out.2.2
    have HA := Lib.hid hall; have HR := Lib.hid hr; have HB := Lib.hid hb
    clear hall hr hb
    obtain ⟨m, rfl⟩ : ∃ m, k = m + 1 := ⟨k - 1, by omega⟩
    have hw1 : IntKind.i64.wrap (((m + 1 : Nat) : Int) - 1) = (m : Int) := by rw [Int.natCast_add, Int.natCast_one, Int.add_sub_cancel]; exact IntWalk.i64_in _ (by omega)
    by_cases hlt : m + 1 < bs.length
    · obtain ⟨g1, o1, rfl, hg1, hcA⟩ := HS.out (by omega)
      have e1 : bs[m]? = some (bs[m]'(by omega)) := List.getElem?_eq_getElem (by omega)
      have e2 : bs[m + 1]? = some bs[m + 1] := List.getElem?_eq_getElem hlt
      have hc1 := (Below.cell HB.out (p := ⟨g1, o1 + m, none⟩) hg1).trans (hcA m _ e1)
      have hc2 := (Below.cell HB.out (p := ⟨g1, o1 + (m + 1), none⟩) hg1).trans (hcA (m + 1) _ e2)
      have hk1 : ((m + 1 : Nat) : Int) < bs.length := by omega
      have hk2 : (m : Int) < bs.length := by omega
      have hml : m < bs.length := by omega
      have HX : Hid (∀ (h : bs[m]'(by omega) < bs[m + 1]), ∀ j, (h : j + 1 < bs.length) → j + 1 < m + 1 + 1 → bs[j] < bs[j + 1]) := fun h j hj hjm => by
        by_cases hjj : j = m
        · subst hjj; exact h
        · exact HA.out j hj (by omega)
      have HY : Hid (¬ bs[m]'(by omega) < bs[m + 1] → decide (bs.Pairwise (· < ·)) = false) := fun h => decide_eq_false fun h2 => h ((FlM.asc_step bs).1 h2 m hlt)
      generalize bs[m]'(by omega) = x at *
      generalize bs[m + 1] = y at *
      clear e1 e2 hcA HA HS
      by_cases hxy : x < y
      · have hxy' : ¬ x ≥ y := by omega
        have hxy2 : ¬ y ≤ x := by omega
        have HX2 := Lib.hid (HX.out hxy)
        clear HX HY
        go_wp2
        go_quiet (fail)
        go_wp2
        go_roundw
        case rel => exact ⟨m + 1 + 1, by omega, by omega, by go_num, HX2.out, HR.out.drewN _, below_drewN' HB.out _⟩
        case measure => simp [intOf]; omega
      · have hxy' : x ≥ y := by omega
        have hxy2 : y ≤ x := by omega
        have HT : Hid (t = true) := by have h := HY.out hxy; have := HGd.out; rw [h] at this; rw [this]; rfl
        clear HX HY HGd
        go_wp2
        go_quiet (fail)
        go_wp2
        go_ret
        exact ⟨by rw [HT.out]; rfl, below_drewN' HB.out _⟩
    · have hlt2 : ¬ ((m + 1 : Nat) : Int) < bs.length := by omega
      have HP : Hid (decide (bs.Pairwise (· < ·)) = true) := decide_eq_true ((FlM.asc_step bs).2 fun j hj => HA.out j hj (by omega))
      have a0 : _ = some _ := (HR.out.cell 0).trans Ds.out.1
      have a1 : _ = some _ := (HR.out.cell 1).trans Ds.out.2.1
      have HT0 := HGd.out
      rw [HP.out, Bool.not_true, Bool.false_or] at HT0
      have HT := Lib.hid HT0
      clear HA HS HGd HT0
      by_cases h1 : 256 < ps.length
      · have h1' : (256 : Int) < ps.length := by omega
        have HT2 : Hid (t = true) := by unfold Hid; rw [HT.out, decide_eq_true h1]; rfl
        go_wp2
        go_ret
        exact ⟨by rw [HT2.out]; rfl, HB.out⟩
      have h1' : ¬ (256 : Int) < ps.length := by omega
      by_cases h2 : 64 < cs.length
      · have h2' : (64 : Int) < cs.length := by omega
        have HT2 : Hid (t = true) := by unfold Hid; rw [HT.out, decide_eq_true h2, Bool.or_true]; rfl
        go_wp2
        go_ret
        exact ⟨by rw [HT2.out]; rfl, HB.out⟩
      have h2' : ¬ (64 : Int) < cs.length := by omega
      by_cases h3 : 64 < bs.length
      · have h3' : (64 : Int) < bs.length := by omega
        have HT2 : Hid (t = true) := by unfold Hid; rw [HT.out, decide_eq_true h3, Bool.or_true]
        go_wp2
        go_ret
        exact ⟨by rw [HT2.out]; rfl, HB.out⟩
      have h3' : ¬ (64 : Int) < bs.length := by omega
      have HT2 : Hid (t = false) := by unfold Hid; rw [HT.out, decide_eq_false h1, decide_eq_false h2, decide_eq_false h3]; rfl
      go_wp2
      go_ret
      exact ⟨by rw [HT2.out]; rfl, HB.out⟩
end Go.Proofs.Ytiagmlokocpboaa
