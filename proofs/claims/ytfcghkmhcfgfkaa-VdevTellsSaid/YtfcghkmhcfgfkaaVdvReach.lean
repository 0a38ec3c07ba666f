/- vdev.reach: what stands against a page's being read or written. vdev.New. -/
import Derived.Test.YtfcghkmhcfgfkaaVdNew
import Derived.Test.YtfcghkmhcfgfkaaVdvMay
namespace Go.Proofs.Ytfcghkmhcfgfkaa
open Go.RowKit
set_option linter.unusedVariables false
set_option linter.unusedSimpArgs false
theorem vreach_any (v : Value) (d : Dk) (n : Int) (w : World) (hv : IsDisk w.heap.size w v d) :
    Calls Try.prog 29 #[v, .int .i64 n] w fun e w' => e = .returned (.int .i64 (VdM.atE d n)) ∧ Grows w w' := by
  have HV := Lib.hid hv
  obtain ⟨pv, cv, bv, rfl, hp, _⟩ := hv
  obtain ⟨A, cap, rfl, q1, q2, q3⟩ := hp.form
  clear q3 hp
  unfold maxLen at q2
  have HA : Hid (VdM.atE d n = if VdM.may d = true ∧ 0 ≤ n ∧ n < d.pages.length then (if d.off then 30 else 0) else 2) := rfl
  obtain ⟨D, hD⟩ : ∃ D, D = #[Value.slice A d.pages.length cap, cv, bv, .bool d.off] := ⟨_, rfl⟩
  have Ds : Hid (D.size = 4 ∧ D[0]? = some (.slice A d.pages.length cap) ∧ D[3]? = some (.bool d.off)) := by subst hD; exact ⟨rfl, rfl, rfl⟩
  have HH : Hid (∀ W n, Calls Try.prog 33 #[.agg D, .int .i64 n] W fun e w' => e = .returned (.bool (decide (0 ≤ n ∧ n < d.pages.length))) ∧ Grows W w') := fun W n => by rw [hD]; exact has_any _ _ _ _ _ _ _ _
  rw [← hD] at HV ⊢
  clear hD
  have R1 := Lib.hid (Row.new w 26 D)
  have HG := Lib.hid (Grows.alloc w (.cells D 26))
  have HM := Lib.hid (vmay_any (.agg D) d (w.alloc (.cells D 26)) (HV.out.grows HG.out))
  by_cases h1 : VdM.may d = true
  case neg =>
    have h1' : VdM.may d = false := by simpa using h1
    have HE : Hid (VdM.atE d n = 2) := HA.out.trans (if_neg (fun h => h1 h.1))
    rw [h1'] at HM
    clear h1 h1'
    go_enter Try.func29, Try.ntmps29
    go_wp2_with (first
      | ((with_reducible refine wpList_load_dk (o := ⟨some 6, _, _, _, _, _⟩) ?_ (.tmp 2) ?_ w.heap.size D ?_ ?_ ?_ ?_); exact rfl; exact rfl; exact rfl; exact R1.out; exact Ds.out.1)
      | (go_at_call 15; refine HM.out.mono ?_; rintro e w1 ⟨rfl, g1⟩; have HG1 := Lib.hid (HG.out.trans g1); clear g1))
    go_ret
    exact ⟨by rw [HE.out]; rfl, HG1.out⟩
  rw [h1] at HM
  have H1 := Lib.hid h1
  clear h1
  by_cases h2 : 0 ≤ n ∧ n < d.pages.length
  case neg =>
    have HE : Hid (VdM.atE d n = 2) := HA.out.trans (if_neg (fun h => h2 h.2))
    have HHf : Hid (∀ W, Calls Try.prog 33 #[.agg D, .int .i64 n] W fun e w' => e = .returned (.bool false) ∧ Grows W w') := fun W => by have := HH.out W n; rwa [decide_eq_false h2] at this
    clear h2 HH
    go_enter Try.func29, Try.ntmps29
    go_wp2_with (first
      | ((with_reducible refine wpList_load_dk (o := ⟨some 6, _, _, _, _, _⟩) ?_ (.tmp 2) ?_ w.heap.size D ?_ ?_ ?_ ?_); exact rfl; exact rfl; exact rfl; exact R1.out; exact Ds.out.1)
      | (go_at_call 15; refine HM.out.mono ?_; rintro e w1 ⟨rfl, g1⟩; have S1 := Lib.hid (Row.grows R1.out g1); have HG1 := Lib.hid (HG.out.trans g1); clear g1)
      | ((with_reducible refine wpList_load_dk (o := ⟨some 9, _, _, _, _, _⟩) ?_ (.tmp 2) ?_ w.heap.size D ?_ ?_ ?_ ?_); exact rfl; exact rfl; exact rfl; exact S1.out; exact Ds.out.1)
      | (go_at_call 33; refine (HHf.out _).mono ?_; rintro e w2 ⟨rfl, g2⟩; have HG2 := Lib.hid (HG1.out.trans g2); clear g2))
    go_ret
    exact ⟨by rw [HE.out]; rfl, HG2.out⟩
  have HHf : Hid (∀ W, Calls Try.prog 33 #[.agg D, .int .i64 n] W fun e w' => e = .returned (.bool true) ∧ Grows W w') := fun W => by have := HH.out W n; rwa [decide_eq_true h2] at this
  obtain ⟨h2, h3⟩ := h2
  have HE : Hid (VdM.atE d n = if d.off then 30 else 0) := HA.out.trans (if_pos ⟨H1.out, h2, h3⟩)
  generalize d.off = off at *
  clear HH
  cases off
  all_goals
    go_enter Try.func29, Try.ntmps29
    go_wp2_with (first
      | ((with_reducible refine wpList_load_dk (o := ⟨some 6, _, _, _, _, _⟩) ?_ (.tmp 2) ?_ w.heap.size D ?_ ?_ ?_ ?_); exact rfl; exact rfl; exact rfl; exact R1.out; exact Ds.out.1)
      | (go_at_call 15; refine HM.out.mono ?_; rintro e w1 ⟨rfl, g1⟩; have S1 := Lib.hid (Row.grows R1.out g1); have HG1 := Lib.hid (HG.out.trans g1); clear g1)
      | ((with_reducible refine wpList_load_dk (o := ⟨some 9, _, _, _, _, _⟩) ?_ (.tmp 2) ?_ w.heap.size D ?_ ?_ ?_ ?_); exact rfl; exact rfl; exact rfl; exact S1.out; exact Ds.out.1)
      | (go_at_call 33; refine (HHf.out _).mono ?_; rintro e w2 ⟨rfl, g2⟩; have b3 := ((Row.grows S1.out g2).cell 3).trans Ds.out.2.2; have HG2 := Lib.hid (HG1.out.trans g2); clear g2))
    go_ret
    exact ⟨by rw [HE.out]; rfl, HG2.out⟩
set_option maxRecDepth 20000 in
set_option maxHeartbeats 1000000 in
theorem vnew_any (n : Int) (w : World) (b1 : -9223372036854775808 ≤ n) (b2 : n ≤ 9223372036854775807) :
    Calls Try.prog 10 #[.int .i64 n] w fun e w' => ∃ r, e = .returned (.tuple #[r, .int .i64 (newE n)]) ∧ OwnDisk w.heap.size w' r (newD n) ∧ Grows w w' := by
  have R0 := Lib.hid (Row.new w 26 #[.slice none 0 0, .slice none 0 0, .slice none 0 0, .bool false])
  have HG := Lib.hid (Grows.alloc w (.cells #[.slice none 0 0, .slice none 0 0, .slice none 0 0, .bool false] 26))
  by_cases h : 32 ≤ n ∧ n ≤ 256
  case neg =>
    have HE : Hid (newE n = 2) := if_pos (by omega)
    have HD : Hid (newD n = ⟨[], [], [], false⟩) := if_pos (by omega)
    rw [HE.out, HD.out]
    have HZ : Hid (∀ W, Calls Try.prog 28 #[.int .i64 n] W fun e w' => e = .returned (.bool false) ∧ w' = W) := fun W => by
      have := sizeMay_any n W
      rwa [decide_eq_false h] at this
    clear h
    go_enter Try.func10, Try.ntmps10
    go_wp2_with (go_at_call 28; refine (HZ.out _).mono ?_; rintro e w1 ⟨rfl, rfl⟩)
    refine bodyPost_ret (results_dk_two (p := 2) (q := 3) (by exact rfl) _ (.int .i64 2) (by exact rfl) (by exact rfl) (by exact rfl) R0.out) rfl ?_
    exact ⟨_, rfl, ⟨_, _, _, rfl, Own'.nil _ _ _ _ _, Own'.nil _ _ _ _ _, Own'.nil _ _ _ _ _⟩, HG.out⟩
  · have HE : Hid (newE n = 0) := if_neg (by omega)
    have HD : Hid (newD n = ⟨List.replicate n.toNat VdM.blank, [], [], false⟩) := if_neg (by omega)
    rw [HE.out, HD.out]
    have HZ : Hid (∀ W, Calls Try.prog 28 #[.int .i64 n] W fun e w' => e = .returned (.bool true) ∧ w' = W) := fun W => by
      have := sizeMay_any n W
      rwa [decide_eq_true h] at this
    clear HE HD
    obtain ⟨m, rfl⟩ : ∃ m : Nat, n = m := ⟨n.toNat, by omega⟩
    rw [Int.toNat_natCast]
    have hm : Hid (m ≤ 1000000) := by unfold Hid; omega
    clear h
    have hone : Hid ((#[Value.slice (some ⟨w.heap.size + 1, 0, none⟩) m m, .slice none 0 0, .slice none 0 0, .bool false] : Array Value).all (·.oneCell') = true) := by unfold Hid; simp [Value.oneCell']
    go_enter Try.func10, Try.ntmps10
    go_wp2_with (first
      | (go_at_call 28; refine (HZ.out _).mono ?_; rintro e w1 ⟨rfl, rfl⟩)
      | ((with_reducible refine wpList_make_pages (o := ⟨some 9, _, _, _, _, _⟩) ?_ (.tmp 8) (.tmp 8) ?_ w.heap.size m m ?_ ?_ ?_ ?_ ?_ ?_); exact rfl; exact rfl; exact rfl; exact rfl; exact rfl; exact hm.out; exact HG.out.size; intro w1 h1 g1; rw [World.size_alloc] at h1; have HO := Lib.hid h1; have HR := Lib.hid (Row.grows R0.out g1); have HG1 := Lib.hid (HG.out.trans g1); clear h1 g1)
      | ((with_reducible refine wpList_store_dk ?_ (.tmp 2) (.tmp 10) ?_ w.heap.size #[.slice (some ⟨w.heap.size + 1, 0, none⟩) m m, .slice none 0 0, .slice none 0 0, .bool false] #[.slice none 0 0, .slice none 0 0, .slice none 0 0, .bool false] ?_ ?_ ?_ ?_ ?_ ?_ ?_); exact rfl; exact rfl; exact rfl; exact rfl; exact rfl; exact rfl; exact hone.out; exact HR.out; intro w6 hw6 hg6))
    refine bodyPost_ret (results_dk_two (p := 2) (q := 3) (by exact rfl) _ (.int .i64 0) (by exact rfl) (by exact rfl) (by exact rfl) hw6) rfl ?_
    exact ⟨_, rfl, ⟨_, _, _, rfl, HO.out.aside hg6 HR.out (by decide), Own'.nil _ _ _ _ _, Own'.nil _ _ _ _ _⟩, HG1.out.grown hg6 HG1.out.size (fun k e => by cases e; exact Nat.le_refl _)⟩
end Go.Proofs.Ytfcghkmhcfgfkaa
