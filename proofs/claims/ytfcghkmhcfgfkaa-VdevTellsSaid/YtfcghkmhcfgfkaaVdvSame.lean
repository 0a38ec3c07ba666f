/- vdev.Same: are two disks the same? -/
import Derived.Test.YtfcghkmhcfgfkaaVdLaws
import Derived.Test.YtfcghkmhcfgfkaaVdSame
import Derived.Test.YtfcghkmhcfgfkaaShelf
namespace Go.Proofs.Ytfcghkmhcfgfkaa
open Go.RowKit
set_option linter.unusedVariables false
set_option linter.unusedSimpArgs false
set_option maxRecDepth 20000 in
set_option maxHeartbeats 2000000 in
theorem eqpages_any (u v : Value) (a b : List Pg) (w : World) (hu : Els 256 pageE w.heap.size w u a) (hv : Els 256 pageE w.heap.size w v b) :
    Calls Try.prog 36 #[u, v] w fun e w' => e = .returned (.bool (decide (a = b))) ∧ Grows w w' := by
  have HPl := Lib.hid hu.1; have HPl' := Lib.hid hv.1
  obtain ⟨A, cap, rfl, q1, q2, q3⟩ := hu.form
  obtain ⟨A', cap', rfl, q1', q2', q3'⟩ := hv.form
  have HQ := Lib.hid q3; have HQ' := Lib.hid q3'
  clear hu hv q3 q3'
  unfold maxLen at q2 q2'
  by_cases h1 : a.length = b.length
  case neg =>
    have h1' : ¬ (a.length : Int) = b.length := by omega
    have hne : Hid (decide (a = b) = false) := decide_eq_false (by rintro rfl; exact h1 rfl)
    go_enter Try.func36, Try.ntmps36
    go_wp2
    go_ret
    exact ⟨by rw [hne.out]; rfl, Grows.refl _⟩
  have h1' : (a.length : Int) = b.length := by omega
  go_enter Try.func36, Try.ntmps36
  go_wp2
  go_loopw [13] (fun i wr => ∃ k : Nat, k ≤ a.length ∧ i = .int .i64 k ∧ a.take k = b.take k ∧ Grows w wr) (fun i _ => a.length - (intOf i).toNat)
  case atStart => exact ⟨0, Nat.zero_le _, rfl, rfl, Grows.refl _⟩
  case round =>
    obtain ⟨k, hk, rfl, ht, hb⟩ := hrel
    have HT := Lib.hid ht; have HB := Lib.hid hb
    clear ht hb
    by_cases hlt : k < a.length
    · obtain ⟨g1, o1, rfl, hg1, hcA⟩ := HQ.out (by omega)
      obtain ⟨g2, o2, rfl, hg2, hcB⟩ := HQ'.out (by omega)
      have e1 : a[k]? = some a[k] := List.getElem?_eq_getElem hlt
      have e2 : b[k]? = some (b[k]'(by omega)) := List.getElem?_eq_getElem (by omega)
      have y1 := Lib.hid (rangeAt_keep (hcA k _ e1) (fun a ha => Below.cell HB.out (by omega)))
      have y2 := Lib.hid (rangeAt_keep (hcB k _ e2) (fun a ha => Below.cell HB.out (by omega)))
      have E1 := Lib.hid e1; have E2 := Lib.hid e2
      have z1 : Hid (a[k].length = 256) := by have := HPl.out _ (List.mem_of_getElem? e1); rwa [pageE_len] at this
      have z2 : Hid ((b[k]'(by omega)).length = 256) := by have := HPl'.out _ (List.mem_of_getElem? e2); rwa [pageE_len] at this
      clear e1 e2 hcA hcB HQ HQ'
      generalize a[k] = p at *
      generalize b[k]'(by omega) = q at *
      have HQE := Lib.hid (fun W => page_eq_run p q z1.out z2.out W)
      obtain ⟨t, ht⟩ : ∃ t : Bool, t = decide (p = q) := ⟨_, rfl⟩
      rw [← ht] at HQE
      have HTT := Lib.hid ht
      clear ht
      go_wp2
      refine wp_region_free 9 26 (by kernel_rfl) (by kernel_rfl) rfl (by kernel_rfl) ?_; simp only [List.take_succ_cons, List.take_zero, List.drop_succ_cons, List.drop_zero]
      repeat (apply free_pure rfl; focus (intro vs w hg hd;  (try simp [Region.binds] at hd); simp only [execOp, resolve, Option.map_some, Option.map_none, List.map_toArray, List.map_cons, List.map_nil, rho_const, rho_func]; (repeat (conv in rho _ _ _ _ (Operand.tmp _) => whnf)); (try simp only [hd]); go_simp; (repeat (conv in rho _ _ _ _ (Operand.tmp _) => whnf)); (try simp only [hd]); rfl))
      refine free_op (fun v_ _ => v_ = .agg (pgA p)) rfl (dk_mono _) (fun vs wq hg hd => by
        (try simp [Region.binds] at hd)
        refine dk_load 28 (.tmp 18) ⟨g1, o1 + k * 256, none⟩ _ rfl ?_ (page_run_load z1.out (range_grows y1.out (Grows.of_drew hg))) ⟨Grows.refl _, rfl⟩
        (conv in rho _ _ _ _ (Operand.tmp _) => whnf)
        simp [hd]) ?_
      repeat (apply free_pure rfl; focus (intro vs w hg hd;  (try simp [Region.binds] at hd); simp only [execOp, resolve, Option.map_some, Option.map_none, List.map_toArray, List.map_cons, List.map_nil, rho_const, rho_func]; (repeat (conv in rho _ _ _ _ (Operand.tmp _) => whnf)); (try simp only [hd]); go_simp; (repeat (conv in rho _ _ _ _ (Operand.tmp _) => whnf)); (try simp only [hd]); rfl))
      refine free_op (fun v_ _ => v_ = .agg (pgA q)) rfl (dk_mono _) (fun vs wq hg hd => by
        (try simp [Region.binds] at hd)
        refine dk_load 28 (.tmp 22) ⟨g2, o2 + k * 256, none⟩ _ rfl ?_ (page_run_load z2.out (range_grows y2.out (Grows.of_drew hg))) ⟨Grows.refl _, rfl⟩
        (conv in rho _ _ _ _ (Operand.tmp _) => whnf)
        simp [hd]) ?_
      refine free_op (fun v_ _ => v_ = .bool (!t)) rfl (dk_mono _) (fun vs wq hg hd => by
        have heq := HQE.out wq
        (try simp [Region.binds] at hd); simp only [Does]; simp only [execOp, resolve, Option.map_some, Option.map_none, List.map_toArray, List.map_cons, List.map_nil, rho_const, rho_func]; (repeat (conv in rho _ _ _ _ (Operand.tmp _) => whnf)); (try simp only [hd]); go_simp; (repeat (conv in rho _ _ _ _ (Operand.tmp _) => whnf))
        exact Grows.refl _) ?_
      intro vs w' hg hv; have h8 := hv 8 (by omega); simp at h8; simp only [putL, dstAt, List.range, List.range.loop, if_true, List.getElem?_toArray, List.getElem?_cons_zero, List.getElem?_cons_succ, Option.bind_some, Act.put, List.setIfInBounds_toArray, List.set_cons_zero, List.set_cons_succ]
      rw [h8]
      have hgW := Lib.hid (HB.out.trans (Grows.of_drew hg))
      clear hv h8 hg
      generalize vs 0 = z0, vs 1 = z1, vs 2 = z2, vs 3 = z3, vs 4 = z4, vs 5 = z5, vs 6 = z6, vs 7 = z7, vs 8 = z8 at *
      by_cases hpq : p = q
      · subst hpq
        obtain rfl : t = true := by rw [HTT.out]; exact decide_eq_true rfl
        go_wp2
        go_roundw
        case rel => exact ⟨k + 1, by omega, by go_num, take_step HT.out E1.out E2.out, hgW.out⟩
        case measure => simp [intOf]; omega
      · obtain rfl : t = false := by rw [HTT.out]; exact decide_eq_false hpq
        have hne : Hid (decide (a = b) = false) := decide_eq_false (by
          rintro rfl
          have e1 := E1.out
          rw [E2.out] at e1
          exact hpq (Option.some.inj e1).symm)
        go_wp2
        go_ret
        exact ⟨by rw [hne.out]; rfl, hgW.out⟩
    · obtain rfl : k = a.length := by omega
      have heq : Hid (decide (a = b) = true) := decide_eq_true (by have := HT.out; rwa [List.take_length, h1, List.take_length] at this)
      clear HQ HQ' HT
      go_wp2
      go_ret
      exact ⟨by rw [heq.out]; rfl, HB.out⟩
set_option maxRecDepth 20000 in
set_option maxHeartbeats 2000000 in
theorem eqwrites_any (u v : Value) (a b : List (Int × Pg)) (w : World) (hu : Els 257 writeE w.heap.size w u a) (hv : Els 257 writeE w.heap.size w v b) :
    Calls Try.prog 35 #[u, v] w fun e w' => e = .returned (.bool (decide (a = b))) ∧ Grows w w' := by
  have HPl := Lib.hid hu.1; have HPl' := Lib.hid hv.1
  obtain ⟨A, cap, rfl, q1, q2, q3⟩ := hu.form
  obtain ⟨A', cap', rfl, q1', q2', q3'⟩ := hv.form
  have HQ := Lib.hid q3; have HQ' := Lib.hid q3'
  clear hu hv q3 q3'
  unfold maxLen at q2 q2'
  by_cases h1 : a.length = b.length
  case neg =>
    have h1' : ¬ (a.length : Int) = b.length := by omega
    have hne : Hid (decide (a = b) = false) := decide_eq_false (by rintro rfl; exact h1 rfl)
    go_enter Try.func35, Try.ntmps35
    go_wp2
    go_ret
    exact ⟨by rw [hne.out]; rfl, Grows.refl _⟩
  have h1' : (a.length : Int) = b.length := by omega
  go_enter Try.func35, Try.ntmps35
  go_wp2
  go_loopw [13] (fun i wr => ∃ k : Nat, k ≤ a.length ∧ i = .int .i64 k ∧ a.take k = b.take k ∧ Grows w wr) (fun i _ => a.length - (intOf i).toNat)
  case atStart => exact ⟨0, Nat.zero_le _, rfl, rfl, Grows.refl _⟩
  case round =>
    obtain ⟨k, hk, rfl, ht, hb⟩ := hrel
    have HT := Lib.hid ht; have HB := Lib.hid hb
    clear ht hb
    by_cases hlt : k < a.length
    · obtain ⟨g1, o1, rfl, hg1, hcA⟩ := HQ.out (by omega)
      obtain ⟨g2, o2, rfl, hg2, hcB⟩ := HQ'.out (by omega)
      have e1 : a[k]? = some a[k] := List.getElem?_eq_getElem hlt
      have e2 : b[k]? = some (b[k]'(by omega)) := List.getElem?_eq_getElem (by omega)
      have y1 := Lib.hid (rangeAt_keep (hcA k _ e1) (fun a ha => Below.cell HB.out (by omega)))
      have y2 := Lib.hid (rangeAt_keep (hcB k _ e2) (fun a ha => Below.cell HB.out (by omega)))
      have E1 := Lib.hid e1; have E2 := Lib.hid e2
      have z1 : Hid (a[k].2.length = 256) := by have := HPl.out _ (List.mem_of_getElem? e1); rw [writeE_len] at this; exact Nat.succ.inj this
      have z2 : Hid ((b[k]'(by omega)).2.length = 256) := by have := HPl'.out _ (List.mem_of_getElem? e2); rw [writeE_len] at this; exact Nat.succ.inj this
      clear e1 e2 hcA hcB HQ HQ'
      generalize a[k] = p at *
      generalize b[k]'(by omega) = q at *
      have HQE := Lib.hid (fun W => write_eq_run p q z1.out z2.out W)
      obtain ⟨t, ht⟩ : ∃ t : Bool, t = decide (p = q) := ⟨_, rfl⟩
      rw [← ht] at HQE
      have HTT := Lib.hid ht
      clear ht
      go_wp2
      refine wp_region_free 9 26 (by kernel_rfl) (by kernel_rfl) rfl (by kernel_rfl) ?_; simp only [List.take_succ_cons, List.take_zero, List.drop_succ_cons, List.drop_zero]
      repeat (apply free_pure rfl; focus (intro vs w hg hd;  (try simp [Region.binds] at hd); simp only [execOp, resolve, Option.map_some, Option.map_none, List.map_toArray, List.map_cons, List.map_nil, rho_const, rho_func]; (repeat (conv in rho _ _ _ _ (Operand.tmp _) => whnf)); (try simp only [hd]); go_simp; (repeat (conv in rho _ _ _ _ (Operand.tmp _) => whnf)); (try simp only [hd]); rfl))
      refine free_op (fun v_ _ => v_ = .agg (wrA p)) rfl (dk_mono _) (fun vs wq hg hd => by
        (try simp [Region.binds] at hd)
        refine dk_load 47 (.tmp 18) ⟨g1, o1 + k * 257, none⟩ _ rfl ?_ (write_run_load z1.out (range_grows y1.out (Grows.of_drew hg))) ⟨Grows.refl _, rfl⟩
        (conv in rho _ _ _ _ (Operand.tmp _) => whnf)
        simp [hd]) ?_
      repeat (apply free_pure rfl; focus (intro vs w hg hd;  (try simp [Region.binds] at hd); simp only [execOp, resolve, Option.map_some, Option.map_none, List.map_toArray, List.map_cons, List.map_nil, rho_const, rho_func]; (repeat (conv in rho _ _ _ _ (Operand.tmp _) => whnf)); (try simp only [hd]); go_simp; (repeat (conv in rho _ _ _ _ (Operand.tmp _) => whnf)); (try simp only [hd]); rfl))
      refine free_op (fun v_ _ => v_ = .agg (wrA q)) rfl (dk_mono _) (fun vs wq hg hd => by
        (try simp [Region.binds] at hd)
        refine dk_load 47 (.tmp 22) ⟨g2, o2 + k * 257, none⟩ _ rfl ?_ (write_run_load z2.out (range_grows y2.out (Grows.of_drew hg))) ⟨Grows.refl _, rfl⟩
        (conv in rho _ _ _ _ (Operand.tmp _) => whnf)
        simp [hd]) ?_
      refine free_op (fun v_ _ => v_ = .bool (!t)) rfl (dk_mono _) (fun vs wq hg hd => by
        (try simp [Region.binds] at hd)
        rw [HTT.out]
        refine dk_neq_writes (.tmp 19) (.tmp 23) p q _ rfl ?_ ?_ z1.out z2.out
        · (conv in rho _ _ _ _ (Operand.tmp _) => whnf)
          simp [hd]
        · (conv in rho _ _ _ _ (Operand.tmp _) => whnf)
          simp [hd]) ?_
      intro vs w' hg hv; have h8 := hv 8 (by omega); simp at h8; simp only [putL, dstAt, List.range, List.range.loop, if_true, List.getElem?_toArray, List.getElem?_cons_zero, List.getElem?_cons_succ, Option.bind_some, Act.put, List.setIfInBounds_toArray, List.set_cons_zero, List.set_cons_succ]
      rw [h8]
      have hgW := Lib.hid (HB.out.trans (Grows.of_drew hg))
      clear hv h8 hg
      generalize vs 0 = z0, vs 1 = z1, vs 2 = z2, vs 3 = z3, vs 4 = z4, vs 5 = z5, vs 6 = z6, vs 7 = z7, vs 8 = z8 at *
      by_cases hpq : p = q
      · subst hpq
        obtain rfl : t = true := by rw [HTT.out]; exact decide_eq_true rfl
        go_wp2
        go_roundw
        case rel => exact ⟨k + 1, by omega, by go_num, take_step HT.out E1.out E2.out, hgW.out⟩
        case measure => simp [intOf]; omega
      · obtain rfl : t = false := by rw [HTT.out]; exact decide_eq_false hpq
        have hne : Hid (decide (a = b) = false) := decide_eq_false (by
          rintro rfl
          have e1 := E1.out
          rw [E2.out] at e1
          exact hpq (Option.some.inj e1).symm)
        go_wp2
        go_ret
        exact ⟨by rw [hne.out]; rfl, hgW.out⟩
    · obtain rfl : k = a.length := by omega
      have heq : Hid (decide (a = b) = true) := decide_eq_true (by have := HT.out; rwa [List.take_length, h1, List.take_length] at this)
      clear HQ HQ' HT
      go_wp2
      go_ret
      exact ⟨by rw [heq.out]; rfl, HB.out⟩
theorem eqints_any (u v : Value) (a b : List Int) (w : World) (hu : Els 1 intE w.heap.size w u a) (hv : Els 1 intE w.heap.size w v b) :
    Calls Try.prog 34 #[u, v] w fun e w' => e = .returned (.bool (decide (a = b))) ∧ Grows w w' := by
  obtain ⟨A, cap, rfl, q1, q2, q3⟩ := hu.form
  obtain ⟨A', cap', rfl, q1', q2', q3'⟩ := hv.form
  unfold maxLen at q2 q2'
  by_cases h1 : a.length = b.length
  case neg =>
    refine (Try.slices_Equal_int_lens A A' a.length cap b.length cap' w h1).mono ?_
    rintro e w' ⟨rfl, rfl⟩
    exact ⟨by rw [decide_eq_false (by rintro rfl; exact h1 rfl)], Grows.refl _⟩
  by_cases h0 : 0 < a.length
  · obtain ⟨b1, o1, rfl, _, hc1⟩ := q3 h0
    obtain ⟨b2, o2, rfl, _, hc2⟩ := q3' (by omega)
    have key : ∀ (l : List Int) (bb oo : Nat), (∀ j x, l[j]? = some x → w.rangeAt bb (oo + j * 1) (intE x)) → ∀ j, j < l.length → w.cell? ⟨bb, oo + j, none⟩ = some (.int .i64 (l.getD j 0)) := fun l bb oo h j hj => by
      have := h j _ (List.getElem?_eq_getElem hj) 0 _ rfl
      rw [Nat.mul_one, Nat.add_zero] at this
      rw [this, List.getD_eq_getElem?_getD, List.getElem?_eq_getElem hj]
      rfl
    refine (Try.slices_Equal_int b1 o1 a.length cap b2 o2 b.length cap' a b w (Nat.le_refl _) (Nat.le_refl _) (by omega) (by omega) (key a b1 o1 hc1) (key b b2 o2 hc2)).mono ?_
    rintro e w' ⟨rfl, n, rfl⟩
    refine ⟨by rw [List.take_length, List.take_length, show (a == b) = decide (a = b) from by rw [Bool.eq_iff_iff]; simp], below_drewN' (Grows.refl w) n⟩
  · obtain rfl : a = [] := List.length_eq_zero_iff.1 (by omega)
    obtain rfl : b = [] := List.length_eq_zero_iff.1 (by simp at h1; omega)
    refine (Try.slices_Equal_int_empty A A' cap 0 cap' w (by omega)).mono ?_
    rintro e w' ⟨rfl, rfl⟩
    exact ⟨rfl, Grows.refl _⟩
set_option maxRecDepth 20000 in
set_option maxHeartbeats 2000000 in
theorem vsame_any (u v : Value) (a b : Dk) (w : World) (hu : IsDisk w.heap.size w u a) (hv : IsDisk w.heap.size w v b) :
    Calls Try.prog 17 #[u, v] w fun e w' => e = .returned (.bool (decide (a = b))) ∧ Grows w w' := by
  have HU := Lib.hid hu; have HV := Lib.hid hv
  obtain ⟨pv, cv, bv, rfl, hp, hc, hb⟩ := hu
  obtain ⟨pv', cv', bv', rfl, hp', hc', hb'⟩ := hv
  have EI := Lib.hid (fun W (hW : Grows w W) => eqints_any bv bv' a.bad b.bad W (hb.grows hW) (hb'.grows hW))
  have EW := Lib.hid (fun W (hW : Grows w W) => eqwrites_any cv cv' a.cache b.cache W (hc.grows hW) (hc'.grows hW))
  have EP := Lib.hid (fun W (hW : Grows w W) => eqpages_any pv pv' a.pages b.pages W (hp.grows hW) (hp'.grows hW))
  clear hp hp' hc hc' hb hb'
  obtain ⟨D, hD⟩ : ∃ D, D = #[pv, cv, bv, Value.bool a.off] := ⟨_, rfl⟩
  obtain ⟨D', hD'⟩ : ∃ D, D = #[pv', cv', bv', Value.bool b.off] := ⟨_, rfl⟩
  have Ds : Hid (D[0]? = some pv ∧ D[1]? = some cv ∧ D[2]? = some bv ∧ D[3]? = some (.bool a.off)) := by subst hD; exact ⟨rfl, rfl, rfl, rfl⟩
  have Ds' : Hid (D'[0]? = some pv' ∧ D'[1]? = some cv' ∧ D'[2]? = some bv' ∧ D'[3]? = some (.bool b.off)) := by subst hD'; exact ⟨rfl, rfl, rfl, rfl⟩
  have R1 := Lib.hid ((Row.new w 26 D).alloc (.cells D' 26))
  have R2 : Hid (Row ((w.alloc (.cells D 26)).alloc (.cells D' 26)) (w.heap.size + 1) 26 D') := by
    have := Row.new (w.alloc (.cells D 26)) 26 D'
    rwa [World.size_alloc] at this
  have HG := Lib.hid ((Grows.alloc w (.cells D 26)).trans (Grows.alloc _ (.cells D' 26)))
  rw [← hD, ← hD']
  clear hD hD' HU HV
  have EQ : Hid (decide (a = b) = (decide (a.off = b.off) && decide (a.bad = b.bad) && decide (a.cache = b.cache) && decide (a.pages = b.pages))) := by
    unfold Hid
    obtain ⟨p1, c1, b1, o1⟩ := a
    obtain ⟨p2, c2, b2, o2⟩ := b
    rw [Bool.eq_iff_iff]
    simp only [Bool.and_eq_true, decide_eq_true_eq, Dk.mk.injEq]
    constructor
    · rintro ⟨h1, h2, h3, h4⟩; exact ⟨⟨⟨h4, h3⟩, h2⟩, h1⟩
    · rintro ⟨⟨⟨h4, h3⟩, h2⟩, h1⟩; exact ⟨h1, h2, h3, h4⟩
  have a2 : _ = some _ := (R1.out.cell 2).trans Ds.out.2.2.1
  have a3 : _ = some _ := (R1.out.cell 3).trans Ds.out.2.2.2
  have b2 : _ = some _ := (R2.out.cell 2).trans Ds'.out.2.2.1
  have b3 : _ = some _ := (R2.out.cell 3).trans Ds'.out.2.2.2
  by_cases h3 : a.off = b.off
  case neg =>
    have h3' : (a.off == b.off) = false := by simpa using h3
    have h3n : decide (a.off = b.off) = false := decide_eq_false h3
    rw [h3n] at EQ
    go_enter Try.func17, Try.ntmps17
    go_wp2
    go_ret
    exact ⟨by rw [EQ.out]; simp, HG.out⟩
  have h3' : (a.off == b.off) = true := by simpa using h3
  have h3n : decide (a.off = b.off) = true := decide_eq_true h3
  rw [h3n] at EQ
  generalize decide (a = b) = res at *
  generalize decide (a.bad = b.bad) = e1 at *
  generalize decide (a.cache = b.cache) = e2 at *
  generalize decide (a.pages = b.pages) = e3 at *
  generalize a.off = ao at *
  generalize b.off = bo at *
  cases e1
  · go_enter Try.func17, Try.ntmps17
    go_wp2_with (first
      | (go_at_call 34; refine (EI.out _ HG.out).mono ?_; rintro e u1 ⟨rfl, g⟩; have G1 := Lib.hid (HG.out.trans g); clear g))
    go_ret
    exact ⟨by rw [EQ.out]; rfl, G1.out⟩
  cases e2
  · go_enter Try.func17, Try.ntmps17
    go_wp2_with (first
      | (go_at_call 34; refine (EI.out _ HG.out).mono ?_; rintro e u1 ⟨rfl, g⟩; have G1 := Lib.hid (HG.out.trans g); have a1 : _ = some _ := ((R1.out.grows g).cell 1).trans Ds.out.2.1; have b1 : _ = some _ := ((R2.out.grows g).cell 1).trans Ds'.out.2.1; clear g)
      | (go_at_call 35; refine (EW.out _ G1.out).mono ?_; rintro e u2 ⟨rfl, g⟩; have G2 := Lib.hid (G1.out.trans g); clear g))
    go_ret
    exact ⟨by rw [EQ.out]; rfl, G2.out⟩
  go_enter Try.func17, Try.ntmps17
  go_wp2_with (first
    | (go_at_call 34; refine (EI.out _ HG.out).mono ?_; rintro e u1 ⟨rfl, g⟩; have G1 := Lib.hid (HG.out.trans g); have R1' := Lib.hid (R1.out.grows g); have R2' := Lib.hid (R2.out.grows g); have a1 : _ = some _ := ((R1.out.grows g).cell 1).trans Ds.out.2.1; have b1 : _ = some _ := ((R2.out.grows g).cell 1).trans Ds'.out.2.1; clear g)
    | (go_at_call 35; refine (EW.out _ G1.out).mono ?_; rintro e u2 ⟨rfl, g⟩; have G2 := Lib.hid (G1.out.trans g); have a0 : _ = some _ := ((R1'.out.grows g).cell 0).trans Ds.out.1; have b0 : _ = some _ := ((R2'.out.grows g).cell 0).trans Ds'.out.1; clear g)
    | (go_at_call 36; refine (EP.out _ G2.out).mono ?_; rintro e u3 ⟨rfl, g⟩; have G3 := Lib.hid (G2.out.trans g); clear g))
  go_ret
  exact ⟨by rw [EQ.out]; rfl, G3.out⟩
end Go.Proofs.Ytfcghkmhcfgfkaa
