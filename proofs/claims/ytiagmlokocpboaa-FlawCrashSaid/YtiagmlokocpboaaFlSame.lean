/- FlSame -/
import Derived.Test.YtiagmlokocpboaaVdCopy
import Derived.Test.YtiagmlokocpboaaVdRef
/- The document's Same for layer 4: are two disks the same, in all? -/
namespace Go.Proofs.Ytiagmlokocpboaa
open Go.RowKit
set_option linter.unusedVariables false
set_option linter.unusedSimpArgs false
theorem take_step {α : Type} {a b : List α} {k : Nat} (h : a.take k = b.take k) {x : α} (ha : a[k]? = some x) (hb : b[k]? = some x) : a.take (k + 1) = b.take (k + 1) := by
  rw [List.take_add_one, List.take_add_one, h, ha, hb]
set_option maxRecDepth 20000 in
set_option maxHeartbeats 2000000 in
theorem rsame4_any (u v : Value) (a b : Dk) (w : World) (hu : IsDisk w.heap.size w u a) (hv : IsDisk w.heap.size w v b) :
    Calls Try.prog 13 #[u, v] w fun e w' => e = .returned (.bool (decide (a = b))) ∧ Grows w w' := by
  obtain ⟨pv, cv, bv, rfl, hp, hc, hb⟩ := hu
  obtain ⟨pv', cv', bv', rfl, hp', hc', hb'⟩ := hv
  have HPl := Lib.hid hp.1; have HPl' := Lib.hid hp'.1; have HCl := Lib.hid hc.1; have HCl' := Lib.hid hc'.1
  obtain ⟨A, cap, rfl, q1, q2, q3⟩ := hp.form
  obtain ⟨A', cap', rfl, q1', q2', q3'⟩ := hp'.form
  obtain ⟨C, cup, rfl, r1, r2, r3⟩ := hc.form
  obtain ⟨C', cup', rfl, r1', r2', r3'⟩ := hc'.form
  obtain ⟨E, cop, rfl, s1, s2, s3⟩ := hb.ints
  obtain ⟨E', cop', rfl, s1', s2', s3'⟩ := hb'.ints
  have HQ := Lib.hid q3; have HQ' := Lib.hid q3'; have HR := Lib.hid r3; have HR' := Lib.hid r3'; have HS := Lib.hid s3; have HS' := Lib.hid s3'
  clear hp hp' hc hc' hb hb' q3 q3' r3 r3' s3 s3'
  unfold maxLen at q2 q2' r2 r2' s2 s2'
  obtain ⟨ps, cs, bs, off⟩ := a
  obtain ⟨ps', cs', bs', off'⟩ := b
  simp only at *
  obtain ⟨D, hD⟩ : ∃ D, D = #[Value.slice A ps.length cap, .slice C cs.length cup, .slice E bs.length cop, .bool off] := ⟨_, rfl⟩
  obtain ⟨D', hD'⟩ : ∃ D, D = #[Value.slice A' ps'.length cap', .slice C' cs'.length cup', .slice E' bs'.length cop', .bool off'] := ⟨_, rfl⟩
  have Ds : Hid (D[0]? = some (.slice A ps.length cap) ∧ D[1]? = some (.slice C cs.length cup) ∧ D[2]? = some (.slice E bs.length cop) ∧ D[3]? = some (.bool off)) := by subst hD; exact ⟨rfl, rfl, rfl, rfl⟩
  have Ds' : Hid (D'[0]? = some (.slice A' ps'.length cap') ∧ D'[1]? = some (.slice C' cs'.length cup') ∧ D'[2]? = some (.slice E' bs'.length cop') ∧ D'[3]? = some (.bool off')) := by subst hD'; exact ⟨rfl, rfl, rfl, rfl⟩
  have R1 := Lib.hid ((Row.new w 26 D).alloc (.cells D' 26))
  have R2 : Hid (Row ((w.alloc (.cells D 26)).alloc (.cells D' 26)) (w.heap.size + 1) 26 D') := by
    have := Row.new (w.alloc (.cells D 26)) 26 D'
    rwa [World.size_alloc] at this
  have HG := Lib.hid ((Grows.alloc w (.cells D 26)).trans (Grows.alloc _ (.cells D' 26)))
  rw [← hD, ← hD']
  have a0 : _ = some _ := (R1.out.cell 0).trans Ds.out.1
  have a1 : _ = some _ := (R1.out.cell 1).trans Ds.out.2.1
  have a2 : _ = some _ := (R1.out.cell 2).trans Ds.out.2.2.1
  have a3 : _ = some _ := (R1.out.cell 3).trans Ds.out.2.2.2
  have b0 : _ = some _ := (R2.out.cell 0).trans Ds'.out.1
  have b1 : _ = some _ := (R2.out.cell 1).trans Ds'.out.2.1
  have b2 : _ = some _ := (R2.out.cell 2).trans Ds'.out.2.2.1
  have b3 : _ = some _ := (R2.out.cell 3).trans Ds'.out.2.2.2
  clear hD hD'
  by_cases h3 : off = off'
  case neg =>
    have h3' : (off != off') = true := by simpa using h3
    have hne : Hid (decide ((⟨ps, cs, bs, off⟩ : Dk) = ⟨ps', cs', bs', off'⟩) = false) := decide_eq_false (by rintro ⟨⟩; exact h3 rfl)
    go_enter Try.func13, Try.ntmps13
    go_wp2
    go_ret
    exact ⟨by rw [hne.out]; rfl, HG.out⟩
  subst h3
  by_cases h1 : ps.length = ps'.length
  case neg =>
    have h1' : ¬ (ps.length : Int) = ps'.length := by omega
    have hne : Hid (decide ((⟨ps, cs, bs, off⟩ : Dk) = ⟨ps', cs', bs', off⟩) = false) := decide_eq_false (by rintro ⟨⟩; exact h1 rfl)
    go_enter Try.func13, Try.ntmps13
    go_wp2
    go_ret
    exact ⟨by rw [hne.out]; rfl, HG.out⟩
  have h1' : (ps.length : Int) = ps'.length := by omega
  by_cases h2 : cs.length = cs'.length
  case neg =>
    have h2' : ¬ (cs.length : Int) = cs'.length := by omega
    have hne : Hid (decide ((⟨ps, cs, bs, off⟩ : Dk) = ⟨ps', cs', bs', off⟩) = false) := decide_eq_false (by rintro ⟨⟩; exact h2 rfl)
    go_enter Try.func13, Try.ntmps13
    go_wp2
    go_ret
    exact ⟨by rw [hne.out]; rfl, HG.out⟩
  have h2' : (cs.length : Int) = cs'.length := by omega
  by_cases h4 : bs.length = bs'.length
  case neg =>
    have h4' : ¬ (bs.length : Int) = bs'.length := by omega
    have hne : Hid (decide ((⟨ps, cs, bs, off⟩ : Dk) = ⟨ps', cs', bs', off⟩) = false) := decide_eq_false (by rintro ⟨⟩; exact h4 rfl)
    go_enter Try.func13, Try.ntmps13
    go_wp2
    go_ret
    exact ⟨by rw [hne.out]; rfl, HG.out⟩
  have h4' : (bs.length : Int) = bs'.length := by omega
  go_enter Try.func13, Try.ntmps13
  go_wp2
  clear a0 a1 a2 a3 b0 b1 b2 b3
  go_loopw [5] (fun i wr => ∃ k : Nat, k ≤ ps.length ∧ i = .int .i64 k ∧ ps.take k = ps'.take k ∧ Row wr w.heap.size 26 D ∧ Row wr (w.heap.size + 1) 26 D' ∧ Grows w wr) (fun i _ => ps.length - (intOf i).toNat)
  case atStart => exact ⟨0, Nat.zero_le _, rfl, rfl, R1.out, R2.out, HG.out⟩
  case round =>
    obtain ⟨k, hk, rfl, ht, hr1, hr2, hb⟩ := hrel
    have a0 : _ = some _ := (hr1.cell 0).trans Ds.out.1
    have a1 : _ = some _ := (hr1.cell 1).trans Ds.out.2.1
    have b0 : _ = some _ := (hr2.cell 0).trans Ds'.out.1
    have b1 : _ = some _ := (hr2.cell 1).trans Ds'.out.2.1
    have HT := Lib.hid ht; have HB := Lib.hid hb; have HR1 := Lib.hid hr1; have HR2 := Lib.hid hr2
    clear ht hb hr1 hr2
    by_cases hlt : k < ps.length
    · obtain ⟨g1, o1, rfl, hg1, hcA⟩ := HQ.out (by omega)
      obtain ⟨g2, o2, rfl, hg2, hcB⟩ := HQ'.out (by omega)
      have e1 : ps[k]? = some ps[k] := List.getElem?_eq_getElem hlt
      have e2 : ps'[k]? = some (ps'[k]'(by omega)) := List.getElem?_eq_getElem (by omega)
      have y1 := Lib.hid (rangeAt_keep (hcA k _ e1) (fun a ha => Below.cell HB.out (by omega)))
      have y2 := Lib.hid (rangeAt_keep (hcB k _ e2) (fun a ha => Below.cell HB.out (by omega)))
      have E1 := Lib.hid e1; have E2 := Lib.hid e2
      have z1 : Hid (ps[k].length = 256) := by have := HPl.out _ (List.mem_of_getElem? e1); rwa [pageE_len] at this
      have z2 : Hid ((ps'[k]'(by omega)).length = 256) := by have := HPl'.out _ (List.mem_of_getElem? e2); rwa [pageE_len] at this
      clear e1 e2 hcA hcB HQ HQ'
      generalize ps[k] = p at *
      generalize ps'[k]'(by omega) = q at *
      have HQE := Lib.hid (fun W => page_eq_run p q z1.out z2.out W)
      obtain ⟨t, ht⟩ : ∃ t : Bool, t = decide (p = q) := ⟨_, rfl⟩
      rw [← ht] at HQE
      have HTT := Lib.hid ht
      clear ht
      go_wp2
      refine wp_region_free 11 94 (by kernel_rfl) (by kernel_rfl) rfl (by kernel_rfl) ?_; simp only [List.take_succ_cons, List.take_zero, List.drop_succ_cons, List.drop_zero]
      repeat (apply free_pure rfl; focus (intro vs w hg hd; have q0 := hg.cell a0; have q1 := hg.cell a1; have q2 := hg.cell b0; have q3 := hg.cell b1; (try simp [Region.binds] at hd); simp only [execOp, resolve, Option.map_some, Option.map_none, List.map_toArray, List.map_cons, List.map_nil, rho_const, rho_func]; (repeat (conv in rho _ _ _ _ (Operand.tmp _) => whnf)); (try simp only [hd]); go_simp; (repeat (conv in rho _ _ _ _ (Operand.tmp _) => whnf)); (try simp only [hd]); rfl))
      refine free_op (fun v_ _ => v_ = .agg (pgA p)) rfl (dk_mono _) (fun vs wq hg hd => by
        (try simp [Region.binds] at hd)
        refine dk_load 40 (.tmp 50) ⟨g1, o1 + k * 256, none⟩ _ rfl ?_ (page_run_load z1.out (range_grows y1.out (Grows.of_drew hg))) ⟨Grows.refl _, rfl⟩
        (conv in rho _ _ _ _ (Operand.tmp _) => whnf)
        simp [hd]) ?_
      repeat (apply free_pure rfl; focus (intro vs w hg hd; have q0 := hg.cell a0; have q1 := hg.cell a1; have q2 := hg.cell b0; have q3 := hg.cell b1; (try simp [Region.binds] at hd); simp only [execOp, resolve, Option.map_some, Option.map_none, List.map_toArray, List.map_cons, List.map_nil, rho_const, rho_func]; (repeat (conv in rho _ _ _ _ (Operand.tmp _) => whnf)); (try simp only [hd]); go_simp; (repeat (conv in rho _ _ _ _ (Operand.tmp _) => whnf)); (try simp only [hd]); rfl))
      refine free_op (fun v_ _ => v_ = .agg (pgA q)) rfl (dk_mono _) (fun vs wq hg hd => by
        (try simp [Region.binds] at hd)
        refine dk_load 40 (.tmp 55) ⟨g2, o2 + k * 256, none⟩ _ rfl ?_ (page_run_load z2.out (range_grows y2.out (Grows.of_drew hg))) ⟨Grows.refl _, rfl⟩
        (conv in rho _ _ _ _ (Operand.tmp _) => whnf)
        simp [hd]) ?_
      refine free_op (fun v_ _ => v_ = .bool (!t)) rfl (dk_mono _) (fun vs wq hg hd => by
        have heq := HQE.out wq
        (try simp [Region.binds] at hd); simp only [Does]; simp only [execOp, resolve, Option.map_some, Option.map_none, List.map_toArray, List.map_cons, List.map_nil, rho_const, rho_func]; (repeat (conv in rho _ _ _ _ (Operand.tmp _) => whnf)); (try simp only [hd]); go_simp; (repeat (conv in rho _ _ _ _ (Operand.tmp _) => whnf))
        exact Grows.refl _) ?_
      intro vs w' hg hv; have h10 := hv 10 (by omega); simp at h10; simp only [putL, dstAt, List.range, List.range.loop, if_true, List.getElem?_toArray, List.getElem?_cons_zero, List.getElem?_cons_succ, Option.bind_some, Act.put, List.setIfInBounds_toArray, List.set_cons_zero, List.set_cons_succ]
      rw [h10]
      have hgW := Lib.hid (HB.out.trans (Grows.of_drew hg))
      have HR1' := Lib.hid (Row.grows HR1.out (Grows.of_drew hg))
      have HR2' := Lib.hid (Row.grows HR2.out (Grows.of_drew hg))
      clear hv h10 hg a0 a1 b0 b1
      generalize vs 0 = z0, vs 1 = z1, vs 2 = z2, vs 3 = z3, vs 4 = z4, vs 5 = z5, vs 6 = z6, vs 7 = z7, vs 8 = z8, vs 9 = z9, vs 10 = z10 at *
      by_cases hpq : p = q
      · subst hpq
        obtain rfl : t = true := by rw [HTT.out]; exact decide_eq_true rfl
        go_wp2
        go_roundw
        case rel => exact ⟨k + 1, by omega, by go_num, take_step HT.out E1.out E2.out, HR1'.out, HR2'.out, hgW.out⟩
        case measure => simp [intOf]; omega
      · obtain rfl : t = false := by rw [HTT.out]; exact decide_eq_false hpq
        have hne : Hid (decide ((⟨ps, cs, bs, off⟩ : Dk) = ⟨ps', cs', bs', off⟩) = false) := decide_eq_false (by
          intro h
          injection h with h _
          have e1 := E1.out
          rw [h, E2.out] at e1
          exact hpq (Option.some.inj e1).symm)
        go_wp2
        go_ret
        exact ⟨by rw [hne.out]; rfl, hgW.out⟩
    · obtain rfl : k = ps.length := by omega
      have HPS : Hid (ps = ps') := by have := HT.out; rwa [List.take_length, h1, List.take_length] at this
      clear HQ HQ' HT
      go_wp2
      clear a0 a1 b0 b1
      go_loopw [6] (fun i wr => ∃ k : Nat, k ≤ cs.length ∧ i = .int .i64 k ∧ cs.take k = cs'.take k ∧ Row wr w.heap.size 26 D ∧ Row wr (w.heap.size + 1) 26 D' ∧ Grows w wr) (fun i _ => cs.length - (intOf i).toNat)
      case atStart => exact ⟨0, Nat.zero_le _, rfl, rfl, HR1.out, HR2.out, HB.out⟩
      case round =>
        obtain ⟨k, hk, rfl, ht, hr1, hr2, hb⟩ := hrel
        have a1 : _ = some _ := (hr1.cell 1).trans Ds.out.2.1
        have b1 : _ = some _ := (hr2.cell 1).trans Ds'.out.2.1
        have HT := Lib.hid ht; have HB := Lib.hid hb; have HR1 := Lib.hid hr1; have HR2 := Lib.hid hr2
        clear ht hb hr1 hr2
        by_cases hlt : k < cs.length
        · obtain ⟨g1, o1, rfl, hg1, hcA⟩ := HR.out (by omega)
          obtain ⟨g2, o2, rfl, hg2, hcB⟩ := HR'.out (by omega)
          have e1 : cs[k]? = some cs[k] := List.getElem?_eq_getElem hlt
          have e2 : cs'[k]? = some (cs'[k]'(by omega)) := List.getElem?_eq_getElem (by omega)
          have y1 := Lib.hid (rangeAt_keep (hcA k _ e1) (fun a ha => Below.cell HB.out (by omega)))
          have y2 := Lib.hid (rangeAt_keep (hcB k _ e2) (fun a ha => Below.cell HB.out (by omega)))
          have E1 := Lib.hid e1; have E2 := Lib.hid e2
          have z1 : Hid (cs[k].2.length = 256) := by have := HCl.out _ (List.mem_of_getElem? e1); rw [writeE_len] at this; exact Nat.succ.inj this
          have z2 : Hid ((cs'[k]'(by omega)).2.length = 256) := by have := HCl'.out _ (List.mem_of_getElem? e2); rw [writeE_len] at this; exact Nat.succ.inj this
          clear e1 e2 hcA hcB HR HR'
          generalize cs[k] = p at *
          generalize cs'[k]'(by omega) = q at *
          have HQE := Lib.hid (fun W => write_eq_run p q z1.out z2.out W)
          obtain ⟨t, ht⟩ : ∃ t : Bool, t = decide (p = q) := ⟨_, rfl⟩
          rw [← ht] at HQE
          have HTT := Lib.hid ht
          clear ht
          go_wp2
          refine wp_region_free 11 94 (by kernel_rfl) (by kernel_rfl) rfl (by kernel_rfl) ?_; simp only [List.take_succ_cons, List.take_zero, List.drop_succ_cons, List.drop_zero]
          repeat (apply free_pure rfl; focus (intro vs w hg hd; have q0 := hg.cell a1; have q1 := hg.cell b1; (try simp [Region.binds] at hd); simp only [execOp, resolve, Option.map_some, Option.map_none, List.map_toArray, List.map_cons, List.map_nil, rho_const, rho_func]; (repeat (conv in rho _ _ _ _ (Operand.tmp _) => whnf)); (try simp only [hd]); go_simp; (repeat (conv in rho _ _ _ _ (Operand.tmp _) => whnf)); (try simp only [hd]); rfl))
          refine free_op (fun v_ _ => v_ = .agg (wrA p)) rfl (dk_mono _) (fun vs wq hg hd => by
            (try simp [Region.binds] at hd)
            refine dk_load 42 (.tmp 68) ⟨g1, o1 + k * 257, none⟩ _ rfl ?_ (write_run_load z1.out (range_grows y1.out (Grows.of_drew hg))) ⟨Grows.refl _, rfl⟩
            (conv in rho _ _ _ _ (Operand.tmp _) => whnf)
            simp [hd]) ?_
          repeat (apply free_pure rfl; focus (intro vs w hg hd; have q0 := hg.cell a1; have q1 := hg.cell b1; (try simp [Region.binds] at hd); simp only [execOp, resolve, Option.map_some, Option.map_none, List.map_toArray, List.map_cons, List.map_nil, rho_const, rho_func]; (repeat (conv in rho _ _ _ _ (Operand.tmp _) => whnf)); (try simp only [hd]); go_simp; (repeat (conv in rho _ _ _ _ (Operand.tmp _) => whnf)); (try simp only [hd]); rfl))
          refine free_op (fun v_ _ => v_ = .agg (wrA q)) rfl (dk_mono _) (fun vs wq hg hd => by
            (try simp [Region.binds] at hd)
            refine dk_load 42 (.tmp 73) ⟨g2, o2 + k * 257, none⟩ _ rfl ?_ (write_run_load z2.out (range_grows y2.out (Grows.of_drew hg))) ⟨Grows.refl _, rfl⟩
            (conv in rho _ _ _ _ (Operand.tmp _) => whnf)
            simp [hd]) ?_
          refine free_op (fun v_ _ => v_ = .bool (!t)) rfl (dk_mono _) (fun vs wq hg hd => by
            (try simp [Region.binds] at hd)
            rw [HTT.out]
            refine dk_neq_writes (.tmp 69) (.tmp 74) p q _ rfl ?_ ?_ z1.out z2.out
            · (conv in rho _ _ _ _ (Operand.tmp _) => whnf)
              simp [hd]
            · (conv in rho _ _ _ _ (Operand.tmp _) => whnf)
              simp [hd]) ?_
          intro vs w' hg hv; have h10 := hv 10 (by omega); simp at h10; simp only [putL, dstAt, List.range, List.range.loop, if_true, List.getElem?_toArray, List.getElem?_cons_zero, List.getElem?_cons_succ, Option.bind_some, Act.put, List.setIfInBounds_toArray, List.set_cons_zero, List.set_cons_succ]
          rw [h10]
          have hgW := Lib.hid (HB.out.trans (Grows.of_drew hg))
          have HR1' := Lib.hid (Row.grows HR1.out (Grows.of_drew hg))
          have HR2' := Lib.hid (Row.grows HR2.out (Grows.of_drew hg))
          clear hv h10 hg a1 b1
          generalize vs 0 = z0, vs 1 = z1, vs 2 = z2, vs 3 = z3, vs 4 = z4, vs 5 = z5, vs 6 = z6, vs 7 = z7, vs 8 = z8, vs 9 = z9, vs 10 = z10 at *
          by_cases hpq : p = q
          · subst hpq
            obtain rfl : t = true := by rw [HTT.out]; exact decide_eq_true rfl
            go_wp2
            go_roundw
            case rel => exact ⟨k + 1, by omega, by go_num, take_step HT.out E1.out E2.out, HR1'.out, HR2'.out, hgW.out⟩
            case measure => simp [intOf]; omega
          · obtain rfl : t = false := by rw [HTT.out]; exact decide_eq_false hpq
            have hne : Hid (decide ((⟨ps, cs, bs, off⟩ : Dk) = ⟨ps', cs', bs', off⟩) = false) := decide_eq_false (by
              intro h
              injection h with _ h _
              have e1 := E1.out
              rw [h, E2.out] at e1
              exact hpq (Option.some.inj e1).symm)
            go_wp2
            go_ret
            exact ⟨by rw [hne.out]; rfl, hgW.out⟩
        · obtain rfl : k = cs.length := by omega
          have HCS : Hid (cs = cs') := by have := HT.out; rwa [List.take_length, h2, List.take_length] at this
          clear HR HR' HT
          go_wp2
          clear a1 b1
          go_loopw [7] (fun i wr => ∃ k : Nat, k ≤ bs.length ∧ i = .int .i64 k ∧ bs.take k = bs'.take k ∧ Row wr w.heap.size 26 D ∧ Row wr (w.heap.size + 1) 26 D' ∧ Grows w wr) (fun i _ => bs.length - (intOf i).toNat)
          case atStart => exact ⟨0, Nat.zero_le _, rfl, rfl, HR1.out, HR2.out, HB.out⟩
          case round =>
            obtain ⟨k, hk, rfl, ht, hr1, hr2, hb⟩ := hrel
            have a2 : _ = some _ := (hr1.cell 2).trans Ds.out.2.2.1
            have b2 : _ = some _ := (hr2.cell 2).trans Ds'.out.2.2.1
            have HT := Lib.hid ht; have HB := Lib.hid hb; have HR1 := Lib.hid hr1; have HR2 := Lib.hid hr2
            clear ht hb hr1 hr2
            by_cases hlt : k < bs.length
            · obtain ⟨g1, o1, rfl, hg1, hcA⟩ := HS.out (by omega)
              obtain ⟨g2, o2, rfl, hg2, hcB⟩ := HS'.out (by omega)
              have hlt2 : k < bs'.length := by omega
              have e1 : bs[k]? = some bs[k] := List.getElem?_eq_getElem hlt
              have e2 : bs'[k]? = some (bs'[k]'(by omega)) := List.getElem?_eq_getElem (by omega)
              have hc1 := (Below.cell HB.out (p := ⟨g1, o1 + k, none⟩) hg1).trans (hcA k _ e1)
              have hc2 := (Below.cell HB.out (p := ⟨g2, o2 + k, none⟩) hg2).trans (hcB k _ e2)
              have hki1 : (k : Int) < bs.length := by omega
              have hki2 : (k : Int) < bs'.length := by omega
              have E1 := Lib.hid e1; have E2 := Lib.hid e2
              generalize bs[k] = x at *
              generalize bs'[k]'(by omega) = y at *
              clear e1 e2 hcA hcB HS HS'
              by_cases hxy : x = y
              · subst hxy
                go_wp2
                go_quiet (fail)
                go_wp2
                go_roundw
                case rel => exact ⟨k + 1, by omega, by go_num, take_eq_step HT.out E1.out E2.out, HR1.out.drewN _, HR2.out.drewN _, below_drewN' HB.out _⟩
                case measure => simp [intOf]; omega
              · have hne : Hid (decide ((⟨ps, cs, bs, off⟩ : Dk) = ⟨ps', cs', bs', off⟩) = false) := decide_eq_false (by
                  intro h
                  injection h with _ _ h
                  have e1 := E1.out
                  rw [h, E2.out] at e1
                  exact hxy (Option.some.inj e1).symm)
                go_wp2
                go_quiet (fail)
                go_wp2
                go_ret
                exact ⟨by rw [hne.out]; rfl, below_drewN' HB.out _⟩
            · obtain rfl : k = bs.length := by omega
              have HBS : Hid (bs = bs') := by have := HT.out; rwa [List.take_length, h4, List.take_length] at this
              have heq : Hid (decide ((⟨ps, cs, bs, off⟩ : Dk) = ⟨ps', cs', bs', off⟩) = true) := decide_eq_true (by rw [HPS.out, HCS.out, HBS.out])
              clear HS HS' HT
              go_wp2
              go_ret
              exact ⟨by rw [heq.out]; rfl, HB.out⟩
end Go.Proofs.Ytiagmlokocpboaa
