/- FlawCrashAny -/
import Derived.Test.YtiagmlokocpboaaFlCrM
import Derived.Test.YtiagmlokocpboaaFlRef
import Derived.Test.YtiagmlokocpboaaFreeP
/- FlawCrash: behind a crash nothing is left that is not flushed; with picks of 1 all is as flushed. -/
namespace Go.Proofs.Ytiagmlokocpboaa
open Go.RowKit
set_option linter.unusedVariables false
set_option linter.unusedSimpArgs false
theorem range_low {B : Nat} {w W : World} {b o : Nat} {cs : List Value} (g : Below B w W) (hb : b < B) (h : w.rangeAt b o cs) : W.rangeAt b o cs := fun j v hv => (Below.cell g (p := ⟨b, o + j, none⟩) hb).trans (h j v hv)
def OwnAt (b : Nat) (d : Dk) (v : Value) (w : World) : Prop := ∃ D, v = .agg D ∧ OwnDisk b w (.agg D) d
theorem OwnAt.mono (b : Nat) (d : Dk) : ∀ v w w', OwnAt b d v w → Grows w w' → OwnAt b d v w' := fun v w w' ⟨D, e, h⟩ hg => ⟨D, e, h.grows hg⟩
theorem yieldsO {b : Nat} {w : World} {d : Dk} {e : Ending} {w' : World} (hb : b ≤ w.heap.size) (h : ∃ r, e = .returned r ∧ OwnDisk w.heap.size w' r d ∧ Grows w w') : ∃ r, e = .returned r ∧ Grows w w' ∧ OwnAt b d r w' := by
  obtain ⟨r, h1, h2, h3⟩ := h
  obtain ⟨pv, cv, bv, rfl, o1, o2, o3⟩ := h2
  exact ⟨_, h1, h3, _, rfl, OwnDisk.more ⟨_, _, _, rfl, o1, o2, o3⟩ hb⟩
def NewRow (b : Nat) (t : TypeId) (cs : Array Value) (v : Value) (w : World) : Prop := ∃ g, v = .pointer (some ⟨g, 0, none⟩) ∧ b ≤ g ∧ Row w g t cs
theorem NewRow.mono (b : Nat) (t : TypeId) (cs : Array Value) : ∀ v w w', NewRow b t cs v w → Grows w w' → NewRow b t cs v w' := fun v w w' ⟨g, e, l, h⟩ hg => ⟨g, e, l, Row.grows h hg⟩
theorem run_alloc_dk (w : World) : (Instr.alloc 26 true (.tuple #[])).run Try.prog w = .ok (.pointer (some ⟨w.heap.size, 0, none⟩)) (w.alloc (.cells #[.slice none 0 0, .slice none 0 0, .slice none 0 0, .bool false] 26)) := by kernel_rfl
theorem does_alloc_dk {ρ : Operand → Value} {o : Oper} {w : World} {R : Value → World → Prop} (ho : o.op = .alloc 26) (hR : R (.pointer (some ⟨w.heap.size, 0, none⟩)) (w.alloc (.cells #[.slice none 0 0, .slice none 0 0, .slice none 0 0, .bool false] 26))) : Does Try.prog o ρ w R := by
  unfold Does execOp
  simp only [ho, Sem.run_bind, run_alloc_dk, Result.andThen_ok, Sem.run_pure]
  exact hR
theorem new_dk {b : Nat} {ρ : Operand → Value} {o : Oper} {w : World} (ho : o.op = .alloc 26) (hb : b ≤ w.heap.size) : Does Try.prog o ρ w fun v w' => (Grows w w' ∧ Fresh w w' v) ∧ NewRow b 26 #[.slice none 0 0, .slice none 0 0, .slice none 0 0, .bool false] v w' :=
  does_alloc_dk ho ⟨⟨Grows.alloc _ _, _, rfl, Nat.le_refl _, by simp⟩, _, rfl, hb, Row.new _ _ _⟩
theorem IsDisk.sheetsP {B n c : Nat} {A : Option Addr} {W : World} {x y z : Value} {d : Dk} (h : IsDisk B W (.agg #[.slice A n c, x, y, z]) d) : 0 < d.pages.length → ∃ g o, A = some ⟨g, o, none⟩ ∧ g < B ∧ ∀ k p, d.pages[k]? = some p → W.rangeAt g (o + k * 256) (pageE p) := by
  obtain ⟨pv, cv, bv, h0, h1, h2, h3⟩ := h
  simp only [Value.agg.injEq, Array.mk.injEq, List.cons.injEq] at h0
  rw [← h0.1] at h1
  obtain ⟨A', cap', e, _, _, hr⟩ := h1.form
  injection e with e3 _ _
  subst e3
  exact hr
theorem one_u8 : (Try.prog.info? 5).map (·.size) = some 1 := by kernel_rfl
set_option maxRecDepth 100000 in
set_option maxHeartbeats 310000000 in
theorem flawCrash_any (v : Value) (d : Dk) (pk : Value) (picks : List (BitVec 8)) (w : World) (hv : IsDisk w.heap.size w v d) (hpk : Bytes w.heap.size w pk picks) :
    Calls Try.prog 4 #[v, pk] w fun e w' => e = .returned (.bool true) ∧ Below w.heap.size w w' := by
  have HPK := Lib.hid (fun W (g : Grows w W) => (show Bytes (World.heap W).size W pk picks from Bytes.more (Sl.below hpk g) g.size))
  obtain ⟨PK, cpk, rfl, k1, k2, _⟩ := hpk
  simp only [List.length_map] at k1 HPK ⊢
  have HV := Lib.hid hv
  obtain ⟨pv, cv, bv, rfl, hp, hc, hb⟩ := hv
  have HP := Lib.hid hp; have HC := Lib.hid hc; have HB := Lib.hid hb
  obtain ⟨AP, cP, rfl, p1, p2, p3⟩ := hp.form
  obtain ⟨AC, cC, rfl, q1, q2, q3⟩ := hc.form
  obtain ⟨AB, cB, rfl, b1, b2, b3⟩ := hb.ints
  have HPf := Lib.hid p3; have HCf := Lib.hid q3; have HBf := Lib.hid b3
  clear hp hc hb p3 q3 b3
  unfold maxLen at p2 q2 b2
  obtain ⟨D, hD⟩ : ∃ D, D = #[Value.slice AP d.pages.length cP, .slice AC d.cache.length cC, .slice AB d.bad.length cB, .bool d.off] := ⟨_, rfl⟩
  have Ds : Hid (D.size = 4 ∧ D[0]? = some (.slice AP d.pages.length cP) ∧ D[1]? = some (.slice AC d.cache.length cC) ∧ D[2]? = some (.slice AB d.bad.length cB) ∧ D[3]? = some (.bool d.off)) := by subst hD; exact ⟨rfl, rfl, rfl, rfl, rfl⟩
  have HDe := Lib.hid hD
  rw [← hD] at HV ⊢
  clear hD
  have R1 := Lib.hid (Row.new w 26 D)
  have HG := Lib.hid (Grows.alloc w (.cells D 26))
  have ZW0 : Hid ((w.alloc (.cells D 26)).heap.size = w.heap.size + 1) := by unfold Hid; simp
  have HGr := Lib.hid (fun W (h : IsDisk (World.heap W).size W (.agg D) d) => rgreat4_any _ d W h)
  by_cases hg : FlM.great d = true
  · rw [hg] at HGr
    clear hg
    go_enter Try.func4, Try.ntmps4
    go_wp2_with (first
      | ((with_reducible refine wpList_load_dk (o := ⟨some 15, _, _, _, _, _⟩) ?_ (.tmp 2) ?_ w.heap.size D ?_ ?_ ?_ ?_); exact rfl; exact rfl; exact rfl; exact R1.out; exact Ds.out.1)
      | (go_at_call 7; (with_reducible refine (HGr.out _ (HV.out.grows HG.out)).mono ?_); rintro e ku1 ⟨rfl, g⟩; have Zk0 := Lib.hid (Below.size g); have R_D_k1 := Lib.hid (Row.grows R1.out g); have G_k1 := Lib.hid ((HG.out).trans g); clear g)
      | (go_at_call 8; (with_reducible refine (wakes4_any _).mono ?_); rintro e ku2 ⟨rfl, g⟩; have Zk1 := Lib.hid (Below.size g); have R_D_k2 := Lib.hid (Row.grows R_D_k1.out g); have G_k2 := Lib.hid ((G_k1.out).trans g); clear g))
    go_ret
    exact ⟨rfl, G_k2.out⟩
  rw [Bool.eq_false_iff.2 hg] at HGr
  have hgp := FlM.great_not (Bool.eq_false_iff.2 hg)
  clear hg
  by_cases hlp : 80 < picks.length
  · have hlpi : (80 : Int) < picks.length := by omega
    clear hgp
    go_enter Try.func4, Try.ntmps4
    go_wp2_with (first
      | ((with_reducible refine wpList_load_dk (o := ⟨some 15, _, _, _, _, _⟩) ?_ (.tmp 2) ?_ w.heap.size D ?_ ?_ ?_ ?_); exact rfl; exact rfl; exact rfl; exact R1.out; exact Ds.out.1)
      | (go_at_call 7; (with_reducible refine (HGr.out _ (HV.out.grows HG.out)).mono ?_); rintro e ku1 ⟨rfl, g⟩; have Zk0 := Lib.hid (Below.size g); have R_D_k1 := Lib.hid (Row.grows R1.out g); have G_k1 := Lib.hid ((HG.out).trans g); clear g)
      | (go_at_call 8; (with_reducible refine (wakes4_any _).mono ?_); rintro e ku2 ⟨rfl, g⟩; have Zk1 := Lib.hid (Below.size g); have R_D_k2 := Lib.hid (Row.grows R_D_k1.out g); have G_k2 := Lib.hid ((G_k1.out).trans g); clear g))
    go_ret
    exact ⟨rfl, G_k2.out⟩
  have hlpi : ¬ (80 : Int) < picks.length := by omega
  by_cases ho : d.off = true
  · have Ds3 : Hid (D[3]? = some (.bool true)) := by have := Ds.out.2.2.2.2; rwa [ho] at this
    clear hgp ho
    go_enter Try.func4, Try.ntmps4
    go_wp2_with (first
      | ((with_reducible refine wpList_load_dk (o := ⟨some 15, _, _, _, _, _⟩) ?_ (.tmp 2) ?_ w.heap.size D ?_ ?_ ?_ ?_); exact rfl; exact rfl; exact rfl; exact R1.out; exact Ds.out.1)
      | (go_at_call 7; (with_reducible refine (HGr.out _ (HV.out.grows HG.out)).mono ?_); rintro e ku1 ⟨rfl, g⟩; have Zk0 := Lib.hid (Below.size g); have R_D_k1 := Lib.hid (Row.grows R1.out g); have G_k1 := Lib.hid ((HG.out).trans g); have c_D_3 : _ = some _ := (R_D_k1.out.cell 3).trans Ds3.out; clear g)
      | (go_at_call 8; (with_reducible refine (wakes4_any _).mono ?_); rintro e ku2 ⟨rfl, g⟩; have Zk1 := Lib.hid (Below.size g); have R_D_k2 := Lib.hid (Row.grows R_D_k1.out g); have G_k2 := Lib.hid ((G_k1.out).trans g); have c_D_3 : _ = some _ := (R_D_k2.out.cell 3).trans Ds3.out; clear g))
    go_ret
    exact ⟨rfl, G_k2.out⟩
  have ho' : d.off = false := Bool.eq_false_iff.2 ho
  have Ds3 : Hid (D[3]? = some (.bool false)) := by have := Ds.out.2.2.2.2; rwa [ho'] at this
  clear ho
  have HGP := Lib.hid hgp
  have HLP : Hid (picks.length ≤ 900000) := by unfold Hid; omega
  clear hgp
  have L1 : Hid (d.pages.length ≤ 900000) := by have := HGP.out.2.1; unfold Hid; omega
  have L2 : Hid (d.cache.length ≤ 900000) := by have := HGP.out.2.2.1; unfold Hid; omega
  have L3 : Hid (d.bad.length ≤ 900000) := by have := HGP.out.2.2.2; unfold Hid; omega
  have M1 : Hid (d.pages.length ≤ 1000000) := by have := L1.out; unfold Hid; omega
  have M2 : Hid (d.cache.length ≤ 1000000) := by have := L2.out; unfold Hid; omega
  have N1 : Hid (d.pages.length ≤ 256) := HGP.out.2.1
  have N2 : Hid (d.cache.length ≤ 64) := HGP.out.2.2.1
  have HP1 := Lib.hid HP.out.1
  obtain ⟨dc, hdc⟩ : ∃ dc, dc = FlM.crashD d picks := ⟨_, rfl⟩
  obtain ⟨dn, hdn⟩ : ∃ dn, dn = FlM.crashD d [] := ⟨_, rfl⟩
  obtain ⟨do1, hdo⟩ : ∃ do1, do1 = FlM.crashD d (List.replicate d.cache.length 1#8) := ⟨_, rfl⟩
  obtain ⟨dfl, hdf⟩ : ∃ dfl, dfl = VdM.flushD d := ⟨_, rfl⟩
  obtain ⟨fe, hfe⟩ : ∃ fe, fe = VdM.atE d 0 := ⟨_, rfl⟩
  have HSO : Hid (fe = 0 → do1 = dfl) := fun e => by
    rw [hfe] at e
    have hm : VdM.may d = true := by
      unfold VdM.atE at e
      split at e
      · rename_i h; exact h.1
      · cases e
    rw [hdo, hdf]
    exact FlM.crash_ones hm ho'
  have HCl : Hid (dc.pages.length = d.pages.length) := by rw [hdc]; exact FlM.crP_length _ _ _ _
  have HCc : Hid (dc.cache.length = 0) := by rw [hdc]; rfl
  have HCo : Hid (dc.off = false) := by rw [hdc]; exact ho'
  have HCk : Hid (∀ i : Nat, (d.cache.any fun x => x.1 == (i : Int)) = false → dc.pages[i]? = d.pages[i]?) := fun i h => by rw [hdc]; exact FlM.crash_kept _ _ _ i h
  have hnn := FlM.crash_none d
  rw [← hdn] at hnn
  have HNp : Hid (dn.pages = d.pages) := by have h := congrArg Dk.pages hnn; exact h
  have HNl : Hid (dn.pages.length = d.pages.length) := by have h := congrArg (fun x : Dk => x.pages.length) hnn; exact h
  have C1 := Lib.hid (fun W (h : IsDisk (World.heap W).size W (.agg D) d) (hp : Bytes (World.heap W).size W _ picks) => flcrash_any _ (.slice PK picks.length cpk) d picks W h hp L1.out L2.out L3.out HLP.out)
  have C0 := Lib.hid (fun W (h : IsDisk (World.heap W).size W (.agg D) d) => flcrash_any _ (.slice none 0 0) d [] W h (Sl.nil _ _) L1.out L2.out L3.out (Nat.zero_le _))
  have C2 := Lib.hid (fun W (pv : Value) (h : IsDisk (World.heap W).size W (.agg D) d) (hp : Bytes (World.heap W).size W pv (List.replicate d.cache.length 1#8)) => flcrash_any _ pv d (List.replicate d.cache.length 1#8) W h hp L1.out L2.out L3.out (by rw [List.length_replicate]; exact L2.out))
  have FL := Lib.hid (fun W (h : IsDisk (World.heap W).size W (.agg D) d) => rflush_any _ d W h M1.out L2.out L3.out)
  rw [← hdc] at C1
  rw [← hdn] at C0
  rw [← hdo] at C2
  rw [← hdf, ← hfe] at FL
  clear hdc hdn hdo hdf hfe hnn ho'
  go_enter Try.func4, Try.ntmps4
  go_wp2_with (first
    | ((with_reducible refine wpList_load_dk (o := ⟨some 15, _, _, _, _, _⟩) ?_ (.tmp 2) ?_ w.heap.size D ?_ ?_ ?_ ?_); exact rfl; exact rfl; exact rfl; exact R1.out; exact Ds.out.1)
    | (go_at_call 7; (with_reducible refine (HGr.out _ (HV.out.grows HG.out)).mono ?_); rintro e ku1 ⟨rfl, g⟩; have Zk0 := Lib.hid (Below.size g); have R_D_k1 := Lib.hid (Row.grows R1.out g); have G_k1 := Lib.hid ((HG.out).trans g); have c_D_3 : _ = some _ := (R_D_k1.out.cell 3).trans Ds3.out; clear g))
  refine wp_region_freeP (fun i => decide (5 ≤ i)) 7 191 (by kernel_rfl) (by kernel_rfl) rfl (by kernel_rfl) ?_; simp only [List.take_succ_cons, List.take_zero, List.drop_succ_cons, List.drop_zero]
  refine free_opP (fun v_ _ => v_ = .agg D) rfl rfl (val_mono _) (fun vs wq hg hd => does_load 26 (.tmp 2) ⟨w.heap.size, 0, none⟩ _ rfl (by first | rfl | (conv => lhs; whnf)) (dk_run_load Ds.out.1 ((R_D_k1.out).grows (Grows.of_drew hg))) ⟨Grows.refl _, rfl⟩) ?_
  refine free_opP (fun v_ _ => v_ = .slice PK picks.length cpk) rfl rfl (val_mono _) (fun vs wq hg hd => by
    (try simp [Region.binds] at hd); simp only [Does]; simp only [execOp, resolve, Option.map_some, Option.map_none, List.map_toArray, List.map_cons, List.map_nil, rho_const, rho_func]; (repeat (conv in rho _ _ _ _ (Operand.tmp _) => whnf)); (try simp only [hd]); go_simp; (repeat (conv in rho _ _ _ _ (Operand.tmp _) => whnf))
    first | exact Grows.refl _ | exact ⟨Grows.refl _, rfl⟩ | exact ⟨Grows.refl _, trivial⟩) ?_
  refine free_opP (OwnAt ku1.heap.size dc) rfl rfl (OwnAt.mono _ _) (fun vs wq hg hd => by
    (try simp [Region.binds] at hd); simp only [Does]; simp only [execOp, resolve, Option.map_some, Option.map_none, List.map_toArray, List.map_cons, List.map_nil, rho_const, rho_func]; (repeat (conv in rho _ _ _ _ (Operand.tmp _) => whnf)); (try simp only [hd]); go_simp; (repeat (conv in rho _ _ _ _ (Operand.tmp _) => whnf))
    exact (C1.out _ (HV.out.grows ((G_k1.out).trans (Grows.of_drew hg))) (HPK.out _ ((G_k1.out).trans (Grows.of_drew hg)))).mono fun e w' h => yieldsO (Below.size (Grows.of_drew hg)) h) ?_
  refine free_opP (fun v_ _ => v_ = .agg D) rfl rfl (val_mono _) (fun vs wq hg hd => does_load 26 (.tmp 2) ⟨w.heap.size, 0, none⟩ _ rfl (by first | rfl | (conv => lhs; whnf)) (dk_run_load Ds.out.1 ((R_D_k1.out).grows (Grows.of_drew hg))) ⟨Grows.refl _, rfl⟩) ?_
  refine free_opP (OwnAt ku1.heap.size dn) rfl rfl (OwnAt.mono _ _) (fun vs wq hg hd => by
    (try simp [Region.binds] at hd); simp only [Does]; simp only [execOp, resolve, Option.map_some, Option.map_none, List.map_toArray, List.map_cons, List.map_nil, rho_const, rho_func]; (repeat (conv in rho _ _ _ _ (Operand.tmp _) => whnf)); (try simp only [hd]); go_simp; (repeat (conv in rho _ _ _ _ (Operand.tmp _) => whnf))
    exact (C0.out _ (HV.out.grows ((G_k1.out).trans (Grows.of_drew hg)))).mono fun e w' h => yieldsO (Below.size (Grows.of_drew hg)) h) ?_
  refine free_newP (NewRow ku1.heap.size 26 #[.slice none 0 0, .slice none 0 0, .slice none 0 0, .bool false]) rfl (NewRow.mono _ _ _) (fun vs wq hg hd => new_dk rfl (Below.size (Grows.of_drew hg))) ?_
  refine free_newP (NewRow ku1.heap.size 26 #[.slice none 0 0, .slice none 0 0, .slice none 0 0, .bool false]) rfl (NewRow.mono _ _ _) (fun vs wq hg hd => new_dk rfl (Below.size (Grows.of_drew hg))) ?_
  intro vs w' hg hv; have h2 := hv 2 (by omega); simp at h2; have h4 := hv 4 (by omega); simp at h4; have h5 := hv 5 (by omega); simp at h5; have h6 := hv 6 (by omega); simp at h6; simp only [putL, dstAt, List.range, List.range.loop, if_true, List.getElem?_toArray, List.getElem?_cons_zero, List.getElem?_cons_succ, Option.bind_some, Act.put, List.setIfInBounds_toArray, List.set_cons_zero, List.set_cons_succ]
  intro hun
  have hgW : Grows ku1 w' := Grows.of_drew hg
  obtain ⟨X1, e1, o1⟩ := h2
  obtain ⟨A1, c1, B1, c1', E1, c1'', f1, _⟩ := o1.disk.cut
  rw [HCl.out, HCc.out, HCo.out] at f1
  rw [f1] at o1 e1
  obtain ⟨X2, e2, o2⟩ := h4
  obtain ⟨A2, c2, B2, c2', E2, c2'', f2, _⟩ := o2.disk.cut
  rw [HNl.out] at f2
  rw [f2] at o2 e2
  obtain ⟨g5, e5, l5, r5⟩ := h5
  obtain ⟨g6, e6, l6, r6⟩ := h6
  have h56 : g5 ≠ g6 := fun e => hun 5 6 (by omega) (by omega) (by omega) rfl rfl (by rw [e5, e6, e])
  have H41 := Lib.hid (dk_one o1.disk)
  have H42 := Lib.hid (dk_one o2.disk)
  rw [e1, e2, e5, e6]
  have OC0 := Lib.hid o1; have ON0 := Lib.hid o2; have R50 := Lib.hid r5; have R60 := Lib.hid r6
  have HG1 := Lib.hid ((G_k1.out).trans hgW)
  have ZB0 := Lib.hid (Row.lt R_D_k1.out); have ZB1 := Lib.hid l5; have ZB2 := Lib.hid l6; have ZB3 := Lib.hid h56; have ZB4 := Lib.hid (Row.lt r5); have ZB5 := Lib.hid (Row.lt r6)
  have RD0 := Lib.hid (Row.grows R_D_k1.out hgW)
  clear e1 e2 e5 e6 f1 f2 o1 o2 r5 r6 l5 l6 h56 hun hv hg hgW
  generalize vs 0 = z0, vs 1 = z1, vs 2 = z2, vs 3 = z3, vs 4 = z4, vs 5 = z5, vs 6 = z6 at *
  go_wp2_with (first
    | ((with_reducible refine wpList_store_dk ?_ (.tmp 5) (.tmp 29) ?_ g5 #[.slice A1 d.pages.length c1, .slice B1 0 c1', .slice E1 dc.bad.length c1'', .bool false] #[.slice none 0 0, .slice none 0 0, .slice none 0 0, .bool false] ?_ ?_ ?_ ?_ ?_ ?_ ?_); exact rfl; exact rfl; exact rfl; exact rfl; exact H41.out.1; exact rfl; exact H41.out.2; exact R50.out; intro nu1 hp hg; have R_D_n1 := Lib.hid (RD0.out.grown hg (by have zB0 := ZB0.out; have zB1 := ZB1.out; have zB2 := ZB2.out; have zB3 := ZB3.out; have zB4 := ZB4.out; have zB5 := ZB5.out; intro e; have e := Option.some.inj e; omega)); have R_T_n1 := Lib.hid hp; have R_U_n1 := Lib.hid (R60.out.grown hg (by have zB0 := ZB0.out; have zB1 := ZB1.out; have zB2 := ZB2.out; have zB3 := ZB3.out; have zB4 := ZB4.out; have zB5 := ZB5.out; intro e; have e := Option.some.inj e; omega)); have O_c_n1 := Lib.hid (OC0.out.beside hg R50.out); have O_n_n1 := Lib.hid (ON0.out.beside hg R50.out); have G_n1 := Lib.hid (show Grows w _ from (HG1.out).grown hg (HG1.out).size (by have zB0 := ZB0.out; have zB1 := ZB1.out; have zB2 := ZB2.out; have zB3 := ZB3.out; have zB4 := ZB4.out; have zB5 := ZB5.out; intro k e; have e := Option.some.inj e; omega)); clear hp hg)
    | ((with_reducible refine wpList_store_dk ?_ (.tmp 6) (.tmp 31) ?_ g6 #[.slice A2 d.pages.length c2, .slice B2 dn.cache.length c2', .slice E2 dn.bad.length c2'', .bool dn.off] #[.slice none 0 0, .slice none 0 0, .slice none 0 0, .bool false] ?_ ?_ ?_ ?_ ?_ ?_ ?_); exact rfl; exact rfl; exact rfl; exact rfl; exact H42.out.1; exact rfl; exact H42.out.2; exact R_U_n1.out; intro nu2 hp hg; have R_D_n2 := Lib.hid (R_D_n1.out.grown hg (by have zB0 := ZB0.out; have zB1 := ZB1.out; have zB2 := ZB2.out; have zB3 := ZB3.out; have zB4 := ZB4.out; have zB5 := ZB5.out; intro e; have e := Option.some.inj e; omega)); have R_T_n2 := Lib.hid (R_T_n1.out.grown hg (by have zB0 := ZB0.out; have zB1 := ZB1.out; have zB2 := ZB2.out; have zB3 := ZB3.out; have zB4 := ZB4.out; have zB5 := ZB5.out; intro e; have e := Option.some.inj e; omega)); have R_U_n2 := Lib.hid hp; have O_c_n2 := Lib.hid (O_c_n1.out.beside hg R_U_n1.out); have O_n_n2 := Lib.hid (O_n_n1.out.beside hg R_U_n1.out); have G_n2 := Lib.hid (show Grows w _ from (G_n1.out).grown hg (G_n1.out).size (by have zB0 := ZB0.out; have zB1 := ZB1.out; have zB2 := ZB2.out; have zB3 := ZB3.out; have zB4 := ZB4.out; have zB5 := ZB5.out; intro k e; have e := Option.some.inj e; omega)); have c_T_0 : _ = some _ := (R_T_n2.out.cell 0); have c_T_1 : _ = some _ := (R_T_n2.out.cell 1); have c_T_3 : _ = some _ := (R_T_n2.out.cell 3); have c_D_0 : _ = some _ := (R_D_n2.out.cell 0).trans Ds.out.2.1; have c_U_0 : _ = some _ := (R_U_n2.out.cell 0); have Zn0 := Lib.hid (Row.lt R_T_n2.out); have Zn1 := Lib.hid (Row.lt R_U_n2.out); have HGB := Lib.hid (G_n2.out); have RDB := Lib.hid (R_D_n2.out); have HPC := Lib.hid (O_c_n2.out.disk.sheetsP); have HPN := Lib.hid (O_n_n2.out.disk.sheetsP); clear hp hg)
    | ((with_reducible refine wpList_make_bools ?_ (.tmp 60) (.tmp 60) ?_ d.pages.length ?_ ?_ ?_ ?_); exact rfl; exact rfl; exact rfl; exact rfl; exact M1.out; intro nu3 hr g; rw [← FlM.wrL_zero d.pages.length d.cache] at hr; have R_D_n3 := Lib.hid (Row.grows R_D_n2.out g); have R_T_n3 := Lib.hid (Row.grows R_T_n2.out g); have R_U_n3 := Lib.hid (Row.grows R_U_n2.out g); have G_n3 := Lib.hid ((G_n2.out).trans g); have R_B_new := Lib.hid hr; have Zn2 := Lib.hid (Row.lt hr); have Zn3 := Lib.hid (Below.size g); have KB := Lib.hid g; clear hr g))
  go_loopw [8] (fun i wr => ∃ q : Nat, q ≤ d.cache.length ∧ i = .int .i64 q ∧ Row wr nu2.heap.size 4 (boolsA (FlM.wrL d.pages.length d.cache q)) ∧ Row wr g5 26 #[.slice A1 d.pages.length c1, .slice B1 0 c1', .slice E1 dc.bad.length c1'', .bool false] ∧ Row wr g6 26 #[.slice A2 d.pages.length c2, .slice B2 dn.cache.length c2', .slice E2 dn.bad.length c2'', .bool dn.off] ∧ Grows nu2 wr) (fun i _ => d.cache.length - (intOf i).toNat)
  case atStart => exact ⟨0, Nat.zero_le _, rfl, R_B_new.out, R_T_n3.out, R_U_n3.out, KB.out⟩
  case round =>
    obtain ⟨q, hq, rfl, i1, i2, i3, i4⟩ := hrel
    have I1 := Lib.hid i1; have I2 := Lib.hid i2; have I3 := Lib.hid i3; have I4 := Lib.hid i4
    clear i1 i2 i3 i4
    have ID := Lib.hid (Row.grows RDB.out I4.out)
    have c_D_0 : _ = some _ := (ID.out.cell 0).trans Ds.out.2.1
    have c_D_1 : _ = some _ := (ID.out.cell 1).trans Ds.out.2.2.1
    have h64 : d.cache.length ≤ 64 := N2.out
    by_cases hlt : q < d.cache.length
    · have hlti : (q : Int) < d.cache.length := by omega
      obtain ⟨gC, oC, rfl, hgC, hxC⟩ := HCf.out (by omega)
      obtain ⟨x, hx⟩ : ∃ x, d.cache[q]? = some x := ⟨_, List.getElem?_eq_getElem hlt⟩
      have c_at : wr.cell? ⟨gC, oC + q * 257, none⟩ = some (.int .i64 x.1) := range_low (HGB.out.trans I4.out) hgC (hxC q x hx) 0 _ rfl
      have HX := Lib.hid hx
      clear hxC hx
      by_cases hx0 : 0 ≤ x.1
      case neg =>
        have hx0' : x.1 < 0 := by omega
        have HS := Lib.hid (FlM.wrL_off d.pages.length d.cache q x HX.out (by omega))
        go_wp2
        refine wp_region_free 19 191 (by kernel_rfl) (by kernel_rfl) rfl (by kernel_rfl) ?_; simp only [List.take_succ_cons, List.take_zero, List.drop_succ_cons, List.drop_zero]
        refine free_op (fun v_ _ => v_ = .pointer (some ⟨w.heap.size, 1, none⟩)) rfl (val_mono _) (fun vs wq hg hd => by
          (try simp [Region.binds] at hd); simp only [Does]; simp only [execOp, resolve, Option.map_some, Option.map_none, List.map_toArray, List.map_cons, List.map_nil, rho_const, rho_func]; (repeat (conv in rho _ _ _ _ (Operand.tmp _) => whnf)); (try simp only [hd]); go_simp; (repeat (conv in rho _ _ _ _ (Operand.tmp _) => whnf))
          first | exact Grows.refl _ | exact ⟨Grows.refl _, rfl⟩ | (refine ⟨Grows.refl _, ?_⟩; simp [hd]; done) | (refine ⟨Grows.refl _, ?_⟩; simp [hd]; omega) | (refine ⟨Grows.refl _, ?_⟩; simp; omega)) ?_
        refine free_op (fun v_ _ => v_ = .slice (some ⟨gC, oC, none⟩) d.cache.length cC) rfl (val_mono _) (fun vs wq hg hd => by
          have q0 := hg.cell c_D_1
          (try simp [Region.binds] at hd); simp only [Does]; simp only [execOp, resolve, Option.map_some, Option.map_none, List.map_toArray, List.map_cons, List.map_nil, rho_const, rho_func]; (repeat (conv in rho _ _ _ _ (Operand.tmp _) => whnf)); (try simp only [hd]); go_simp; (repeat (conv in rho _ _ _ _ (Operand.tmp _) => whnf))
          first | exact Grows.refl _ | exact ⟨Grows.refl _, rfl⟩ | (refine ⟨Grows.refl _, ?_⟩; simp [hd]; done) | (refine ⟨Grows.refl _, ?_⟩; simp [hd]; omega) | (refine ⟨Grows.refl _, ?_⟩; simp; omega)) ?_
        refine free_op (fun v_ _ => v_ = .int .i64 q) rfl (val_mono _) (fun vs wq hg hd => by
          (try simp [Region.binds] at hd); simp only [Does]; simp only [execOp, resolve, Option.map_some, Option.map_none, List.map_toArray, List.map_cons, List.map_nil, rho_const, rho_func]; (repeat (conv in rho _ _ _ _ (Operand.tmp _) => whnf)); (try simp only [hd]); go_simp; (repeat (conv in rho _ _ _ _ (Operand.tmp _) => whnf))
          first | exact Grows.refl _ | exact ⟨Grows.refl _, rfl⟩ | (refine ⟨Grows.refl _, ?_⟩; simp [hd]; done) | (refine ⟨Grows.refl _, ?_⟩; simp [hd]; omega) | (refine ⟨Grows.refl _, ?_⟩; simp; omega)) ?_
        refine free_op (fun v_ _ => v_ = .pointer (some ⟨gC, oC + q * 257, none⟩)) rfl (val_mono _) (fun vs wq hg hd => by
          (try simp [Region.binds] at hd); simp only [Does]; simp only [execOp, resolve, Option.map_some, Option.map_none, List.map_toArray, List.map_cons, List.map_nil, rho_const, rho_func]; (repeat (conv in rho _ _ _ _ (Operand.tmp _) => whnf)); (try simp only [hd]); go_simp; (repeat (conv in rho _ _ _ _ (Operand.tmp _) => whnf))
          first | exact Grows.refl _ | exact ⟨Grows.refl _, rfl⟩ | (refine ⟨Grows.refl _, ?_⟩; simp [hd]; done) | (refine ⟨Grows.refl _, ?_⟩; simp [hd]; omega) | (refine ⟨Grows.refl _, ?_⟩; simp; omega)) ?_
        refine free_op (fun v_ _ => v_ = .pointer (some ⟨gC, oC + q * 257, none⟩)) rfl (val_mono _) (fun vs wq hg hd => by
          (try simp [Region.binds] at hd); simp only [Does]; simp only [execOp, resolve, Option.map_some, Option.map_none, List.map_toArray, List.map_cons, List.map_nil, rho_const, rho_func]; (repeat (conv in rho _ _ _ _ (Operand.tmp _) => whnf)); (try simp only [hd]); go_simp; (repeat (conv in rho _ _ _ _ (Operand.tmp _) => whnf))
          first | exact Grows.refl _ | exact ⟨Grows.refl _, rfl⟩ | (refine ⟨Grows.refl _, ?_⟩; simp [hd]; done) | (refine ⟨Grows.refl _, ?_⟩; simp [hd]; omega) | (refine ⟨Grows.refl _, ?_⟩; simp; omega)) ?_
        refine free_op (fun v_ _ => v_ = .int .i64 x.1) rfl (val_mono _) (fun vs wq hg hd => by
          have q0 := hg.cell c_at
          (try simp [Region.binds] at hd); simp only [Does]; simp only [execOp, resolve, Option.map_some, Option.map_none, List.map_toArray, List.map_cons, List.map_nil, rho_const, rho_func]; (repeat (conv in rho _ _ _ _ (Operand.tmp _) => whnf)); (try simp only [hd]); go_simp; (repeat (conv in rho _ _ _ _ (Operand.tmp _) => whnf))
          first | exact Grows.refl _ | exact ⟨Grows.refl _, rfl⟩ | (refine ⟨Grows.refl _, ?_⟩; simp [hd]; done) | (refine ⟨Grows.refl _, ?_⟩; simp [hd]; omega) | (refine ⟨Grows.refl _, ?_⟩; simp; omega)) ?_
        refine free_op (fun v_ _ => v_ = .bool false) rfl (val_mono _) (fun vs wq hg hd => by
          (try simp [Region.binds] at hd); simp only [Does]; simp only [execOp, resolve, Option.map_some, Option.map_none, List.map_toArray, List.map_cons, List.map_nil, rho_const, rho_func]; (repeat (conv in rho _ _ _ _ (Operand.tmp _) => whnf)); (try simp only [hd]); go_simp; (repeat (conv in rho _ _ _ _ (Operand.tmp _) => whnf))
          first | exact Grows.refl _ | exact ⟨Grows.refl _, rfl⟩ | (refine ⟨Grows.refl _, ?_⟩; simp [hd]; done) | (refine ⟨Grows.refl _, ?_⟩; simp [hd]; omega) | (refine ⟨Grows.refl _, ?_⟩; simp; omega)) ?_
        refine free_op (fun v_ _ => v_ = .bool false) rfl (val_mono _) (fun vs wq hg hd => by
          (try simp [Region.binds] at hd); simp only [Does]; simp only [execOp, resolve, Option.map_some, Option.map_none, List.map_toArray, List.map_cons, List.map_nil, rho_const, rho_func]; (repeat (conv in rho _ _ _ _ (Operand.tmp _) => whnf)); (try simp only [hd]); go_simp; (repeat (conv in rho _ _ _ _ (Operand.tmp _) => whnf))
          first | exact Grows.refl _ | exact ⟨Grows.refl _, rfl⟩ | (refine ⟨Grows.refl _, ?_⟩; simp [hd]; done) | (refine ⟨Grows.refl _, ?_⟩; simp [hd]; omega) | (refine ⟨Grows.refl _, ?_⟩; simp; omega)) ?_
        refine free_passed (fun vs wq hg hd => by
          simp [Region.binds] at hd
          simp [Region.wanted, yieldR]
          (repeat (conv in rho _ _ _ _ (Operand.tmp _) => whnf))
          first | (simp [hd]; done) | (simp [hd]; omega)) ?_
        refine free_passed (fun vs wq hg hd => by
          simp [Region.binds] at hd
          simp [Region.wanted, yieldR]
          (repeat (conv in rho _ _ _ _ (Operand.tmp _) => whnf))
          first | (simp [hd]; done) | (simp [hd]; omega)) ?_
        refine free_passed (fun vs wq hg hd => by
          simp [Region.binds] at hd
          simp [Region.wanted, yieldR]
          (repeat (conv in rho _ _ _ _ (Operand.tmp _) => whnf))
          first | (simp [hd]; done) | (simp [hd]; omega)) ?_
        refine free_passed (fun vs wq hg hd => by
          simp [Region.binds] at hd
          simp [Region.wanted, yieldR]
          (repeat (conv in rho _ _ _ _ (Operand.tmp _) => whnf))
          first | (simp [hd]; done) | (simp [hd]; omega)) ?_
        refine free_passed (fun vs wq hg hd => by
          simp [Region.binds] at hd
          simp [Region.wanted, yieldR]
          (repeat (conv in rho _ _ _ _ (Operand.tmp _) => whnf))
          first | (simp [hd]; done) | (simp [hd]; omega)) ?_
        refine free_passed (fun vs wq hg hd => by
          simp [Region.binds] at hd
          simp [Region.wanted, yieldR]
          (repeat (conv in rho _ _ _ _ (Operand.tmp _) => whnf))
          first | (simp [hd]; done) | (simp [hd]; omega)) ?_
        refine free_passed (fun vs wq hg hd => by
          simp [Region.binds] at hd
          simp [Region.wanted, yieldR]
          (repeat (conv in rho _ _ _ _ (Operand.tmp _) => whnf))
          first | (simp [hd]; done) | (simp [hd]; omega)) ?_
        refine free_passed (fun vs wq hg hd => by
          simp [Region.binds] at hd
          simp [Region.wanted, yieldR]
          (repeat (conv in rho _ _ _ _ (Operand.tmp _) => whnf))
          first | (simp [hd]; done) | (simp [hd]; omega)) ?_
        refine free_passed (fun vs wq hg hd => by
          simp [Region.binds] at hd
          simp [Region.wanted, yieldR]
          (repeat (conv in rho _ _ _ _ (Operand.tmp _) => whnf))
          first | (simp [hd]; done) | (simp [hd]; omega)) ?_
        refine free_passed (fun vs wq hg hd => by
          simp [Region.binds] at hd
          simp [Region.wanted, yieldR]
          (repeat (conv in rho _ _ _ _ (Operand.tmp _) => whnf))
          first | (simp [hd]; done) | (simp [hd]; omega)) ?_
        refine free_op (fun v_ _ => v_ = .bool false) rfl (val_mono _) (fun vs wq hg hd => by
          (try simp [Region.binds] at hd); simp only [Does]; simp only [execOp, resolve, Option.map_some, Option.map_none, List.map_toArray, List.map_cons, List.map_nil, rho_const, rho_func]; (repeat (conv in rho _ _ _ _ (Operand.tmp _) => whnf)); (try simp only [hd]); go_simp; (repeat (conv in rho _ _ _ _ (Operand.tmp _) => whnf))
          first | exact Grows.refl _ | exact ⟨Grows.refl _, rfl⟩ | (refine ⟨Grows.refl _, ?_⟩; simp [hd]; done) | (refine ⟨Grows.refl _, ?_⟩; simp [hd]; omega) | (refine ⟨Grows.refl _, ?_⟩; simp; omega)) ?_
        intro vs w' hg hv; have h18 := hv 18 (by omega); simp at h18; simp only [putL, dstAt, List.range, List.range.loop, if_true, List.getElem?_toArray, List.getElem?_cons_zero, List.getElem?_cons_succ, Option.bind_some, Act.put, List.setIfInBounds_toArray, List.set_cons_zero, List.set_cons_succ]
        rw [h18]
        have HGN := Lib.hid (show Grows wr w' from Grows.of_drew hg)
        clear hv h18 hg c_D_0 c_D_1 c_at
        generalize vs 0 = z0, vs 1 = z1, vs 2 = z2, vs 3 = z3, vs 4 = z4, vs 5 = z5, vs 6 = z6, vs 7 = z7, vs 8 = z8, vs 9 = z9, vs 10 = z10, vs 11 = z11, vs 12 = z12, vs 13 = z13, vs 14 = z14, vs 15 = z15, vs 16 = z16, vs 17 = z17, vs 18 = z18 at *
        go_wp2
        go_roundw
        case rel => exact ⟨q + 1, by omega, by go_num, by rw [HS.out]; exact Row.grows I1.out HGN.out, Row.grows I2.out HGN.out, Row.grows I3.out HGN.out, I4.out.trans HGN.out⟩
        case measure => simp [intOf]; omega
      by_cases hxn : x.1 < d.pages.length
      case neg =>
        have hxn' : (d.pages.length : Int) ≤ x.1 := by omega
        have HS := Lib.hid (FlM.wrL_off d.pages.length d.cache q x HX.out (by omega))
        go_wp2
        refine wp_region_free 19 191 (by kernel_rfl) (by kernel_rfl) rfl (by kernel_rfl) ?_; simp only [List.take_succ_cons, List.take_zero, List.drop_succ_cons, List.drop_zero]
        refine free_op (fun v_ _ => v_ = .pointer (some ⟨w.heap.size, 1, none⟩)) rfl (val_mono _) (fun vs wq hg hd => by
          (try simp [Region.binds] at hd); simp only [Does]; simp only [execOp, resolve, Option.map_some, Option.map_none, List.map_toArray, List.map_cons, List.map_nil, rho_const, rho_func]; (repeat (conv in rho _ _ _ _ (Operand.tmp _) => whnf)); (try simp only [hd]); go_simp; (repeat (conv in rho _ _ _ _ (Operand.tmp _) => whnf))
          first | exact Grows.refl _ | exact ⟨Grows.refl _, rfl⟩ | (refine ⟨Grows.refl _, ?_⟩; simp [hd]; done) | (refine ⟨Grows.refl _, ?_⟩; simp [hd]; omega) | (refine ⟨Grows.refl _, ?_⟩; simp; omega)) ?_
        refine free_op (fun v_ _ => v_ = .slice (some ⟨gC, oC, none⟩) d.cache.length cC) rfl (val_mono _) (fun vs wq hg hd => by
          have q0 := hg.cell c_D_1
          (try simp [Region.binds] at hd); simp only [Does]; simp only [execOp, resolve, Option.map_some, Option.map_none, List.map_toArray, List.map_cons, List.map_nil, rho_const, rho_func]; (repeat (conv in rho _ _ _ _ (Operand.tmp _) => whnf)); (try simp only [hd]); go_simp; (repeat (conv in rho _ _ _ _ (Operand.tmp _) => whnf))
          first | exact Grows.refl _ | exact ⟨Grows.refl _, rfl⟩ | (refine ⟨Grows.refl _, ?_⟩; simp [hd]; done) | (refine ⟨Grows.refl _, ?_⟩; simp [hd]; omega) | (refine ⟨Grows.refl _, ?_⟩; simp; omega)) ?_
        refine free_op (fun v_ _ => v_ = .int .i64 q) rfl (val_mono _) (fun vs wq hg hd => by
          (try simp [Region.binds] at hd); simp only [Does]; simp only [execOp, resolve, Option.map_some, Option.map_none, List.map_toArray, List.map_cons, List.map_nil, rho_const, rho_func]; (repeat (conv in rho _ _ _ _ (Operand.tmp _) => whnf)); (try simp only [hd]); go_simp; (repeat (conv in rho _ _ _ _ (Operand.tmp _) => whnf))
          first | exact Grows.refl _ | exact ⟨Grows.refl _, rfl⟩ | (refine ⟨Grows.refl _, ?_⟩; simp [hd]; done) | (refine ⟨Grows.refl _, ?_⟩; simp [hd]; omega) | (refine ⟨Grows.refl _, ?_⟩; simp; omega)) ?_
        refine free_op (fun v_ _ => v_ = .pointer (some ⟨gC, oC + q * 257, none⟩)) rfl (val_mono _) (fun vs wq hg hd => by
          (try simp [Region.binds] at hd); simp only [Does]; simp only [execOp, resolve, Option.map_some, Option.map_none, List.map_toArray, List.map_cons, List.map_nil, rho_const, rho_func]; (repeat (conv in rho _ _ _ _ (Operand.tmp _) => whnf)); (try simp only [hd]); go_simp; (repeat (conv in rho _ _ _ _ (Operand.tmp _) => whnf))
          first | exact Grows.refl _ | exact ⟨Grows.refl _, rfl⟩ | (refine ⟨Grows.refl _, ?_⟩; simp [hd]; done) | (refine ⟨Grows.refl _, ?_⟩; simp [hd]; omega) | (refine ⟨Grows.refl _, ?_⟩; simp; omega)) ?_
        refine free_op (fun v_ _ => v_ = .pointer (some ⟨gC, oC + q * 257, none⟩)) rfl (val_mono _) (fun vs wq hg hd => by
          (try simp [Region.binds] at hd); simp only [Does]; simp only [execOp, resolve, Option.map_some, Option.map_none, List.map_toArray, List.map_cons, List.map_nil, rho_const, rho_func]; (repeat (conv in rho _ _ _ _ (Operand.tmp _) => whnf)); (try simp only [hd]); go_simp; (repeat (conv in rho _ _ _ _ (Operand.tmp _) => whnf))
          first | exact Grows.refl _ | exact ⟨Grows.refl _, rfl⟩ | (refine ⟨Grows.refl _, ?_⟩; simp [hd]; done) | (refine ⟨Grows.refl _, ?_⟩; simp [hd]; omega) | (refine ⟨Grows.refl _, ?_⟩; simp; omega)) ?_
        refine free_op (fun v_ _ => v_ = .int .i64 x.1) rfl (val_mono _) (fun vs wq hg hd => by
          have q0 := hg.cell c_at
          (try simp [Region.binds] at hd); simp only [Does]; simp only [execOp, resolve, Option.map_some, Option.map_none, List.map_toArray, List.map_cons, List.map_nil, rho_const, rho_func]; (repeat (conv in rho _ _ _ _ (Operand.tmp _) => whnf)); (try simp only [hd]); go_simp; (repeat (conv in rho _ _ _ _ (Operand.tmp _) => whnf))
          first | exact Grows.refl _ | exact ⟨Grows.refl _, rfl⟩ | (refine ⟨Grows.refl _, ?_⟩; simp [hd]; done) | (refine ⟨Grows.refl _, ?_⟩; simp [hd]; omega) | (refine ⟨Grows.refl _, ?_⟩; simp; omega)) ?_
        refine free_op (fun v_ _ => v_ = .bool true) rfl (val_mono _) (fun vs wq hg hd => by
          (try simp [Region.binds] at hd); simp only [Does]; simp only [execOp, resolve, Option.map_some, Option.map_none, List.map_toArray, List.map_cons, List.map_nil, rho_const, rho_func]; (repeat (conv in rho _ _ _ _ (Operand.tmp _) => whnf)); (try simp only [hd]); go_simp; (repeat (conv in rho _ _ _ _ (Operand.tmp _) => whnf))
          first | exact Grows.refl _ | exact ⟨Grows.refl _, rfl⟩ | (refine ⟨Grows.refl _, ?_⟩; simp [hd]; done) | (refine ⟨Grows.refl _, ?_⟩; simp [hd]; omega) | (refine ⟨Grows.refl _, ?_⟩; simp; omega)) ?_
        refine free_op (fun v_ _ => v_ = .bool true) rfl (val_mono _) (fun vs wq hg hd => by
          (try simp [Region.binds] at hd); simp only [Does]; simp only [execOp, resolve, Option.map_some, Option.map_none, List.map_toArray, List.map_cons, List.map_nil, rho_const, rho_func]; (repeat (conv in rho _ _ _ _ (Operand.tmp _) => whnf)); (try simp only [hd]); go_simp; (repeat (conv in rho _ _ _ _ (Operand.tmp _) => whnf))
          first | exact Grows.refl _ | exact ⟨Grows.refl _, rfl⟩ | (refine ⟨Grows.refl _, ?_⟩; simp [hd]; done) | (refine ⟨Grows.refl _, ?_⟩; simp [hd]; omega) | (refine ⟨Grows.refl _, ?_⟩; simp; omega)) ?_
        refine free_guarded (fun v_ _ => v_ = .pointer (some ⟨w.heap.size, 1, none⟩)) (val_mono _) (fun vs wq hg hd => by
          simp [Region.binds] at hd
          refine ⟨?_, ?_⟩
          · simp [Region.wanted, yieldR]
            (repeat (conv in rho _ _ _ _ (Operand.tmp _) => whnf))
            first | (simp [hd]; done) | (simp [hd]; omega)
          · simp only [Does]
            simp only [execOp, resolve, Option.map_some, Option.map_none, List.map_toArray, List.map_cons, List.map_nil, rho_const, rho_func]
            (repeat (conv in rho _ _ _ _ (Operand.tmp _) => whnf))
            (try simp only [hd])
            go_simp
            (repeat (conv in rho _ _ _ _ (Operand.tmp _) => whnf))
            first | exact Grows.refl _ | exact ⟨Grows.refl _, rfl⟩ | (refine ⟨Grows.refl _, ?_⟩; simp [hd]; done) | (refine ⟨Grows.refl _, ?_⟩; simp [hd]; omega) | (refine ⟨Grows.refl _, ?_⟩; simp; omega)) ?_
        refine free_guarded (fun v_ _ => v_ = .slice (some ⟨gC, oC, none⟩) d.cache.length cC) (val_mono _) (fun vs wq hg hd => by
          simp [Region.binds] at hd
          refine ⟨?_, ?_⟩
          · simp [Region.wanted, yieldR]
            (repeat (conv in rho _ _ _ _ (Operand.tmp _) => whnf))
            first | (simp [hd]; done) | (simp [hd]; omega)
          · simp only [Does]
            simp only [execOp, resolve, Option.map_some, Option.map_none, List.map_toArray, List.map_cons, List.map_nil, rho_const, rho_func]
            (repeat (conv in rho _ _ _ _ (Operand.tmp _) => whnf))
            (try simp only [hd])
            have q0 := hg.cell c_D_1
            go_simp
            (repeat (conv in rho _ _ _ _ (Operand.tmp _) => whnf))
            first | exact Grows.refl _ | exact ⟨Grows.refl _, rfl⟩ | (refine ⟨Grows.refl _, ?_⟩; simp [hd]; done) | (refine ⟨Grows.refl _, ?_⟩; simp [hd]; omega) | (refine ⟨Grows.refl _, ?_⟩; simp; omega)) ?_
        refine free_guarded (fun v_ _ => v_ = .int .i64 q) (val_mono _) (fun vs wq hg hd => by
          simp [Region.binds] at hd
          refine ⟨?_, ?_⟩
          · simp [Region.wanted, yieldR]
            (repeat (conv in rho _ _ _ _ (Operand.tmp _) => whnf))
            first | (simp [hd]; done) | (simp [hd]; omega)
          · simp only [Does]
            simp only [execOp, resolve, Option.map_some, Option.map_none, List.map_toArray, List.map_cons, List.map_nil, rho_const, rho_func]
            (repeat (conv in rho _ _ _ _ (Operand.tmp _) => whnf))
            (try simp only [hd])
            go_simp
            (repeat (conv in rho _ _ _ _ (Operand.tmp _) => whnf))
            first | exact Grows.refl _ | exact ⟨Grows.refl _, rfl⟩ | (refine ⟨Grows.refl _, ?_⟩; simp [hd]; done) | (refine ⟨Grows.refl _, ?_⟩; simp [hd]; omega) | (refine ⟨Grows.refl _, ?_⟩; simp; omega)) ?_
        refine free_guarded (fun v_ _ => v_ = .pointer (some ⟨gC, oC + q * 257, none⟩)) (val_mono _) (fun vs wq hg hd => by
          simp [Region.binds] at hd
          refine ⟨?_, ?_⟩
          · simp [Region.wanted, yieldR]
            (repeat (conv in rho _ _ _ _ (Operand.tmp _) => whnf))
            first | (simp [hd]; done) | (simp [hd]; omega)
          · simp only [Does]
            simp only [execOp, resolve, Option.map_some, Option.map_none, List.map_toArray, List.map_cons, List.map_nil, rho_const, rho_func]
            (repeat (conv in rho _ _ _ _ (Operand.tmp _) => whnf))
            (try simp only [hd])
            go_simp
            (repeat (conv in rho _ _ _ _ (Operand.tmp _) => whnf))
            first | exact Grows.refl _ | exact ⟨Grows.refl _, rfl⟩ | (refine ⟨Grows.refl _, ?_⟩; simp [hd]; done) | (refine ⟨Grows.refl _, ?_⟩; simp [hd]; omega) | (refine ⟨Grows.refl _, ?_⟩; simp; omega)) ?_
        refine free_guarded (fun v_ _ => v_ = .pointer (some ⟨gC, oC + q * 257, none⟩)) (val_mono _) (fun vs wq hg hd => by
          simp [Region.binds] at hd
          refine ⟨?_, ?_⟩
          · simp [Region.wanted, yieldR]
            (repeat (conv in rho _ _ _ _ (Operand.tmp _) => whnf))
            first | (simp [hd]; done) | (simp [hd]; omega)
          · simp only [Does]
            simp only [execOp, resolve, Option.map_some, Option.map_none, List.map_toArray, List.map_cons, List.map_nil, rho_const, rho_func]
            (repeat (conv in rho _ _ _ _ (Operand.tmp _) => whnf))
            (try simp only [hd])
            go_simp
            (repeat (conv in rho _ _ _ _ (Operand.tmp _) => whnf))
            first | exact Grows.refl _ | exact ⟨Grows.refl _, rfl⟩ | (refine ⟨Grows.refl _, ?_⟩; simp [hd]; done) | (refine ⟨Grows.refl _, ?_⟩; simp [hd]; omega) | (refine ⟨Grows.refl _, ?_⟩; simp; omega)) ?_
        refine free_guarded (fun v_ _ => v_ = .int .i64 x.1) (val_mono _) (fun vs wq hg hd => by
          simp [Region.binds] at hd
          refine ⟨?_, ?_⟩
          · simp [Region.wanted, yieldR]
            (repeat (conv in rho _ _ _ _ (Operand.tmp _) => whnf))
            first | (simp [hd]; done) | (simp [hd]; omega)
          · simp only [Does]
            simp only [execOp, resolve, Option.map_some, Option.map_none, List.map_toArray, List.map_cons, List.map_nil, rho_const, rho_func]
            (repeat (conv in rho _ _ _ _ (Operand.tmp _) => whnf))
            (try simp only [hd])
            have q0 := hg.cell c_at
            go_simp
            (repeat (conv in rho _ _ _ _ (Operand.tmp _) => whnf))
            first | exact Grows.refl _ | exact ⟨Grows.refl _, rfl⟩ | (refine ⟨Grows.refl _, ?_⟩; simp [hd]; done) | (refine ⟨Grows.refl _, ?_⟩; simp [hd]; omega) | (refine ⟨Grows.refl _, ?_⟩; simp; omega)) ?_
        refine free_guarded (fun v_ _ => v_ = .pointer (some ⟨w.heap.size, 0, none⟩)) (val_mono _) (fun vs wq hg hd => by
          simp [Region.binds] at hd
          refine ⟨?_, ?_⟩
          · simp [Region.wanted, yieldR]
            (repeat (conv in rho _ _ _ _ (Operand.tmp _) => whnf))
            first | (simp [hd]; done) | (simp [hd]; omega)
          · simp only [Does]
            simp only [execOp, resolve, Option.map_some, Option.map_none, List.map_toArray, List.map_cons, List.map_nil, rho_const, rho_func]
            (repeat (conv in rho _ _ _ _ (Operand.tmp _) => whnf))
            (try simp only [hd])
            go_simp
            (repeat (conv in rho _ _ _ _ (Operand.tmp _) => whnf))
            first | exact Grows.refl _ | exact ⟨Grows.refl _, rfl⟩ | (refine ⟨Grows.refl _, ?_⟩; simp [hd]; done) | (refine ⟨Grows.refl _, ?_⟩; simp [hd]; omega) | (refine ⟨Grows.refl _, ?_⟩; simp; omega)) ?_
        refine free_guarded (fun v_ _ => v_ = .slice AP d.pages.length cP) (val_mono _) (fun vs wq hg hd => by
          simp [Region.binds] at hd
          refine ⟨?_, ?_⟩
          · simp [Region.wanted, yieldR]
            (repeat (conv in rho _ _ _ _ (Operand.tmp _) => whnf))
            first | (simp [hd]; done) | (simp [hd]; omega)
          · simp only [Does]
            simp only [execOp, resolve, Option.map_some, Option.map_none, List.map_toArray, List.map_cons, List.map_nil, rho_const, rho_func]
            (repeat (conv in rho _ _ _ _ (Operand.tmp _) => whnf))
            (try simp only [hd])
            have q0 := hg.cell c_D_0
            go_simp
            (repeat (conv in rho _ _ _ _ (Operand.tmp _) => whnf))
            first | exact Grows.refl _ | exact ⟨Grows.refl _, rfl⟩ | (refine ⟨Grows.refl _, ?_⟩; simp [hd]; done) | (refine ⟨Grows.refl _, ?_⟩; simp [hd]; omega) | (refine ⟨Grows.refl _, ?_⟩; simp; omega)) ?_
        refine free_guarded (fun v_ _ => v_ = .int .i64 d.pages.length) (val_mono _) (fun vs wq hg hd => by
          simp [Region.binds] at hd
          refine ⟨?_, ?_⟩
          · simp [Region.wanted, yieldR]
            (repeat (conv in rho _ _ _ _ (Operand.tmp _) => whnf))
            first | (simp [hd]; done) | (simp [hd]; omega)
          · simp only [Does]
            simp only [execOp, resolve, Option.map_some, Option.map_none, List.map_toArray, List.map_cons, List.map_nil, rho_const, rho_func]
            (repeat (conv in rho _ _ _ _ (Operand.tmp _) => whnf))
            (try simp only [hd])
            go_simp
            (repeat (conv in rho _ _ _ _ (Operand.tmp _) => whnf))
            first | exact Grows.refl _ | exact ⟨Grows.refl _, rfl⟩ | (refine ⟨Grows.refl _, ?_⟩; simp [hd]; done) | (refine ⟨Grows.refl _, ?_⟩; simp [hd]; omega) | (refine ⟨Grows.refl _, ?_⟩; simp; omega)) ?_
        refine free_guarded (fun v_ _ => v_ = .bool false) (val_mono _) (fun vs wq hg hd => by
          simp [Region.binds] at hd
          refine ⟨?_, ?_⟩
          · simp [Region.wanted, yieldR]
            (repeat (conv in rho _ _ _ _ (Operand.tmp _) => whnf))
            first | (simp [hd]; done) | (simp [hd]; omega)
          · simp only [Does]
            simp only [execOp, resolve, Option.map_some, Option.map_none, List.map_toArray, List.map_cons, List.map_nil, rho_const, rho_func]
            (repeat (conv in rho _ _ _ _ (Operand.tmp _) => whnf))
            (try simp only [hd])
            go_simp
            (repeat (conv in rho _ _ _ _ (Operand.tmp _) => whnf))
            first | exact Grows.refl _ | exact ⟨Grows.refl _, rfl⟩ | (refine ⟨Grows.refl _, ?_⟩; simp [hd]; done) | (refine ⟨Grows.refl _, ?_⟩; simp [hd]; omega) | (refine ⟨Grows.refl _, ?_⟩; simp; omega)) ?_
        refine free_op (fun v_ _ => v_ = .bool false) rfl (val_mono _) (fun vs wq hg hd => by
          (try simp [Region.binds] at hd); simp only [Does]; simp only [execOp, resolve, Option.map_some, Option.map_none, List.map_toArray, List.map_cons, List.map_nil, rho_const, rho_func]; (repeat (conv in rho _ _ _ _ (Operand.tmp _) => whnf)); (try simp only [hd]); go_simp; (repeat (conv in rho _ _ _ _ (Operand.tmp _) => whnf))
          first | exact Grows.refl _ | exact ⟨Grows.refl _, rfl⟩ | (refine ⟨Grows.refl _, ?_⟩; simp [hd]; done) | (refine ⟨Grows.refl _, ?_⟩; simp [hd]; omega) | (refine ⟨Grows.refl _, ?_⟩; simp; omega)) ?_
        intro vs w' hg hv; have h18 := hv 18 (by omega); simp at h18; simp only [putL, dstAt, List.range, List.range.loop, if_true, List.getElem?_toArray, List.getElem?_cons_zero, List.getElem?_cons_succ, Option.bind_some, Act.put, List.setIfInBounds_toArray, List.set_cons_zero, List.set_cons_succ]
        rw [h18]
        have HGN := Lib.hid (show Grows wr w' from Grows.of_drew hg)
        clear hv h18 hg c_D_0 c_D_1 c_at
        generalize vs 0 = z0, vs 1 = z1, vs 2 = z2, vs 3 = z3, vs 4 = z4, vs 5 = z5, vs 6 = z6, vs 7 = z7, vs 8 = z8, vs 9 = z9, vs 10 = z10, vs 11 = z11, vs 12 = z12, vs 13 = z13, vs 14 = z14, vs 15 = z15, vs 16 = z16, vs 17 = z17, vs 18 = z18 at *
        go_wp2
        go_roundw
        case rel => exact ⟨q + 1, by omega, by go_num, by rw [HS.out]; exact Row.grows I1.out HGN.out, Row.grows I2.out HGN.out, Row.grows I3.out HGN.out, I4.out.trans HGN.out⟩
        case measure => simp [intOf]; omega
      obtain ⟨j, hj⟩ : ∃ j : Nat, x.1 = j := ⟨x.1.toNat, by omega⟩
      have HS := Lib.hid (FlM.wrL_on d.pages.length d.cache q j x HX.out hj)
      rw [hj] at c_at hx0 hxn
      have hjn : j < d.pages.length := by omega
      clear hj
      go_wp2
      refine wp_region_free 19 191 (by kernel_rfl) (by kernel_rfl) rfl (by kernel_rfl) ?_; simp only [List.take_succ_cons, List.take_zero, List.drop_succ_cons, List.drop_zero]
      refine free_op (fun v_ _ => v_ = .pointer (some ⟨w.heap.size, 1, none⟩)) rfl (val_mono _) (fun vs wq hg hd => by
        (try simp [Region.binds] at hd); simp only [Does]; simp only [execOp, resolve, Option.map_some, Option.map_none, List.map_toArray, List.map_cons, List.map_nil, rho_const, rho_func]; (repeat (conv in rho _ _ _ _ (Operand.tmp _) => whnf)); (try simp only [hd]); go_simp; (repeat (conv in rho _ _ _ _ (Operand.tmp _) => whnf))
        first | exact Grows.refl _ | exact ⟨Grows.refl _, rfl⟩ | (refine ⟨Grows.refl _, ?_⟩; simp [hd]; done) | (refine ⟨Grows.refl _, ?_⟩; simp [hd]; omega) | (refine ⟨Grows.refl _, ?_⟩; simp; omega)) ?_
      refine free_op (fun v_ _ => v_ = .slice (some ⟨gC, oC, none⟩) d.cache.length cC) rfl (val_mono _) (fun vs wq hg hd => by
        have q0 := hg.cell c_D_1
        (try simp [Region.binds] at hd); simp only [Does]; simp only [execOp, resolve, Option.map_some, Option.map_none, List.map_toArray, List.map_cons, List.map_nil, rho_const, rho_func]; (repeat (conv in rho _ _ _ _ (Operand.tmp _) => whnf)); (try simp only [hd]); go_simp; (repeat (conv in rho _ _ _ _ (Operand.tmp _) => whnf))
        first | exact Grows.refl _ | exact ⟨Grows.refl _, rfl⟩ | (refine ⟨Grows.refl _, ?_⟩; simp [hd]; done) | (refine ⟨Grows.refl _, ?_⟩; simp [hd]; omega) | (refine ⟨Grows.refl _, ?_⟩; simp; omega)) ?_
      refine free_op (fun v_ _ => v_ = .int .i64 q) rfl (val_mono _) (fun vs wq hg hd => by
        (try simp [Region.binds] at hd); simp only [Does]; simp only [execOp, resolve, Option.map_some, Option.map_none, List.map_toArray, List.map_cons, List.map_nil, rho_const, rho_func]; (repeat (conv in rho _ _ _ _ (Operand.tmp _) => whnf)); (try simp only [hd]); go_simp; (repeat (conv in rho _ _ _ _ (Operand.tmp _) => whnf))
        first | exact Grows.refl _ | exact ⟨Grows.refl _, rfl⟩ | (refine ⟨Grows.refl _, ?_⟩; simp [hd]; done) | (refine ⟨Grows.refl _, ?_⟩; simp [hd]; omega) | (refine ⟨Grows.refl _, ?_⟩; simp; omega)) ?_
      refine free_op (fun v_ _ => v_ = .pointer (some ⟨gC, oC + q * 257, none⟩)) rfl (val_mono _) (fun vs wq hg hd => by
        (try simp [Region.binds] at hd); simp only [Does]; simp only [execOp, resolve, Option.map_some, Option.map_none, List.map_toArray, List.map_cons, List.map_nil, rho_const, rho_func]; (repeat (conv in rho _ _ _ _ (Operand.tmp _) => whnf)); (try simp only [hd]); go_simp; (repeat (conv in rho _ _ _ _ (Operand.tmp _) => whnf))
        first | exact Grows.refl _ | exact ⟨Grows.refl _, rfl⟩ | (refine ⟨Grows.refl _, ?_⟩; simp [hd]; done) | (refine ⟨Grows.refl _, ?_⟩; simp [hd]; omega) | (refine ⟨Grows.refl _, ?_⟩; simp; omega)) ?_
      refine free_op (fun v_ _ => v_ = .pointer (some ⟨gC, oC + q * 257, none⟩)) rfl (val_mono _) (fun vs wq hg hd => by
        (try simp [Region.binds] at hd); simp only [Does]; simp only [execOp, resolve, Option.map_some, Option.map_none, List.map_toArray, List.map_cons, List.map_nil, rho_const, rho_func]; (repeat (conv in rho _ _ _ _ (Operand.tmp _) => whnf)); (try simp only [hd]); go_simp; (repeat (conv in rho _ _ _ _ (Operand.tmp _) => whnf))
        first | exact Grows.refl _ | exact ⟨Grows.refl _, rfl⟩ | (refine ⟨Grows.refl _, ?_⟩; simp [hd]; done) | (refine ⟨Grows.refl _, ?_⟩; simp [hd]; omega) | (refine ⟨Grows.refl _, ?_⟩; simp; omega)) ?_
      refine free_op (fun v_ _ => v_ = .int .i64 (j : Int)) rfl (val_mono _) (fun vs wq hg hd => by
        have q0 := hg.cell c_at
        (try simp [Region.binds] at hd); simp only [Does]; simp only [execOp, resolve, Option.map_some, Option.map_none, List.map_toArray, List.map_cons, List.map_nil, rho_const, rho_func]; (repeat (conv in rho _ _ _ _ (Operand.tmp _) => whnf)); (try simp only [hd]); go_simp; (repeat (conv in rho _ _ _ _ (Operand.tmp _) => whnf))
        first | exact Grows.refl _ | exact ⟨Grows.refl _, rfl⟩ | (refine ⟨Grows.refl _, ?_⟩; simp [hd]; done) | (refine ⟨Grows.refl _, ?_⟩; simp [hd]; omega) | (refine ⟨Grows.refl _, ?_⟩; simp; omega)) ?_
      refine free_op (fun v_ _ => v_ = .bool true) rfl (val_mono _) (fun vs wq hg hd => by
        (try simp [Region.binds] at hd); simp only [Does]; simp only [execOp, resolve, Option.map_some, Option.map_none, List.map_toArray, List.map_cons, List.map_nil, rho_const, rho_func]; (repeat (conv in rho _ _ _ _ (Operand.tmp _) => whnf)); (try simp only [hd]); go_simp; (repeat (conv in rho _ _ _ _ (Operand.tmp _) => whnf))
        first | exact Grows.refl _ | exact ⟨Grows.refl _, rfl⟩ | (refine ⟨Grows.refl _, ?_⟩; simp [hd]; done) | (refine ⟨Grows.refl _, ?_⟩; simp [hd]; omega) | (refine ⟨Grows.refl _, ?_⟩; simp; omega)) ?_
      refine free_op (fun v_ _ => v_ = .bool true) rfl (val_mono _) (fun vs wq hg hd => by
        (try simp [Region.binds] at hd); simp only [Does]; simp only [execOp, resolve, Option.map_some, Option.map_none, List.map_toArray, List.map_cons, List.map_nil, rho_const, rho_func]; (repeat (conv in rho _ _ _ _ (Operand.tmp _) => whnf)); (try simp only [hd]); go_simp; (repeat (conv in rho _ _ _ _ (Operand.tmp _) => whnf))
        first | exact Grows.refl _ | exact ⟨Grows.refl _, rfl⟩ | (refine ⟨Grows.refl _, ?_⟩; simp [hd]; done) | (refine ⟨Grows.refl _, ?_⟩; simp [hd]; omega) | (refine ⟨Grows.refl _, ?_⟩; simp; omega)) ?_
      refine free_guarded (fun v_ _ => v_ = .pointer (some ⟨w.heap.size, 1, none⟩)) (val_mono _) (fun vs wq hg hd => by
        simp [Region.binds] at hd
        refine ⟨?_, ?_⟩
        · simp [Region.wanted, yieldR]
          (repeat (conv in rho _ _ _ _ (Operand.tmp _) => whnf))
          first | (simp [hd]; done) | (simp [hd]; omega)
        · simp only [Does]
          simp only [execOp, resolve, Option.map_some, Option.map_none, List.map_toArray, List.map_cons, List.map_nil, rho_const, rho_func]
          (repeat (conv in rho _ _ _ _ (Operand.tmp _) => whnf))
          (try simp only [hd])
          go_simp
          (repeat (conv in rho _ _ _ _ (Operand.tmp _) => whnf))
          first | exact Grows.refl _ | exact ⟨Grows.refl _, rfl⟩ | (refine ⟨Grows.refl _, ?_⟩; simp [hd]; done) | (refine ⟨Grows.refl _, ?_⟩; simp [hd]; omega) | (refine ⟨Grows.refl _, ?_⟩; simp; omega)) ?_
      refine free_guarded (fun v_ _ => v_ = .slice (some ⟨gC, oC, none⟩) d.cache.length cC) (val_mono _) (fun vs wq hg hd => by
        simp [Region.binds] at hd
        refine ⟨?_, ?_⟩
        · simp [Region.wanted, yieldR]
          (repeat (conv in rho _ _ _ _ (Operand.tmp _) => whnf))
          first | (simp [hd]; done) | (simp [hd]; omega)
        · simp only [Does]
          simp only [execOp, resolve, Option.map_some, Option.map_none, List.map_toArray, List.map_cons, List.map_nil, rho_const, rho_func]
          (repeat (conv in rho _ _ _ _ (Operand.tmp _) => whnf))
          (try simp only [hd])
          have q0 := hg.cell c_D_1
          go_simp
          (repeat (conv in rho _ _ _ _ (Operand.tmp _) => whnf))
          first | exact Grows.refl _ | exact ⟨Grows.refl _, rfl⟩ | (refine ⟨Grows.refl _, ?_⟩; simp [hd]; done) | (refine ⟨Grows.refl _, ?_⟩; simp [hd]; omega) | (refine ⟨Grows.refl _, ?_⟩; simp; omega)) ?_
      refine free_guarded (fun v_ _ => v_ = .int .i64 q) (val_mono _) (fun vs wq hg hd => by
        simp [Region.binds] at hd
        refine ⟨?_, ?_⟩
        · simp [Region.wanted, yieldR]
          (repeat (conv in rho _ _ _ _ (Operand.tmp _) => whnf))
          first | (simp [hd]; done) | (simp [hd]; omega)
        · simp only [Does]
          simp only [execOp, resolve, Option.map_some, Option.map_none, List.map_toArray, List.map_cons, List.map_nil, rho_const, rho_func]
          (repeat (conv in rho _ _ _ _ (Operand.tmp _) => whnf))
          (try simp only [hd])
          go_simp
          (repeat (conv in rho _ _ _ _ (Operand.tmp _) => whnf))
          first | exact Grows.refl _ | exact ⟨Grows.refl _, rfl⟩ | (refine ⟨Grows.refl _, ?_⟩; simp [hd]; done) | (refine ⟨Grows.refl _, ?_⟩; simp [hd]; omega) | (refine ⟨Grows.refl _, ?_⟩; simp; omega)) ?_
      refine free_guarded (fun v_ _ => v_ = .pointer (some ⟨gC, oC + q * 257, none⟩)) (val_mono _) (fun vs wq hg hd => by
        simp [Region.binds] at hd
        refine ⟨?_, ?_⟩
        · simp [Region.wanted, yieldR]
          (repeat (conv in rho _ _ _ _ (Operand.tmp _) => whnf))
          first | (simp [hd]; done) | (simp [hd]; omega)
        · simp only [Does]
          simp only [execOp, resolve, Option.map_some, Option.map_none, List.map_toArray, List.map_cons, List.map_nil, rho_const, rho_func]
          (repeat (conv in rho _ _ _ _ (Operand.tmp _) => whnf))
          (try simp only [hd])
          go_simp
          (repeat (conv in rho _ _ _ _ (Operand.tmp _) => whnf))
          first | exact Grows.refl _ | exact ⟨Grows.refl _, rfl⟩ | (refine ⟨Grows.refl _, ?_⟩; simp [hd]; done) | (refine ⟨Grows.refl _, ?_⟩; simp [hd]; omega) | (refine ⟨Grows.refl _, ?_⟩; simp; omega)) ?_
      refine free_guarded (fun v_ _ => v_ = .pointer (some ⟨gC, oC + q * 257, none⟩)) (val_mono _) (fun vs wq hg hd => by
        simp [Region.binds] at hd
        refine ⟨?_, ?_⟩
        · simp [Region.wanted, yieldR]
          (repeat (conv in rho _ _ _ _ (Operand.tmp _) => whnf))
          first | (simp [hd]; done) | (simp [hd]; omega)
        · simp only [Does]
          simp only [execOp, resolve, Option.map_some, Option.map_none, List.map_toArray, List.map_cons, List.map_nil, rho_const, rho_func]
          (repeat (conv in rho _ _ _ _ (Operand.tmp _) => whnf))
          (try simp only [hd])
          go_simp
          (repeat (conv in rho _ _ _ _ (Operand.tmp _) => whnf))
          first | exact Grows.refl _ | exact ⟨Grows.refl _, rfl⟩ | (refine ⟨Grows.refl _, ?_⟩; simp [hd]; done) | (refine ⟨Grows.refl _, ?_⟩; simp [hd]; omega) | (refine ⟨Grows.refl _, ?_⟩; simp; omega)) ?_
      refine free_guarded (fun v_ _ => v_ = .int .i64 (j : Int)) (val_mono _) (fun vs wq hg hd => by
        simp [Region.binds] at hd
        refine ⟨?_, ?_⟩
        · simp [Region.wanted, yieldR]
          (repeat (conv in rho _ _ _ _ (Operand.tmp _) => whnf))
          first | (simp [hd]; done) | (simp [hd]; omega)
        · simp only [Does]
          simp only [execOp, resolve, Option.map_some, Option.map_none, List.map_toArray, List.map_cons, List.map_nil, rho_const, rho_func]
          (repeat (conv in rho _ _ _ _ (Operand.tmp _) => whnf))
          (try simp only [hd])
          have q0 := hg.cell c_at
          go_simp
          (repeat (conv in rho _ _ _ _ (Operand.tmp _) => whnf))
          first | exact Grows.refl _ | exact ⟨Grows.refl _, rfl⟩ | (refine ⟨Grows.refl _, ?_⟩; simp [hd]; done) | (refine ⟨Grows.refl _, ?_⟩; simp [hd]; omega) | (refine ⟨Grows.refl _, ?_⟩; simp; omega)) ?_
      refine free_guarded (fun v_ _ => v_ = .pointer (some ⟨w.heap.size, 0, none⟩)) (val_mono _) (fun vs wq hg hd => by
        simp [Region.binds] at hd
        refine ⟨?_, ?_⟩
        · simp [Region.wanted, yieldR]
          (repeat (conv in rho _ _ _ _ (Operand.tmp _) => whnf))
          first | (simp [hd]; done) | (simp [hd]; omega)
        · simp only [Does]
          simp only [execOp, resolve, Option.map_some, Option.map_none, List.map_toArray, List.map_cons, List.map_nil, rho_const, rho_func]
          (repeat (conv in rho _ _ _ _ (Operand.tmp _) => whnf))
          (try simp only [hd])
          go_simp
          (repeat (conv in rho _ _ _ _ (Operand.tmp _) => whnf))
          first | exact Grows.refl _ | exact ⟨Grows.refl _, rfl⟩ | (refine ⟨Grows.refl _, ?_⟩; simp [hd]; done) | (refine ⟨Grows.refl _, ?_⟩; simp [hd]; omega) | (refine ⟨Grows.refl _, ?_⟩; simp; omega)) ?_
      refine free_guarded (fun v_ _ => v_ = .slice AP d.pages.length cP) (val_mono _) (fun vs wq hg hd => by
        simp [Region.binds] at hd
        refine ⟨?_, ?_⟩
        · simp [Region.wanted, yieldR]
          (repeat (conv in rho _ _ _ _ (Operand.tmp _) => whnf))
          first | (simp [hd]; done) | (simp [hd]; omega)
        · simp only [Does]
          simp only [execOp, resolve, Option.map_some, Option.map_none, List.map_toArray, List.map_cons, List.map_nil, rho_const, rho_func]
          (repeat (conv in rho _ _ _ _ (Operand.tmp _) => whnf))
          (try simp only [hd])
          have q0 := hg.cell c_D_0
          go_simp
          (repeat (conv in rho _ _ _ _ (Operand.tmp _) => whnf))
          first | exact Grows.refl _ | exact ⟨Grows.refl _, rfl⟩ | (refine ⟨Grows.refl _, ?_⟩; simp [hd]; done) | (refine ⟨Grows.refl _, ?_⟩; simp [hd]; omega) | (refine ⟨Grows.refl _, ?_⟩; simp; omega)) ?_
      refine free_guarded (fun v_ _ => v_ = .int .i64 d.pages.length) (val_mono _) (fun vs wq hg hd => by
        simp [Region.binds] at hd
        refine ⟨?_, ?_⟩
        · simp [Region.wanted, yieldR]
          (repeat (conv in rho _ _ _ _ (Operand.tmp _) => whnf))
          first | (simp [hd]; done) | (simp [hd]; omega)
        · simp only [Does]
          simp only [execOp, resolve, Option.map_some, Option.map_none, List.map_toArray, List.map_cons, List.map_nil, rho_const, rho_func]
          (repeat (conv in rho _ _ _ _ (Operand.tmp _) => whnf))
          (try simp only [hd])
          go_simp
          (repeat (conv in rho _ _ _ _ (Operand.tmp _) => whnf))
          first | exact Grows.refl _ | exact ⟨Grows.refl _, rfl⟩ | (refine ⟨Grows.refl _, ?_⟩; simp [hd]; done) | (refine ⟨Grows.refl _, ?_⟩; simp [hd]; omega) | (refine ⟨Grows.refl _, ?_⟩; simp; omega)) ?_
      refine free_guarded (fun v_ _ => v_ = .bool true) (val_mono _) (fun vs wq hg hd => by
        simp [Region.binds] at hd
        refine ⟨?_, ?_⟩
        · simp [Region.wanted, yieldR]
          (repeat (conv in rho _ _ _ _ (Operand.tmp _) => whnf))
          first | (simp [hd]; done) | (simp [hd]; omega)
        · simp only [Does]
          simp only [execOp, resolve, Option.map_some, Option.map_none, List.map_toArray, List.map_cons, List.map_nil, rho_const, rho_func]
          (repeat (conv in rho _ _ _ _ (Operand.tmp _) => whnf))
          (try simp only [hd])
          go_simp
          (repeat (conv in rho _ _ _ _ (Operand.tmp _) => whnf))
          first | exact Grows.refl _ | exact ⟨Grows.refl _, rfl⟩ | (refine ⟨Grows.refl _, ?_⟩; simp [hd]; done) | (refine ⟨Grows.refl _, ?_⟩; simp [hd]; omega) | (refine ⟨Grows.refl _, ?_⟩; simp; omega)) ?_
      refine free_op (fun v_ _ => v_ = .bool true) rfl (val_mono _) (fun vs wq hg hd => by
        (try simp [Region.binds] at hd); simp only [Does]; simp only [execOp, resolve, Option.map_some, Option.map_none, List.map_toArray, List.map_cons, List.map_nil, rho_const, rho_func]; (repeat (conv in rho _ _ _ _ (Operand.tmp _) => whnf)); (try simp only [hd]); go_simp; (repeat (conv in rho _ _ _ _ (Operand.tmp _) => whnf))
        first | exact Grows.refl _ | exact ⟨Grows.refl _, rfl⟩ | (refine ⟨Grows.refl _, ?_⟩; simp [hd]; done) | (refine ⟨Grows.refl _, ?_⟩; simp [hd]; omega) | (refine ⟨Grows.refl _, ?_⟩; simp; omega)) ?_
      intro vs w' hg hv; have h18 := hv 18 (by omega); simp at h18; simp only [putL, dstAt, List.range, List.range.loop, if_true, List.getElem?_toArray, List.getElem?_cons_zero, List.getElem?_cons_succ, Option.bind_some, Act.put, List.setIfInBounds_toArray, List.set_cons_zero, List.set_cons_succ]
      rw [h18]
      have hgW : Grows wr w' := Grows.of_drew hg
      have I1 := Lib.hid (Row.grows I1.out hgW); have I2 := Lib.hid (Row.grows I2.out hgW); have I3 := Lib.hid (Row.grows I3.out hgW); have I4 := Lib.hid (I4.out.trans hgW)
      have c_D_1 : w'.cell? _ = some _ := hgW.cell c_D_1
      have c_at : w'.cell? _ = some _ := hgW.cell c_at
      clear hv h18 hg hgW c_D_0
      generalize vs 0 = z0, vs 1 = z1, vs 2 = z2, vs 3 = z3, vs 4 = z4, vs 5 = z5, vs 6 = z6, vs 7 = z7, vs 8 = z8, vs 9 = z9, vs 10 = z10, vs 11 = z11, vs 12 = z12, vs 13 = z13, vs 14 = z14, vs 15 = z15, vs 16 = z16, vs 17 = z17, vs 18 = z18 at *
      go_wp2_with (first
        | ((with_reducible refine wpList_store_c ?_ 4 (.tmp 95) (.const (.bool true)) ?_ nu2.heap.size j (.bool true) (boolsA (FlM.wrL d.pages.length d.cache q)) 4 ?_ ?_ ?_ ?_ ?_ ?_ ?_); exact rfl; exact rfl; exact rfl; exact rfl; exact rfl; exact one_off; exact I1.out; exact (by rw [boolsA_size, FlM.wrL_length]; exact hjn); intro au1 hp hg; rw [boolsA_set, ← HS.out] at hp; have R_B_a1 := Lib.hid hp; have R_T_a1 := Lib.hid (I2.out.grown hg (by have zB0 := ZB0.out; have zB1 := ZB1.out; have zB2 := ZB2.out; have zB3 := ZB3.out; have zB4 := ZB4.out; have zB5 := ZB5.out; have zn0 := Zn0.out; have zn1 := Zn1.out; have zn2 := Zn2.out; have zn3 := Zn3.out; intro e; have e := Option.some.inj e; omega)); have R_U_a1 := Lib.hid (I3.out.grown hg (by have zB0 := ZB0.out; have zB1 := ZB1.out; have zB2 := ZB2.out; have zB3 := ZB3.out; have zB4 := ZB4.out; have zB5 := ZB5.out; have zn0 := Zn0.out; have zn1 := Zn1.out; have zn2 := Zn2.out; have zn3 := Zn3.out; intro e; have e := Option.some.inj e; omega)); have G_a1 := Lib.hid (show Grows nu2 _ from (I4.out).grown hg (I4.out).size (by have zB0 := ZB0.out; have zB1 := ZB1.out; have zB2 := ZB2.out; have zB3 := ZB3.out; have zB4 := ZB4.out; have zB5 := ZB5.out; have zn0 := Zn0.out; have zn1 := Zn1.out; have zn2 := Zn2.out; have zn3 := Zn3.out; intro k e; have e := Option.some.inj e; omega)); clear hp hg))
      go_roundw
      case rel => exact ⟨q + 1, by omega, by go_num, R_B_a1.out, R_T_a1.out, R_U_a1.out, G_a1.out⟩
      case measure => simp [intOf]; omega
    · have hlti : ¬ (q : Int) < d.cache.length := by omega
      obtain rfl : q = d.cache.length := by omega
      go_wp2
      clear c_D_0 c_D_1
      rename World => wa
      go_loopw [9] (fun i wr => ∃ q : Nat, q ≤ d.pages.length ∧ i = .int .i64 q ∧ Grows wa wr) (fun i _ => d.pages.length - (intOf i).toNat)
      case atStart => exact ⟨0, Nat.zero_le _, rfl, Grows.refl _⟩
      case round =>
        obtain ⟨q, hq, rfl, j1⟩ := hrel
        have J1 := Lib.hid j1
        clear j1
        have JD := Lib.hid (Row.grows ID.out J1.out)
        have c_D_0 : _ = some _ := (JD.out.cell 0).trans Ds.out.2.1
        have h256 : d.pages.length ≤ 256 := N1.out
        by_cases hlt : q < d.pages.length
        · have hlti : (q : Int) < d.pages.length := by omega
          obtain ⟨gP, oP, rfl, hgP, hxP⟩ := HPf.out (by omega)
          obtain ⟨g1, o1, rfl, hg1, hx1⟩ := HPC.out (by rw [HCl.out]; omega)
          obtain ⟨g2, o2, rfl, hg2, hx2⟩ := HPN.out (by rw [HNl.out]; omega)
          obtain ⟨pq, hpq⟩ : ∃ pq, d.pages[q]? = some pq := ⟨_, List.getElem?_eq_getElem hlt⟩
          have HPQ : Hid (pq.length = 256) := by
            have := HP1.out _ (List.mem_of_getElem? hpq)
            simpa [Hid, pageE] using this
          have hrD := Lib.hid (range_low ((HGB.out.trans I4.out).trans J1.out) hgP (hxP q pq hpq))
          have hrN := Lib.hid (range_low (I4.out.trans J1.out) hg2 (hx2 q pq (by rw [HNp.out]; exact hpq)))
          have c_T_0 : _ = some _ := (Row.grows I2.out J1.out).cell 0
          have c_U_0 : _ = some _ := (Row.grows I3.out J1.out).cell 0
          by_cases hw : (d.cache.any fun x => x.1 == (q : Int)) = true
          · have c_B : wr.cell? ⟨nu2.heap.size, q, none⟩ = some (.bool true) := ((Row.grows I1.out J1.out).cell q).trans (boolsA_get _ q true (by rw [FlM.wrL_get _ _ _ _ hlt, List.take_length, hw]))
            clear hw hpq
            go_wp2
            refine wp_region_free 31 191 (by kernel_rfl) (by kernel_rfl) rfl (by kernel_rfl) ?_; simp only [List.take_succ_cons, List.take_zero, List.drop_succ_cons, List.drop_zero]
            refine free_op (fun v_ _ => v_ = .pointer (some ⟨g6, 0, none⟩)) rfl (val_mono _) (fun vs wq hg hd => by
              (try simp [Region.binds] at hd); simp only [Does]; simp only [execOp, resolve, Option.map_some, Option.map_none, List.map_toArray, List.map_cons, List.map_nil, rho_const, rho_func]; (repeat (conv in rho _ _ _ _ (Operand.tmp _) => whnf)); (try simp only [hd]); go_simp; (repeat (conv in rho _ _ _ _ (Operand.tmp _) => whnf))
              first | exact Grows.refl _ | exact ⟨Grows.refl _, rfl⟩ | (refine ⟨Grows.refl _, ?_⟩; simp [hd]; done) | (refine ⟨Grows.refl _, ?_⟩; simp [hd]; omega) | (refine ⟨Grows.refl _, ?_⟩; simp; omega)) ?_
            refine free_op (fun v_ _ => v_ = .slice (some ⟨g2, o2, none⟩) d.pages.length c2) rfl (val_mono _) (fun vs wq hg hd => by
              have q0 := hg.cell c_U_0
              (try simp [Region.binds] at hd); simp only [Does]; simp only [execOp, resolve, Option.map_some, Option.map_none, List.map_toArray, List.map_cons, List.map_nil, rho_const, rho_func]; (repeat (conv in rho _ _ _ _ (Operand.tmp _) => whnf)); (try simp only [hd]); go_simp; (repeat (conv in rho _ _ _ _ (Operand.tmp _) => whnf))
              first | exact Grows.refl _ | exact ⟨Grows.refl _, rfl⟩ | (refine ⟨Grows.refl _, ?_⟩; simp [hd]; done) | (refine ⟨Grows.refl _, ?_⟩; simp [hd]; omega) | (refine ⟨Grows.refl _, ?_⟩; simp; omega)) ?_
            refine free_op (fun v_ _ => v_ = .int .i64 q) rfl (val_mono _) (fun vs wq hg hd => by
              (try simp [Region.binds] at hd); simp only [Does]; simp only [execOp, resolve, Option.map_some, Option.map_none, List.map_toArray, List.map_cons, List.map_nil, rho_const, rho_func]; (repeat (conv in rho _ _ _ _ (Operand.tmp _) => whnf)); (try simp only [hd]); go_simp; (repeat (conv in rho _ _ _ _ (Operand.tmp _) => whnf))
              first | exact Grows.refl _ | exact ⟨Grows.refl _, rfl⟩ | (refine ⟨Grows.refl _, ?_⟩; simp [hd]; done) | (refine ⟨Grows.refl _, ?_⟩; simp [hd]; omega) | (refine ⟨Grows.refl _, ?_⟩; simp; omega)) ?_
            refine free_op (fun v_ _ => v_ = .pointer (some ⟨g2, o2 + q * 256, none⟩)) rfl (val_mono _) (fun vs wq hg hd => by
              (try simp [Region.binds] at hd); simp only [Does]; simp only [execOp, resolve, Option.map_some, Option.map_none, List.map_toArray, List.map_cons, List.map_nil, rho_const, rho_func]; (repeat (conv in rho _ _ _ _ (Operand.tmp _) => whnf)); (try simp only [hd]); go_simp; (repeat (conv in rho _ _ _ _ (Operand.tmp _) => whnf))
              first | exact Grows.refl _ | exact ⟨Grows.refl _, rfl⟩ | (refine ⟨Grows.refl _, ?_⟩; simp [hd]; done) | (refine ⟨Grows.refl _, ?_⟩; simp [hd]; omega) | (refine ⟨Grows.refl _, ?_⟩; simp; omega)) ?_
            refine free_op (fun v_ _ => v_ = .agg (pgA pq)) rfl (val_mono _) (fun vs wq hg hd => by
              simp [Region.binds] at hd
              exact does_load 40 (.tmp 106) ⟨g2, o2 + q * 256, none⟩ _ rfl (by first | rfl | ((conv => lhs; whnf); simp [hd])) (page_run_load HPQ.out (range_grows hrN.out (Grows.of_drew hg))) ⟨Grows.refl _, rfl⟩) ?_
            refine free_op (fun v_ _ => v_ = .pointer (some ⟨w.heap.size, 0, none⟩)) rfl (val_mono _) (fun vs wq hg hd => by
              (try simp [Region.binds] at hd); simp only [Does]; simp only [execOp, resolve, Option.map_some, Option.map_none, List.map_toArray, List.map_cons, List.map_nil, rho_const, rho_func]; (repeat (conv in rho _ _ _ _ (Operand.tmp _) => whnf)); (try simp only [hd]); go_simp; (repeat (conv in rho _ _ _ _ (Operand.tmp _) => whnf))
              first | exact Grows.refl _ | exact ⟨Grows.refl _, rfl⟩ | (refine ⟨Grows.refl _, ?_⟩; simp [hd]; done) | (refine ⟨Grows.refl _, ?_⟩; simp [hd]; omega) | (refine ⟨Grows.refl _, ?_⟩; simp; omega)) ?_
            refine free_op (fun v_ _ => v_ = .slice (some ⟨gP, oP, none⟩) d.pages.length cP) rfl (val_mono _) (fun vs wq hg hd => by
              have q0 := hg.cell c_D_0
              (try simp [Region.binds] at hd); simp only [Does]; simp only [execOp, resolve, Option.map_some, Option.map_none, List.map_toArray, List.map_cons, List.map_nil, rho_const, rho_func]; (repeat (conv in rho _ _ _ _ (Operand.tmp _) => whnf)); (try simp only [hd]); go_simp; (repeat (conv in rho _ _ _ _ (Operand.tmp _) => whnf))
              first | exact Grows.refl _ | exact ⟨Grows.refl _, rfl⟩ | (refine ⟨Grows.refl _, ?_⟩; simp [hd]; done) | (refine ⟨Grows.refl _, ?_⟩; simp [hd]; omega) | (refine ⟨Grows.refl _, ?_⟩; simp; omega)) ?_
            refine free_op (fun v_ _ => v_ = .int .i64 q) rfl (val_mono _) (fun vs wq hg hd => by
              (try simp [Region.binds] at hd); simp only [Does]; simp only [execOp, resolve, Option.map_some, Option.map_none, List.map_toArray, List.map_cons, List.map_nil, rho_const, rho_func]; (repeat (conv in rho _ _ _ _ (Operand.tmp _) => whnf)); (try simp only [hd]); go_simp; (repeat (conv in rho _ _ _ _ (Operand.tmp _) => whnf))
              first | exact Grows.refl _ | exact ⟨Grows.refl _, rfl⟩ | (refine ⟨Grows.refl _, ?_⟩; simp [hd]; done) | (refine ⟨Grows.refl _, ?_⟩; simp [hd]; omega) | (refine ⟨Grows.refl _, ?_⟩; simp; omega)) ?_
            refine free_op (fun v_ _ => v_ = .pointer (some ⟨gP, oP + q * 256, none⟩)) rfl (val_mono _) (fun vs wq hg hd => by
              (try simp [Region.binds] at hd); simp only [Does]; simp only [execOp, resolve, Option.map_some, Option.map_none, List.map_toArray, List.map_cons, List.map_nil, rho_const, rho_func]; (repeat (conv in rho _ _ _ _ (Operand.tmp _) => whnf)); (try simp only [hd]); go_simp; (repeat (conv in rho _ _ _ _ (Operand.tmp _) => whnf))
              first | exact Grows.refl _ | exact ⟨Grows.refl _, rfl⟩ | (refine ⟨Grows.refl _, ?_⟩; simp [hd]; done) | (refine ⟨Grows.refl _, ?_⟩; simp [hd]; omega) | (refine ⟨Grows.refl _, ?_⟩; simp; omega)) ?_
            refine free_op (fun v_ _ => v_ = .agg (pgA pq)) rfl (val_mono _) (fun vs wq hg hd => by
              simp [Region.binds] at hd
              exact does_load 40 (.tmp 111) ⟨gP, oP + q * 256, none⟩ _ rfl (by first | rfl | ((conv => lhs; whnf); simp [hd])) (page_run_load HPQ.out (range_grows hrD.out (Grows.of_drew hg))) ⟨Grows.refl _, rfl⟩) ?_
            refine free_op (fun v_ _ => v_ = .bool false) rfl (val_mono _) (fun vs wq hg hd => by
              have heq := page_eq_run pq pq HPQ.out HPQ.out wq
              (try simp [Region.binds] at hd); simp only [Does]; simp only [execOp, resolve, Option.map_some, Option.map_none, List.map_toArray, List.map_cons, List.map_nil, rho_const, rho_func]; (repeat (conv in rho _ _ _ _ (Operand.tmp _) => whnf)); (try simp only [hd]); go_simp; (repeat (conv in rho _ _ _ _ (Operand.tmp _) => whnf))
              first | exact Grows.refl _ | exact ⟨Grows.refl _, rfl⟩ | (refine ⟨Grows.refl _, ?_⟩; simp [hd]; done) | (refine ⟨Grows.refl _, ?_⟩; simp [hd]; omega) | (refine ⟨Grows.refl _, ?_⟩; simp; omega)) ?_
            refine free_op (fun v_ _ => v_ = .bool false) rfl (val_mono _) (fun vs wq hg hd => by
              (try simp [Region.binds] at hd); simp only [Does]; simp only [execOp, resolve, Option.map_some, Option.map_none, List.map_toArray, List.map_cons, List.map_nil, rho_const, rho_func]; (repeat (conv in rho _ _ _ _ (Operand.tmp _) => whnf)); (try simp only [hd]); go_simp; (repeat (conv in rho _ _ _ _ (Operand.tmp _) => whnf))
              first | exact Grows.refl _ | exact ⟨Grows.refl _, rfl⟩ | (refine ⟨Grows.refl _, ?_⟩; simp [hd]; done) | (refine ⟨Grows.refl _, ?_⟩; simp [hd]; omega) | (refine ⟨Grows.refl _, ?_⟩; simp; omega)) ?_
            refine free_guarded (fun v_ _ => v_ = .slice (some ⟨nu2.heap.size, 0, none⟩) d.pages.length d.pages.length) (val_mono _) (fun vs wq hg hd => by
              simp [Region.binds] at hd
              refine ⟨?_, ?_⟩
              · simp [Region.wanted, yieldR]
                (repeat (conv in rho _ _ _ _ (Operand.tmp _) => whnf))
                first | (simp [hd]; done) | (simp [hd]; omega)
              · simp only [Does]
                simp only [execOp, resolve, Option.map_some, Option.map_none, List.map_toArray, List.map_cons, List.map_nil, rho_const, rho_func]
                (repeat (conv in rho _ _ _ _ (Operand.tmp _) => whnf))
                (try simp only [hd])
                go_simp
                (repeat (conv in rho _ _ _ _ (Operand.tmp _) => whnf))
                first | exact Grows.refl _ | exact ⟨Grows.refl _, rfl⟩ | (refine ⟨Grows.refl _, ?_⟩; simp [hd]; done) | (refine ⟨Grows.refl _, ?_⟩; simp [hd]; omega) | (refine ⟨Grows.refl _, ?_⟩; simp; omega)) ?_
            refine free_guarded (fun v_ _ => v_ = .int .i64 q) (val_mono _) (fun vs wq hg hd => by
              simp [Region.binds] at hd
              refine ⟨?_, ?_⟩
              · simp [Region.wanted, yieldR]
                (repeat (conv in rho _ _ _ _ (Operand.tmp _) => whnf))
                first | (simp [hd]; done) | (simp [hd]; omega)
              · simp only [Does]
                simp only [execOp, resolve, Option.map_some, Option.map_none, List.map_toArray, List.map_cons, List.map_nil, rho_const, rho_func]
                (repeat (conv in rho _ _ _ _ (Operand.tmp _) => whnf))
                (try simp only [hd])
                go_simp
                (repeat (conv in rho _ _ _ _ (Operand.tmp _) => whnf))
                first | exact Grows.refl _ | exact ⟨Grows.refl _, rfl⟩ | (refine ⟨Grows.refl _, ?_⟩; simp [hd]; done) | (refine ⟨Grows.refl _, ?_⟩; simp [hd]; omega) | (refine ⟨Grows.refl _, ?_⟩; simp; omega)) ?_
            refine free_guarded (fun v_ _ => v_ = .pointer (some ⟨nu2.heap.size, q, none⟩)) (val_mono _) (fun vs wq hg hd => by
              simp [Region.binds] at hd
              refine ⟨?_, ?_⟩
              · simp [Region.wanted, yieldR]
                (repeat (conv in rho _ _ _ _ (Operand.tmp _) => whnf))
                first | (simp [hd]; done) | (simp [hd]; omega)
              · simp only [Does]
                simp only [execOp, resolve, Option.map_some, Option.map_none, List.map_toArray, List.map_cons, List.map_nil, rho_const, rho_func]
                (repeat (conv in rho _ _ _ _ (Operand.tmp _) => whnf))
                (try simp only [hd])
                go_simp
                (repeat (conv in rho _ _ _ _ (Operand.tmp _) => whnf))
                first | exact Grows.refl _ | exact ⟨Grows.refl _, rfl⟩ | (refine ⟨Grows.refl _, ?_⟩; simp [hd]; done) | (refine ⟨Grows.refl _, ?_⟩; simp [hd]; omega) | (refine ⟨Grows.refl _, ?_⟩; simp; omega)) ?_
            refine free_guarded (fun v_ _ => v_ = .bool true) (val_mono _) (fun vs wq hg hd => by
              simp [Region.binds] at hd
              refine ⟨?_, ?_⟩
              · simp [Region.wanted, yieldR]
                (repeat (conv in rho _ _ _ _ (Operand.tmp _) => whnf))
                first | (simp [hd]; done) | (simp [hd]; omega)
              · simp only [Does]
                simp only [execOp, resolve, Option.map_some, Option.map_none, List.map_toArray, List.map_cons, List.map_nil, rho_const, rho_func]
                (repeat (conv in rho _ _ _ _ (Operand.tmp _) => whnf))
                (try simp only [hd])
                have q0 := hg.cell c_B
                go_simp
                (repeat (conv in rho _ _ _ _ (Operand.tmp _) => whnf))
                first | exact Grows.refl _ | exact ⟨Grows.refl _, rfl⟩ | (refine ⟨Grows.refl _, ?_⟩; simp [hd]; done) | (refine ⟨Grows.refl _, ?_⟩; simp [hd]; omega) | (refine ⟨Grows.refl _, ?_⟩; simp; omega)) ?_
            refine free_guarded (fun v_ _ => v_ = .bool false) (val_mono _) (fun vs wq hg hd => by
              simp [Region.binds] at hd
              refine ⟨?_, ?_⟩
              · simp [Region.wanted, yieldR]
                (repeat (conv in rho _ _ _ _ (Operand.tmp _) => whnf))
                first | (simp [hd]; done) | (simp [hd]; omega)
              · simp only [Does]
                simp only [execOp, resolve, Option.map_some, Option.map_none, List.map_toArray, List.map_cons, List.map_nil, rho_const, rho_func]
                (repeat (conv in rho _ _ _ _ (Operand.tmp _) => whnf))
                (try simp only [hd])
                go_simp
                (repeat (conv in rho _ _ _ _ (Operand.tmp _) => whnf))
                first | exact Grows.refl _ | exact ⟨Grows.refl _, rfl⟩ | (refine ⟨Grows.refl _, ?_⟩; simp [hd]; done) | (refine ⟨Grows.refl _, ?_⟩; simp [hd]; omega) | (refine ⟨Grows.refl _, ?_⟩; simp; omega)) ?_
            refine free_guarded (fun v_ _ => v_ = .bool false) (val_mono _) (fun vs wq hg hd => by
              simp [Region.binds] at hd
              refine ⟨?_, ?_⟩
              · simp [Region.wanted, yieldR]
                (repeat (conv in rho _ _ _ _ (Operand.tmp _) => whnf))
                first | (simp [hd]; done) | (simp [hd]; omega)
              · simp only [Does]
                simp only [execOp, resolve, Option.map_some, Option.map_none, List.map_toArray, List.map_cons, List.map_nil, rho_const, rho_func]
                (repeat (conv in rho _ _ _ _ (Operand.tmp _) => whnf))
                (try simp only [hd])
                go_simp
                (repeat (conv in rho _ _ _ _ (Operand.tmp _) => whnf))
                first | exact Grows.refl _ | exact ⟨Grows.refl _, rfl⟩ | (refine ⟨Grows.refl _, ?_⟩; simp [hd]; done) | (refine ⟨Grows.refl _, ?_⟩; simp [hd]; omega) | (refine ⟨Grows.refl _, ?_⟩; simp; omega)) ?_
            refine free_passed (fun vs wq hg hd => by
              simp [Region.binds] at hd
              simp [Region.wanted, yieldR]
              (repeat (conv in rho _ _ _ _ (Operand.tmp _) => whnf))
              first | (simp [hd]; done) | (simp [hd]; omega)) ?_
            refine free_passed (fun vs wq hg hd => by
              simp [Region.binds] at hd
              simp [Region.wanted, yieldR]
              (repeat (conv in rho _ _ _ _ (Operand.tmp _) => whnf))
              first | (simp [hd]; done) | (simp [hd]; omega)) ?_
            refine free_passed (fun vs wq hg hd => by
              simp [Region.binds] at hd
              simp [Region.wanted, yieldR]
              (repeat (conv in rho _ _ _ _ (Operand.tmp _) => whnf))
              first | (simp [hd]; done) | (simp [hd]; omega)) ?_
            refine free_passed (fun vs wq hg hd => by
              simp [Region.binds] at hd
              simp [Region.wanted, yieldR]
              (repeat (conv in rho _ _ _ _ (Operand.tmp _) => whnf))
              first | (simp [hd]; done) | (simp [hd]; omega)) ?_
            refine free_passed (fun vs wq hg hd => by
              simp [Region.binds] at hd
              simp [Region.wanted, yieldR]
              (repeat (conv in rho _ _ _ _ (Operand.tmp _) => whnf))
              first | (simp [hd]; done) | (simp [hd]; omega)) ?_
            refine free_passed (fun vs wq hg hd => by
              simp [Region.binds] at hd
              simp [Region.wanted, yieldR]
              (repeat (conv in rho _ _ _ _ (Operand.tmp _) => whnf))
              first | (simp [hd]; done) | (simp [hd]; omega)) ?_
            refine free_passed (fun vs wq hg hd => by
              simp [Region.binds] at hd
              simp [Region.wanted, yieldR]
              (repeat (conv in rho _ _ _ _ (Operand.tmp _) => whnf))
              first | (simp [hd]; done) | (simp [hd]; omega)) ?_
            refine free_passed (fun vs wq hg hd => by
              simp [Region.binds] at hd
              simp [Region.wanted, yieldR]
              (repeat (conv in rho _ _ _ _ (Operand.tmp _) => whnf))
              first | (simp [hd]; done) | (simp [hd]; omega)) ?_
            refine free_passed (fun vs wq hg hd => by
              simp [Region.binds] at hd
              simp [Region.wanted, yieldR]
              (repeat (conv in rho _ _ _ _ (Operand.tmp _) => whnf))
              first | (simp [hd]; done) | (simp [hd]; omega)) ?_
            refine free_passed (fun vs wq hg hd => by
              simp [Region.binds] at hd
              simp [Region.wanted, yieldR]
              (repeat (conv in rho _ _ _ _ (Operand.tmp _) => whnf))
              first | (simp [hd]; done) | (simp [hd]; omega)) ?_
            refine free_passed (fun vs wq hg hd => by
              simp [Region.binds] at hd
              simp [Region.wanted, yieldR]
              (repeat (conv in rho _ _ _ _ (Operand.tmp _) => whnf))
              first | (simp [hd]; done) | (simp [hd]; omega)) ?_
            refine free_guarded (fun v_ _ => v_ = .bool false) (val_mono _) (fun vs wq hg hd => by
              simp [Region.binds] at hd
              refine ⟨?_, ?_⟩
              · simp [Region.wanted, yieldR]
                (repeat (conv in rho _ _ _ _ (Operand.tmp _) => whnf))
                first | (simp [hd]; done) | (simp [hd]; omega)
              · simp only [Does]
                simp only [execOp, resolve, Option.map_some, Option.map_none, List.map_toArray, List.map_cons, List.map_nil, rho_const, rho_func]
                (repeat (conv in rho _ _ _ _ (Operand.tmp _) => whnf))
                (try simp only [hd])
                go_simp
                (repeat (conv in rho _ _ _ _ (Operand.tmp _) => whnf))
                first | exact Grows.refl _ | exact ⟨Grows.refl _, rfl⟩ | (refine ⟨Grows.refl _, ?_⟩; simp [hd]; done) | (refine ⟨Grows.refl _, ?_⟩; simp [hd]; omega) | (refine ⟨Grows.refl _, ?_⟩; simp; omega)) ?_
            refine free_op (fun v_ _ => v_ = .bool false) rfl (val_mono _) (fun vs wq hg hd => by
              (try simp [Region.binds] at hd); simp only [Does]; simp only [execOp, resolve, Option.map_some, Option.map_none, List.map_toArray, List.map_cons, List.map_nil, rho_const, rho_func]; (repeat (conv in rho _ _ _ _ (Operand.tmp _) => whnf)); (try simp only [hd]); go_simp; (repeat (conv in rho _ _ _ _ (Operand.tmp _) => whnf))
              first | exact Grows.refl _ | exact ⟨Grows.refl _, rfl⟩ | (refine ⟨Grows.refl _, ?_⟩; simp [hd]; done) | (refine ⟨Grows.refl _, ?_⟩; simp [hd]; omega) | (refine ⟨Grows.refl _, ?_⟩; simp; omega)) ?_
            intro vs w' hg hv; have h30 := hv 30 (by omega); simp at h30; simp only [putL, dstAt, List.range, List.range.loop, if_true, List.getElem?_toArray, List.getElem?_cons_zero, List.getElem?_cons_succ, Option.bind_some, Act.put, List.setIfInBounds_toArray, List.set_cons_zero, List.set_cons_succ]
            rw [h30]
            have HGN := Lib.hid (show Grows wr w' from Grows.of_drew hg)
            clear hv h30 hg c_D_0 c_T_0 c_U_0 c_B
            generalize vs 0 = z0, vs 1 = z1, vs 2 = z2, vs 3 = z3, vs 4 = z4, vs 5 = z5, vs 6 = z6, vs 7 = z7, vs 8 = z8, vs 9 = z9, vs 10 = z10, vs 11 = z11, vs 12 = z12, vs 13 = z13, vs 14 = z14, vs 15 = z15, vs 16 = z16, vs 17 = z17, vs 18 = z18, vs 19 = z19, vs 20 = z20, vs 21 = z21, vs 22 = z22, vs 23 = z23, vs 24 = z24, vs 25 = z25, vs 26 = z26, vs 27 = z27, vs 28 = z28, vs 29 = z29, vs 30 = z30 at *
            go_wp2
            go_roundw
            case rel => exact ⟨q + 1, by omega, by go_num, J1.out.trans HGN.out⟩
            case measure => simp [intOf]; omega
          · have hw' := Bool.eq_false_iff.2 hw
            have c_B : wr.cell? ⟨nu2.heap.size, q, none⟩ = some (.bool false) := ((Row.grows I1.out J1.out).cell q).trans (boolsA_get _ q false (by rw [FlM.wrL_get _ _ _ _ hlt, List.take_length, hw']))
            have hrC := Lib.hid (range_low (I4.out.trans J1.out) hg1 (hx1 q pq ((HCk.out q hw').trans hpq)))
            clear hw hw' hpq
            go_wp2
            refine wp_region_free 31 191 (by kernel_rfl) (by kernel_rfl) rfl (by kernel_rfl) ?_; simp only [List.take_succ_cons, List.take_zero, List.drop_succ_cons, List.drop_zero]
            refine free_op (fun v_ _ => v_ = .pointer (some ⟨g6, 0, none⟩)) rfl (val_mono _) (fun vs wq hg hd => by
              (try simp [Region.binds] at hd); simp only [Does]; simp only [execOp, resolve, Option.map_some, Option.map_none, List.map_toArray, List.map_cons, List.map_nil, rho_const, rho_func]; (repeat (conv in rho _ _ _ _ (Operand.tmp _) => whnf)); (try simp only [hd]); go_simp; (repeat (conv in rho _ _ _ _ (Operand.tmp _) => whnf))
              first | exact Grows.refl _ | exact ⟨Grows.refl _, rfl⟩ | (refine ⟨Grows.refl _, ?_⟩; simp [hd]; done) | (refine ⟨Grows.refl _, ?_⟩; simp [hd]; omega) | (refine ⟨Grows.refl _, ?_⟩; simp; omega)) ?_
            refine free_op (fun v_ _ => v_ = .slice (some ⟨g2, o2, none⟩) d.pages.length c2) rfl (val_mono _) (fun vs wq hg hd => by
              have q0 := hg.cell c_U_0
              (try simp [Region.binds] at hd); simp only [Does]; simp only [execOp, resolve, Option.map_some, Option.map_none, List.map_toArray, List.map_cons, List.map_nil, rho_const, rho_func]; (repeat (conv in rho _ _ _ _ (Operand.tmp _) => whnf)); (try simp only [hd]); go_simp; (repeat (conv in rho _ _ _ _ (Operand.tmp _) => whnf))
              first | exact Grows.refl _ | exact ⟨Grows.refl _, rfl⟩ | (refine ⟨Grows.refl _, ?_⟩; simp [hd]; done) | (refine ⟨Grows.refl _, ?_⟩; simp [hd]; omega) | (refine ⟨Grows.refl _, ?_⟩; simp; omega)) ?_
            refine free_op (fun v_ _ => v_ = .int .i64 q) rfl (val_mono _) (fun vs wq hg hd => by
              (try simp [Region.binds] at hd); simp only [Does]; simp only [execOp, resolve, Option.map_some, Option.map_none, List.map_toArray, List.map_cons, List.map_nil, rho_const, rho_func]; (repeat (conv in rho _ _ _ _ (Operand.tmp _) => whnf)); (try simp only [hd]); go_simp; (repeat (conv in rho _ _ _ _ (Operand.tmp _) => whnf))
              first | exact Grows.refl _ | exact ⟨Grows.refl _, rfl⟩ | (refine ⟨Grows.refl _, ?_⟩; simp [hd]; done) | (refine ⟨Grows.refl _, ?_⟩; simp [hd]; omega) | (refine ⟨Grows.refl _, ?_⟩; simp; omega)) ?_
            refine free_op (fun v_ _ => v_ = .pointer (some ⟨g2, o2 + q * 256, none⟩)) rfl (val_mono _) (fun vs wq hg hd => by
              (try simp [Region.binds] at hd); simp only [Does]; simp only [execOp, resolve, Option.map_some, Option.map_none, List.map_toArray, List.map_cons, List.map_nil, rho_const, rho_func]; (repeat (conv in rho _ _ _ _ (Operand.tmp _) => whnf)); (try simp only [hd]); go_simp; (repeat (conv in rho _ _ _ _ (Operand.tmp _) => whnf))
              first | exact Grows.refl _ | exact ⟨Grows.refl _, rfl⟩ | (refine ⟨Grows.refl _, ?_⟩; simp [hd]; done) | (refine ⟨Grows.refl _, ?_⟩; simp [hd]; omega) | (refine ⟨Grows.refl _, ?_⟩; simp; omega)) ?_
            refine free_op (fun v_ _ => v_ = .agg (pgA pq)) rfl (val_mono _) (fun vs wq hg hd => by
              simp [Region.binds] at hd
              exact does_load 40 (.tmp 106) ⟨g2, o2 + q * 256, none⟩ _ rfl (by first | rfl | ((conv => lhs; whnf); simp [hd])) (page_run_load HPQ.out (range_grows hrN.out (Grows.of_drew hg))) ⟨Grows.refl _, rfl⟩) ?_
            refine free_op (fun v_ _ => v_ = .pointer (some ⟨w.heap.size, 0, none⟩)) rfl (val_mono _) (fun vs wq hg hd => by
              (try simp [Region.binds] at hd); simp only [Does]; simp only [execOp, resolve, Option.map_some, Option.map_none, List.map_toArray, List.map_cons, List.map_nil, rho_const, rho_func]; (repeat (conv in rho _ _ _ _ (Operand.tmp _) => whnf)); (try simp only [hd]); go_simp; (repeat (conv in rho _ _ _ _ (Operand.tmp _) => whnf))
              first | exact Grows.refl _ | exact ⟨Grows.refl _, rfl⟩ | (refine ⟨Grows.refl _, ?_⟩; simp [hd]; done) | (refine ⟨Grows.refl _, ?_⟩; simp [hd]; omega) | (refine ⟨Grows.refl _, ?_⟩; simp; omega)) ?_
            refine free_op (fun v_ _ => v_ = .slice (some ⟨gP, oP, none⟩) d.pages.length cP) rfl (val_mono _) (fun vs wq hg hd => by
              have q0 := hg.cell c_D_0
              (try simp [Region.binds] at hd); simp only [Does]; simp only [execOp, resolve, Option.map_some, Option.map_none, List.map_toArray, List.map_cons, List.map_nil, rho_const, rho_func]; (repeat (conv in rho _ _ _ _ (Operand.tmp _) => whnf)); (try simp only [hd]); go_simp; (repeat (conv in rho _ _ _ _ (Operand.tmp _) => whnf))
              first | exact Grows.refl _ | exact ⟨Grows.refl _, rfl⟩ | (refine ⟨Grows.refl _, ?_⟩; simp [hd]; done) | (refine ⟨Grows.refl _, ?_⟩; simp [hd]; omega) | (refine ⟨Grows.refl _, ?_⟩; simp; omega)) ?_
            refine free_op (fun v_ _ => v_ = .int .i64 q) rfl (val_mono _) (fun vs wq hg hd => by
              (try simp [Region.binds] at hd); simp only [Does]; simp only [execOp, resolve, Option.map_some, Option.map_none, List.map_toArray, List.map_cons, List.map_nil, rho_const, rho_func]; (repeat (conv in rho _ _ _ _ (Operand.tmp _) => whnf)); (try simp only [hd]); go_simp; (repeat (conv in rho _ _ _ _ (Operand.tmp _) => whnf))
              first | exact Grows.refl _ | exact ⟨Grows.refl _, rfl⟩ | (refine ⟨Grows.refl _, ?_⟩; simp [hd]; done) | (refine ⟨Grows.refl _, ?_⟩; simp [hd]; omega) | (refine ⟨Grows.refl _, ?_⟩; simp; omega)) ?_
            refine free_op (fun v_ _ => v_ = .pointer (some ⟨gP, oP + q * 256, none⟩)) rfl (val_mono _) (fun vs wq hg hd => by
              (try simp [Region.binds] at hd); simp only [Does]; simp only [execOp, resolve, Option.map_some, Option.map_none, List.map_toArray, List.map_cons, List.map_nil, rho_const, rho_func]; (repeat (conv in rho _ _ _ _ (Operand.tmp _) => whnf)); (try simp only [hd]); go_simp; (repeat (conv in rho _ _ _ _ (Operand.tmp _) => whnf))
              first | exact Grows.refl _ | exact ⟨Grows.refl _, rfl⟩ | (refine ⟨Grows.refl _, ?_⟩; simp [hd]; done) | (refine ⟨Grows.refl _, ?_⟩; simp [hd]; omega) | (refine ⟨Grows.refl _, ?_⟩; simp; omega)) ?_
            refine free_op (fun v_ _ => v_ = .agg (pgA pq)) rfl (val_mono _) (fun vs wq hg hd => by
              simp [Region.binds] at hd
              exact does_load 40 (.tmp 111) ⟨gP, oP + q * 256, none⟩ _ rfl (by first | rfl | ((conv => lhs; whnf); simp [hd])) (page_run_load HPQ.out (range_grows hrD.out (Grows.of_drew hg))) ⟨Grows.refl _, rfl⟩) ?_
            refine free_op (fun v_ _ => v_ = .bool false) rfl (val_mono _) (fun vs wq hg hd => by
              have heq := page_eq_run pq pq HPQ.out HPQ.out wq
              (try simp [Region.binds] at hd); simp only [Does]; simp only [execOp, resolve, Option.map_some, Option.map_none, List.map_toArray, List.map_cons, List.map_nil, rho_const, rho_func]; (repeat (conv in rho _ _ _ _ (Operand.tmp _) => whnf)); (try simp only [hd]); go_simp; (repeat (conv in rho _ _ _ _ (Operand.tmp _) => whnf))
              first | exact Grows.refl _ | exact ⟨Grows.refl _, rfl⟩ | (refine ⟨Grows.refl _, ?_⟩; simp [hd]; done) | (refine ⟨Grows.refl _, ?_⟩; simp [hd]; omega) | (refine ⟨Grows.refl _, ?_⟩; simp; omega)) ?_
            refine free_op (fun v_ _ => v_ = .bool false) rfl (val_mono _) (fun vs wq hg hd => by
              (try simp [Region.binds] at hd); simp only [Does]; simp only [execOp, resolve, Option.map_some, Option.map_none, List.map_toArray, List.map_cons, List.map_nil, rho_const, rho_func]; (repeat (conv in rho _ _ _ _ (Operand.tmp _) => whnf)); (try simp only [hd]); go_simp; (repeat (conv in rho _ _ _ _ (Operand.tmp _) => whnf))
              first | exact Grows.refl _ | exact ⟨Grows.refl _, rfl⟩ | (refine ⟨Grows.refl _, ?_⟩; simp [hd]; done) | (refine ⟨Grows.refl _, ?_⟩; simp [hd]; omega) | (refine ⟨Grows.refl _, ?_⟩; simp; omega)) ?_
            refine free_guarded (fun v_ _ => v_ = .slice (some ⟨nu2.heap.size, 0, none⟩) d.pages.length d.pages.length) (val_mono _) (fun vs wq hg hd => by
              simp [Region.binds] at hd
              refine ⟨?_, ?_⟩
              · simp [Region.wanted, yieldR]
                (repeat (conv in rho _ _ _ _ (Operand.tmp _) => whnf))
                first | (simp [hd]; done) | (simp [hd]; omega)
              · simp only [Does]
                simp only [execOp, resolve, Option.map_some, Option.map_none, List.map_toArray, List.map_cons, List.map_nil, rho_const, rho_func]
                (repeat (conv in rho _ _ _ _ (Operand.tmp _) => whnf))
                (try simp only [hd])
                go_simp
                (repeat (conv in rho _ _ _ _ (Operand.tmp _) => whnf))
                first | exact Grows.refl _ | exact ⟨Grows.refl _, rfl⟩ | (refine ⟨Grows.refl _, ?_⟩; simp [hd]; done) | (refine ⟨Grows.refl _, ?_⟩; simp [hd]; omega) | (refine ⟨Grows.refl _, ?_⟩; simp; omega)) ?_
            refine free_guarded (fun v_ _ => v_ = .int .i64 q) (val_mono _) (fun vs wq hg hd => by
              simp [Region.binds] at hd
              refine ⟨?_, ?_⟩
              · simp [Region.wanted, yieldR]
                (repeat (conv in rho _ _ _ _ (Operand.tmp _) => whnf))
                first | (simp [hd]; done) | (simp [hd]; omega)
              · simp only [Does]
                simp only [execOp, resolve, Option.map_some, Option.map_none, List.map_toArray, List.map_cons, List.map_nil, rho_const, rho_func]
                (repeat (conv in rho _ _ _ _ (Operand.tmp _) => whnf))
                (try simp only [hd])
                go_simp
                (repeat (conv in rho _ _ _ _ (Operand.tmp _) => whnf))
                first | exact Grows.refl _ | exact ⟨Grows.refl _, rfl⟩ | (refine ⟨Grows.refl _, ?_⟩; simp [hd]; done) | (refine ⟨Grows.refl _, ?_⟩; simp [hd]; omega) | (refine ⟨Grows.refl _, ?_⟩; simp; omega)) ?_
            refine free_guarded (fun v_ _ => v_ = .pointer (some ⟨nu2.heap.size, q, none⟩)) (val_mono _) (fun vs wq hg hd => by
              simp [Region.binds] at hd
              refine ⟨?_, ?_⟩
              · simp [Region.wanted, yieldR]
                (repeat (conv in rho _ _ _ _ (Operand.tmp _) => whnf))
                first | (simp [hd]; done) | (simp [hd]; omega)
              · simp only [Does]
                simp only [execOp, resolve, Option.map_some, Option.map_none, List.map_toArray, List.map_cons, List.map_nil, rho_const, rho_func]
                (repeat (conv in rho _ _ _ _ (Operand.tmp _) => whnf))
                (try simp only [hd])
                go_simp
                (repeat (conv in rho _ _ _ _ (Operand.tmp _) => whnf))
                first | exact Grows.refl _ | exact ⟨Grows.refl _, rfl⟩ | (refine ⟨Grows.refl _, ?_⟩; simp [hd]; done) | (refine ⟨Grows.refl _, ?_⟩; simp [hd]; omega) | (refine ⟨Grows.refl _, ?_⟩; simp; omega)) ?_
            refine free_guarded (fun v_ _ => v_ = .bool false) (val_mono _) (fun vs wq hg hd => by
              simp [Region.binds] at hd
              refine ⟨?_, ?_⟩
              · simp [Region.wanted, yieldR]
                (repeat (conv in rho _ _ _ _ (Operand.tmp _) => whnf))
                first | (simp [hd]; done) | (simp [hd]; omega)
              · simp only [Does]
                simp only [execOp, resolve, Option.map_some, Option.map_none, List.map_toArray, List.map_cons, List.map_nil, rho_const, rho_func]
                (repeat (conv in rho _ _ _ _ (Operand.tmp _) => whnf))
                (try simp only [hd])
                have q0 := hg.cell c_B
                go_simp
                (repeat (conv in rho _ _ _ _ (Operand.tmp _) => whnf))
                first | exact Grows.refl _ | exact ⟨Grows.refl _, rfl⟩ | (refine ⟨Grows.refl _, ?_⟩; simp [hd]; done) | (refine ⟨Grows.refl _, ?_⟩; simp [hd]; omega) | (refine ⟨Grows.refl _, ?_⟩; simp; omega)) ?_
            refine free_guarded (fun v_ _ => v_ = .bool true) (val_mono _) (fun vs wq hg hd => by
              simp [Region.binds] at hd
              refine ⟨?_, ?_⟩
              · simp [Region.wanted, yieldR]
                (repeat (conv in rho _ _ _ _ (Operand.tmp _) => whnf))
                first | (simp [hd]; done) | (simp [hd]; omega)
              · simp only [Does]
                simp only [execOp, resolve, Option.map_some, Option.map_none, List.map_toArray, List.map_cons, List.map_nil, rho_const, rho_func]
                (repeat (conv in rho _ _ _ _ (Operand.tmp _) => whnf))
                (try simp only [hd])
                go_simp
                (repeat (conv in rho _ _ _ _ (Operand.tmp _) => whnf))
                first | exact Grows.refl _ | exact ⟨Grows.refl _, rfl⟩ | (refine ⟨Grows.refl _, ?_⟩; simp [hd]; done) | (refine ⟨Grows.refl _, ?_⟩; simp [hd]; omega) | (refine ⟨Grows.refl _, ?_⟩; simp; omega)) ?_
            refine free_guarded (fun v_ _ => v_ = .bool true) (val_mono _) (fun vs wq hg hd => by
              simp [Region.binds] at hd
              refine ⟨?_, ?_⟩
              · simp [Region.wanted, yieldR]
                (repeat (conv in rho _ _ _ _ (Operand.tmp _) => whnf))
                first | (simp [hd]; done) | (simp [hd]; omega)
              · simp only [Does]
                simp only [execOp, resolve, Option.map_some, Option.map_none, List.map_toArray, List.map_cons, List.map_nil, rho_const, rho_func]
                (repeat (conv in rho _ _ _ _ (Operand.tmp _) => whnf))
                (try simp only [hd])
                go_simp
                (repeat (conv in rho _ _ _ _ (Operand.tmp _) => whnf))
                first | exact Grows.refl _ | exact ⟨Grows.refl _, rfl⟩ | (refine ⟨Grows.refl _, ?_⟩; simp [hd]; done) | (refine ⟨Grows.refl _, ?_⟩; simp [hd]; omega) | (refine ⟨Grows.refl _, ?_⟩; simp; omega)) ?_
            refine free_guarded (fun v_ _ => v_ = .pointer (some ⟨g5, 0, none⟩)) (val_mono _) (fun vs wq hg hd => by
              simp [Region.binds] at hd
              refine ⟨?_, ?_⟩
              · simp [Region.wanted, yieldR]
                (repeat (conv in rho _ _ _ _ (Operand.tmp _) => whnf))
                first | (simp [hd]; done) | (simp [hd]; omega)
              · simp only [Does]
                simp only [execOp, resolve, Option.map_some, Option.map_none, List.map_toArray, List.map_cons, List.map_nil, rho_const, rho_func]
                (repeat (conv in rho _ _ _ _ (Operand.tmp _) => whnf))
                (try simp only [hd])
                go_simp
                (repeat (conv in rho _ _ _ _ (Operand.tmp _) => whnf))
                first | exact Grows.refl _ | exact ⟨Grows.refl _, rfl⟩ | (refine ⟨Grows.refl _, ?_⟩; simp [hd]; done) | (refine ⟨Grows.refl _, ?_⟩; simp [hd]; omega) | (refine ⟨Grows.refl _, ?_⟩; simp; omega)) ?_
            refine free_guarded (fun v_ _ => v_ = .slice (some ⟨g1, o1, none⟩) d.pages.length c1) (val_mono _) (fun vs wq hg hd => by
              simp [Region.binds] at hd
              refine ⟨?_, ?_⟩
              · simp [Region.wanted, yieldR]
                (repeat (conv in rho _ _ _ _ (Operand.tmp _) => whnf))
                first | (simp [hd]; done) | (simp [hd]; omega)
              · simp only [Does]
                simp only [execOp, resolve, Option.map_some, Option.map_none, List.map_toArray, List.map_cons, List.map_nil, rho_const, rho_func]
                (repeat (conv in rho _ _ _ _ (Operand.tmp _) => whnf))
                (try simp only [hd])
                have q0 := hg.cell c_T_0
                go_simp
                (repeat (conv in rho _ _ _ _ (Operand.tmp _) => whnf))
                first | exact Grows.refl _ | exact ⟨Grows.refl _, rfl⟩ | (refine ⟨Grows.refl _, ?_⟩; simp [hd]; done) | (refine ⟨Grows.refl _, ?_⟩; simp [hd]; omega) | (refine ⟨Grows.refl _, ?_⟩; simp; omega)) ?_
            refine free_guarded (fun v_ _ => v_ = .int .i64 q) (val_mono _) (fun vs wq hg hd => by
              simp [Region.binds] at hd
              refine ⟨?_, ?_⟩
              · simp [Region.wanted, yieldR]
                (repeat (conv in rho _ _ _ _ (Operand.tmp _) => whnf))
                first | (simp [hd]; done) | (simp [hd]; omega)
              · simp only [Does]
                simp only [execOp, resolve, Option.map_some, Option.map_none, List.map_toArray, List.map_cons, List.map_nil, rho_const, rho_func]
                (repeat (conv in rho _ _ _ _ (Operand.tmp _) => whnf))
                (try simp only [hd])
                go_simp
                (repeat (conv in rho _ _ _ _ (Operand.tmp _) => whnf))
                first | exact Grows.refl _ | exact ⟨Grows.refl _, rfl⟩ | (refine ⟨Grows.refl _, ?_⟩; simp [hd]; done) | (refine ⟨Grows.refl _, ?_⟩; simp [hd]; omega) | (refine ⟨Grows.refl _, ?_⟩; simp; omega)) ?_
            refine free_guarded (fun v_ _ => v_ = .pointer (some ⟨g1, o1 + q * 256, none⟩)) (val_mono _) (fun vs wq hg hd => by
              simp [Region.binds] at hd
              refine ⟨?_, ?_⟩
              · simp [Region.wanted, yieldR]
                (repeat (conv in rho _ _ _ _ (Operand.tmp _) => whnf))
                first | (simp [hd]; done) | (simp [hd]; omega)
              · simp only [Does]
                simp only [execOp, resolve, Option.map_some, Option.map_none, List.map_toArray, List.map_cons, List.map_nil, rho_const, rho_func]
                (repeat (conv in rho _ _ _ _ (Operand.tmp _) => whnf))
                (try simp only [hd])
                go_simp
                (repeat (conv in rho _ _ _ _ (Operand.tmp _) => whnf))
                first | exact Grows.refl _ | exact ⟨Grows.refl _, rfl⟩ | (refine ⟨Grows.refl _, ?_⟩; simp [hd]; done) | (refine ⟨Grows.refl _, ?_⟩; simp [hd]; omega) | (refine ⟨Grows.refl _, ?_⟩; simp; omega)) ?_
            refine free_guarded (fun v_ _ => v_ = .agg (pgA pq)) (val_mono _) (fun vs wq hg hd => by
              simp [Region.binds] at hd
              refine ⟨?_, ?_⟩
              · simp [Region.wanted, yieldR]
                (repeat (conv in rho _ _ _ _ (Operand.tmp _) => whnf))
                first | (simp [hd]; done) | (simp [hd]; omega)
              · exact does_load 40 (.tmp 124) ⟨g1, o1 + q * 256, none⟩ _ rfl (by first | rfl | ((conv => lhs; whnf); simp [hd])) (page_run_load HPQ.out (range_grows hrC.out (Grows.of_drew hg))) ⟨Grows.refl _, rfl⟩) ?_
            refine free_guarded (fun v_ _ => v_ = .pointer (some ⟨w.heap.size, 0, none⟩)) (val_mono _) (fun vs wq hg hd => by
              simp [Region.binds] at hd
              refine ⟨?_, ?_⟩
              · simp [Region.wanted, yieldR]
                (repeat (conv in rho _ _ _ _ (Operand.tmp _) => whnf))
                first | (simp [hd]; done) | (simp [hd]; omega)
              · simp only [Does]
                simp only [execOp, resolve, Option.map_some, Option.map_none, List.map_toArray, List.map_cons, List.map_nil, rho_const, rho_func]
                (repeat (conv in rho _ _ _ _ (Operand.tmp _) => whnf))
                (try simp only [hd])
                go_simp
                (repeat (conv in rho _ _ _ _ (Operand.tmp _) => whnf))
                first | exact Grows.refl _ | exact ⟨Grows.refl _, rfl⟩ | (refine ⟨Grows.refl _, ?_⟩; simp [hd]; done) | (refine ⟨Grows.refl _, ?_⟩; simp [hd]; omega) | (refine ⟨Grows.refl _, ?_⟩; simp; omega)) ?_
            refine free_guarded (fun v_ _ => v_ = .slice (some ⟨gP, oP, none⟩) d.pages.length cP) (val_mono _) (fun vs wq hg hd => by
              simp [Region.binds] at hd
              refine ⟨?_, ?_⟩
              · simp [Region.wanted, yieldR]
                (repeat (conv in rho _ _ _ _ (Operand.tmp _) => whnf))
                first | (simp [hd]; done) | (simp [hd]; omega)
              · simp only [Does]
                simp only [execOp, resolve, Option.map_some, Option.map_none, List.map_toArray, List.map_cons, List.map_nil, rho_const, rho_func]
                (repeat (conv in rho _ _ _ _ (Operand.tmp _) => whnf))
                (try simp only [hd])
                have q0 := hg.cell c_D_0
                go_simp
                (repeat (conv in rho _ _ _ _ (Operand.tmp _) => whnf))
                first | exact Grows.refl _ | exact ⟨Grows.refl _, rfl⟩ | (refine ⟨Grows.refl _, ?_⟩; simp [hd]; done) | (refine ⟨Grows.refl _, ?_⟩; simp [hd]; omega) | (refine ⟨Grows.refl _, ?_⟩; simp; omega)) ?_
            refine free_guarded (fun v_ _ => v_ = .int .i64 q) (val_mono _) (fun vs wq hg hd => by
              simp [Region.binds] at hd
              refine ⟨?_, ?_⟩
              · simp [Region.wanted, yieldR]
                (repeat (conv in rho _ _ _ _ (Operand.tmp _) => whnf))
                first | (simp [hd]; done) | (simp [hd]; omega)
              · simp only [Does]
                simp only [execOp, resolve, Option.map_some, Option.map_none, List.map_toArray, List.map_cons, List.map_nil, rho_const, rho_func]
                (repeat (conv in rho _ _ _ _ (Operand.tmp _) => whnf))
                (try simp only [hd])
                go_simp
                (repeat (conv in rho _ _ _ _ (Operand.tmp _) => whnf))
                first | exact Grows.refl _ | exact ⟨Grows.refl _, rfl⟩ | (refine ⟨Grows.refl _, ?_⟩; simp [hd]; done) | (refine ⟨Grows.refl _, ?_⟩; simp [hd]; omega) | (refine ⟨Grows.refl _, ?_⟩; simp; omega)) ?_
            refine free_guarded (fun v_ _ => v_ = .pointer (some ⟨gP, oP + q * 256, none⟩)) (val_mono _) (fun vs wq hg hd => by
              simp [Region.binds] at hd
              refine ⟨?_, ?_⟩
              · simp [Region.wanted, yieldR]
                (repeat (conv in rho _ _ _ _ (Operand.tmp _) => whnf))
                first | (simp [hd]; done) | (simp [hd]; omega)
              · simp only [Does]
                simp only [execOp, resolve, Option.map_some, Option.map_none, List.map_toArray, List.map_cons, List.map_nil, rho_const, rho_func]
                (repeat (conv in rho _ _ _ _ (Operand.tmp _) => whnf))
                (try simp only [hd])
                go_simp
                (repeat (conv in rho _ _ _ _ (Operand.tmp _) => whnf))
                first | exact Grows.refl _ | exact ⟨Grows.refl _, rfl⟩ | (refine ⟨Grows.refl _, ?_⟩; simp [hd]; done) | (refine ⟨Grows.refl _, ?_⟩; simp [hd]; omega) | (refine ⟨Grows.refl _, ?_⟩; simp; omega)) ?_
            refine free_guarded (fun v_ _ => v_ = .agg (pgA pq)) (val_mono _) (fun vs wq hg hd => by
              simp [Region.binds] at hd
              refine ⟨?_, ?_⟩
              · simp [Region.wanted, yieldR]
                (repeat (conv in rho _ _ _ _ (Operand.tmp _) => whnf))
                first | (simp [hd]; done) | (simp [hd]; omega)
              · exact does_load 40 (.tmp 129) ⟨gP, oP + q * 256, none⟩ _ rfl (by first | rfl | ((conv => lhs; whnf); simp [hd])) (page_run_load HPQ.out (range_grows hrD.out (Grows.of_drew hg))) ⟨Grows.refl _, rfl⟩) ?_
            refine free_guarded (fun v_ _ => v_ = .bool false) (val_mono _) (fun vs wq hg hd => by
              simp [Region.binds] at hd
              refine ⟨?_, ?_⟩
              · simp [Region.wanted, yieldR]
                (repeat (conv in rho _ _ _ _ (Operand.tmp _) => whnf))
                first | (simp [hd]; done) | (simp [hd]; omega)
              · simp only [Does]
                simp only [execOp, resolve, Option.map_some, Option.map_none, List.map_toArray, List.map_cons, List.map_nil, rho_const, rho_func]
                (repeat (conv in rho _ _ _ _ (Operand.tmp _) => whnf))
                (try simp only [hd])
                have heq := page_eq_run pq pq HPQ.out HPQ.out wq
                go_simp
                (repeat (conv in rho _ _ _ _ (Operand.tmp _) => whnf))
                first | exact Grows.refl _ | exact ⟨Grows.refl _, rfl⟩ | (refine ⟨Grows.refl _, ?_⟩; simp [hd]; done) | (refine ⟨Grows.refl _, ?_⟩; simp [hd]; omega) | (refine ⟨Grows.refl _, ?_⟩; simp; omega)) ?_
            refine free_guarded (fun v_ _ => v_ = .bool false) (val_mono _) (fun vs wq hg hd => by
              simp [Region.binds] at hd
              refine ⟨?_, ?_⟩
              · simp [Region.wanted, yieldR]
                (repeat (conv in rho _ _ _ _ (Operand.tmp _) => whnf))
                first | (simp [hd]; done) | (simp [hd]; omega)
              · simp only [Does]
                simp only [execOp, resolve, Option.map_some, Option.map_none, List.map_toArray, List.map_cons, List.map_nil, rho_const, rho_func]
                (repeat (conv in rho _ _ _ _ (Operand.tmp _) => whnf))
                (try simp only [hd])
                go_simp
                (repeat (conv in rho _ _ _ _ (Operand.tmp _) => whnf))
                first | exact Grows.refl _ | exact ⟨Grows.refl _, rfl⟩ | (refine ⟨Grows.refl _, ?_⟩; simp [hd]; done) | (refine ⟨Grows.refl _, ?_⟩; simp [hd]; omega) | (refine ⟨Grows.refl _, ?_⟩; simp; omega)) ?_
            refine free_op (fun v_ _ => v_ = .bool false) rfl (val_mono _) (fun vs wq hg hd => by
              (try simp [Region.binds] at hd); simp only [Does]; simp only [execOp, resolve, Option.map_some, Option.map_none, List.map_toArray, List.map_cons, List.map_nil, rho_const, rho_func]; (repeat (conv in rho _ _ _ _ (Operand.tmp _) => whnf)); (try simp only [hd]); go_simp; (repeat (conv in rho _ _ _ _ (Operand.tmp _) => whnf))
              first | exact Grows.refl _ | exact ⟨Grows.refl _, rfl⟩ | (refine ⟨Grows.refl _, ?_⟩; simp [hd]; done) | (refine ⟨Grows.refl _, ?_⟩; simp [hd]; omega) | (refine ⟨Grows.refl _, ?_⟩; simp; omega)) ?_
            intro vs w' hg hv; have h30 := hv 30 (by omega); simp at h30; simp only [putL, dstAt, List.range, List.range.loop, if_true, List.getElem?_toArray, List.getElem?_cons_zero, List.getElem?_cons_succ, Option.bind_some, Act.put, List.setIfInBounds_toArray, List.set_cons_zero, List.set_cons_succ]
            rw [h30]
            have HGN := Lib.hid (show Grows wr w' from Grows.of_drew hg)
            clear hv h30 hg c_D_0 c_T_0 c_U_0 c_B
            generalize vs 0 = z0, vs 1 = z1, vs 2 = z2, vs 3 = z3, vs 4 = z4, vs 5 = z5, vs 6 = z6, vs 7 = z7, vs 8 = z8, vs 9 = z9, vs 10 = z10, vs 11 = z11, vs 12 = z12, vs 13 = z13, vs 14 = z14, vs 15 = z15, vs 16 = z16, vs 17 = z17, vs 18 = z18, vs 19 = z19, vs 20 = z20, vs 21 = z21, vs 22 = z22, vs 23 = z23, vs 24 = z24, vs 25 = z25, vs 26 = z26, vs 27 = z27, vs 28 = z28, vs 29 = z29, vs 30 = z30 at *
            go_wp2
            go_roundw
            case rel => exact ⟨q + 1, by omega, by go_num, J1.out.trans HGN.out⟩
            case measure => simp [intOf]; omega
        · have hlti : ¬ (q : Int) < d.pages.length := by omega
          have c_D_1 : _ = some _ := (JD.out.cell 1).trans Ds.out.2.2.1
          have GB0 := Lib.hid (I4.out.trans J1.out)
          rename World => wq
          go_wp2_with (first
            | ((with_reducible refine wpList_make_bytes ?_ (.tmp 136) (.tmp 136) ?_ d.cache.length ?_ ?_ ?_ ?_); exact rfl; exact rfl; exact rfl; exact rfl; exact M2.out; intro yu1 hr g; rw [← FlM.onesL_zero d.cache.length] at hr; have RY := Lib.hid hr; have GY := Lib.hid g; clear hr g))
          clear c_D_0 c_D_1
          go_loopw [11] (fun i wr => ∃ q : Nat, q ≤ d.cache.length ∧ i = .int .i64 q ∧ Row wr wq.heap.size 5 (byA (FlM.onesL d.cache.length q)) ∧ Grows wq wr) (fun i _ => d.cache.length - (intOf i).toNat)
          case atStart => exact ⟨0, Nat.zero_le _, rfl, RY.out, GY.out⟩
          case round =>
            obtain ⟨q, hq, rfl, j1, j2⟩ := hrel
            have Q1 := Lib.hid j1; have Q2 := Lib.hid j2
            clear j1 j2
            by_cases hlt : q < d.cache.length
            · have hlti : (q : Int) < d.cache.length := by omega
              have HS : Hid ((byA (FlM.onesL d.cache.length q)).setIfInBounds q (.int .u8 1) = byA (FlM.onesL d.cache.length (q + 1))) := (byA_set _ q 1#8).trans (by rw [FlM.onesL_step _ _ hlt])
              go_wp2_with (first
                | ((with_reducible refine wpList_store_c ?_ 5 (.tmp 146) (.const (.int .u8 1)) ?_ wq.heap.size q (.int .u8 1) (byA (FlM.onesL d.cache.length q)) 5 ?_ ?_ ?_ ?_ ?_ ?_ ?_); exact rfl; exact rfl; exact rfl; exact rfl; exact rfl; exact one_u8; exact Q1.out; exact (by rw [byA_size, FlM.onesL_length _ _ (by omega)]; exact hlt); intro yu2 hp hg; rw [HS.out] at hp; have X1 := Lib.hid hp; have X2 := Lib.hid (show Grows wq _ from Q2.out.grown hg Q2.out.size (by intro k e; have e := Option.some.inj e; omega)); clear hp hg))
              go_roundw
              case rel => exact ⟨q + 1, by omega, by go_num, X1.out, X2.out⟩
              case measure => simp [intOf]; omega
            · have hlti : ¬ (q : Int) < d.cache.length := by omega
              obtain rfl : q = d.cache.length := by omega
              go_wp2
              rename World => wc
              have GT := Lib.hid ((HGB.out.trans GB0.out).trans Q2.out)
              have RDC := Lib.hid (Row.grows JD.out Q2.out)
              have hy := Bytes.of_byA Q1.out (by rw [FlM.onesL_length _ _ (Nat.le_refl _)]; have := N2.out; unfold maxLen; omega)
              rw [FlM.onesL_length _ _ (Nat.le_refl _), FlM.onesL_whole] at hy
              have HYG := Lib.hid (fun W (g : Grows wc W) => (show Bytes (World.heap W).size W _ _ from Bytes.more (Sl.below hy g) g.size))
              have HVD := Lib.hid (fun W (g : Grows wc W) => HV.out.grows (GT.out.trans g))
              have GR := Lib.hid (Grows.refl wc)
              clear hy
              go_loopw [12] (fun i wr => ∃ q : Nat, q ≤ d.cache.length ∧ i = .int .i64 q ∧ Grows wc wr) (fun i _ => d.cache.length - (intOf i).toNat)
              case atStart => exact ⟨0, Nat.zero_le _, rfl, Grows.refl _⟩
              case round =>
                obtain ⟨q, hq, rfl, j3⟩ := hrel
                have J3 := Lib.hid j3
                clear j3
                have JE := Lib.hid (Row.grows RDC.out J3.out)
                have c_D_0 : _ = some _ := (JE.out.cell 0).trans Ds.out.2.1
                have c_D_1 : _ = some _ := (JE.out.cell 1).trans Ds.out.2.2.1
                by_cases hlt : q < d.cache.length
                · have hlti : (q : Int) < d.cache.length := by omega
                  obtain ⟨gC, oC, rfl, hgC, hxC⟩ := HCf.out (by omega)
                  obtain ⟨x, hx⟩ : ∃ x, d.cache[q]? = some x := ⟨_, List.getElem?_eq_getElem hlt⟩
                  have c_at : wr.cell? ⟨gC, oC + q * 257, none⟩ = some (.int .i64 x.1) := range_low (GT.out.trans J3.out) hgC (hxC q x hx) 0 _ rfl
                  clear hxC hx
                  by_cases hx0 : x.1 < 0
                  case pos =>
                    have hx0' : ¬ 0 ≤ x.1 := by omega
                    go_wp2
                    refine wp_region_free 19 191 (by kernel_rfl) (by kernel_rfl) rfl (by kernel_rfl) ?_; simp only [List.take_succ_cons, List.take_zero, List.drop_succ_cons, List.drop_zero]
                    refine free_op (fun v_ _ => v_ = .pointer (some ⟨w.heap.size, 1, none⟩)) rfl (val_mono _) (fun vs wq hg hd => by
                      (try simp [Region.binds] at hd); simp only [Does]; simp only [execOp, resolve, Option.map_some, Option.map_none, List.map_toArray, List.map_cons, List.map_nil, rho_const, rho_func]; (repeat (conv in rho _ _ _ _ (Operand.tmp _) => whnf)); (try simp only [hd]); go_simp; (repeat (conv in rho _ _ _ _ (Operand.tmp _) => whnf))
                      first | exact Grows.refl _ | exact ⟨Grows.refl _, rfl⟩ | (refine ⟨Grows.refl _, ?_⟩; simp [hd]; done) | (refine ⟨Grows.refl _, ?_⟩; simp [hd]; omega) | (refine ⟨Grows.refl _, ?_⟩; simp; omega)) ?_
                    refine free_op (fun v_ _ => v_ = .slice (some ⟨gC, oC, none⟩) d.cache.length cC) rfl (val_mono _) (fun vs wq hg hd => by
                      have q0 := hg.cell c_D_1
                      (try simp [Region.binds] at hd); simp only [Does]; simp only [execOp, resolve, Option.map_some, Option.map_none, List.map_toArray, List.map_cons, List.map_nil, rho_const, rho_func]; (repeat (conv in rho _ _ _ _ (Operand.tmp _) => whnf)); (try simp only [hd]); go_simp; (repeat (conv in rho _ _ _ _ (Operand.tmp _) => whnf))
                      first | exact Grows.refl _ | exact ⟨Grows.refl _, rfl⟩ | (refine ⟨Grows.refl _, ?_⟩; simp [hd]; done) | (refine ⟨Grows.refl _, ?_⟩; simp [hd]; omega) | (refine ⟨Grows.refl _, ?_⟩; simp; omega)) ?_
                    refine free_op (fun v_ _ => v_ = .int .i64 q) rfl (val_mono _) (fun vs wq hg hd => by
                      (try simp [Region.binds] at hd); simp only [Does]; simp only [execOp, resolve, Option.map_some, Option.map_none, List.map_toArray, List.map_cons, List.map_nil, rho_const, rho_func]; (repeat (conv in rho _ _ _ _ (Operand.tmp _) => whnf)); (try simp only [hd]); go_simp; (repeat (conv in rho _ _ _ _ (Operand.tmp _) => whnf))
                      first | exact Grows.refl _ | exact ⟨Grows.refl _, rfl⟩ | (refine ⟨Grows.refl _, ?_⟩; simp [hd]; done) | (refine ⟨Grows.refl _, ?_⟩; simp [hd]; omega) | (refine ⟨Grows.refl _, ?_⟩; simp; omega)) ?_
                    refine free_op (fun v_ _ => v_ = .pointer (some ⟨gC, oC + q * 257, none⟩)) rfl (val_mono _) (fun vs wq hg hd => by
                      (try simp [Region.binds] at hd); simp only [Does]; simp only [execOp, resolve, Option.map_some, Option.map_none, List.map_toArray, List.map_cons, List.map_nil, rho_const, rho_func]; (repeat (conv in rho _ _ _ _ (Operand.tmp _) => whnf)); (try simp only [hd]); go_simp; (repeat (conv in rho _ _ _ _ (Operand.tmp _) => whnf))
                      first | exact Grows.refl _ | exact ⟨Grows.refl _, rfl⟩ | (refine ⟨Grows.refl _, ?_⟩; simp [hd]; done) | (refine ⟨Grows.refl _, ?_⟩; simp [hd]; omega) | (refine ⟨Grows.refl _, ?_⟩; simp; omega)) ?_
                    refine free_op (fun v_ _ => v_ = .pointer (some ⟨gC, oC + q * 257, none⟩)) rfl (val_mono _) (fun vs wq hg hd => by
                      (try simp [Region.binds] at hd); simp only [Does]; simp only [execOp, resolve, Option.map_some, Option.map_none, List.map_toArray, List.map_cons, List.map_nil, rho_const, rho_func]; (repeat (conv in rho _ _ _ _ (Operand.tmp _) => whnf)); (try simp only [hd]); go_simp; (repeat (conv in rho _ _ _ _ (Operand.tmp _) => whnf))
                      first | exact Grows.refl _ | exact ⟨Grows.refl _, rfl⟩ | (refine ⟨Grows.refl _, ?_⟩; simp [hd]; done) | (refine ⟨Grows.refl _, ?_⟩; simp [hd]; omega) | (refine ⟨Grows.refl _, ?_⟩; simp; omega)) ?_
                    refine free_op (fun v_ _ => v_ = .int .i64 x.1) rfl (val_mono _) (fun vs wq hg hd => by
                      have q0 := hg.cell c_at
                      (try simp [Region.binds] at hd); simp only [Does]; simp only [execOp, resolve, Option.map_some, Option.map_none, List.map_toArray, List.map_cons, List.map_nil, rho_const, rho_func]; (repeat (conv in rho _ _ _ _ (Operand.tmp _) => whnf)); (try simp only [hd]); go_simp; (repeat (conv in rho _ _ _ _ (Operand.tmp _) => whnf))
                      first | exact Grows.refl _ | exact ⟨Grows.refl _, rfl⟩ | (refine ⟨Grows.refl _, ?_⟩; simp [hd]; done) | (refine ⟨Grows.refl _, ?_⟩; simp [hd]; omega) | (refine ⟨Grows.refl _, ?_⟩; simp; omega)) ?_
                    refine free_op (fun v_ _ => v_ = .bool true) rfl (val_mono _) (fun vs wq hg hd => by
                      (try simp [Region.binds] at hd); simp only [Does]; simp only [execOp, resolve, Option.map_some, Option.map_none, List.map_toArray, List.map_cons, List.map_nil, rho_const, rho_func]; (repeat (conv in rho _ _ _ _ (Operand.tmp _) => whnf)); (try simp only [hd]); go_simp; (repeat (conv in rho _ _ _ _ (Operand.tmp _) => whnf))
                      first | exact Grows.refl _ | exact ⟨Grows.refl _, rfl⟩ | (refine ⟨Grows.refl _, ?_⟩; simp [hd]; done) | (refine ⟨Grows.refl _, ?_⟩; simp [hd]; omega) | (refine ⟨Grows.refl _, ?_⟩; simp; omega)) ?_
                    refine free_op (fun v_ _ => v_ = .bool true) rfl (val_mono _) (fun vs wq hg hd => by
                      (try simp [Region.binds] at hd); simp only [Does]; simp only [execOp, resolve, Option.map_some, Option.map_none, List.map_toArray, List.map_cons, List.map_nil, rho_const, rho_func]; (repeat (conv in rho _ _ _ _ (Operand.tmp _) => whnf)); (try simp only [hd]); go_simp; (repeat (conv in rho _ _ _ _ (Operand.tmp _) => whnf))
                      first | exact Grows.refl _ | exact ⟨Grows.refl _, rfl⟩ | (refine ⟨Grows.refl _, ?_⟩; simp [hd]; done) | (refine ⟨Grows.refl _, ?_⟩; simp [hd]; omega) | (refine ⟨Grows.refl _, ?_⟩; simp; omega)) ?_
                    refine free_passed (fun vs wq hg hd => by
                      simp [Region.binds] at hd
                      simp [Region.wanted, yieldR]
                      (repeat (conv in rho _ _ _ _ (Operand.tmp _) => whnf))
                      first | (simp [hd]; done) | (simp [hd]; omega)) ?_
                    refine free_passed (fun vs wq hg hd => by
                      simp [Region.binds] at hd
                      simp [Region.wanted, yieldR]
                      (repeat (conv in rho _ _ _ _ (Operand.tmp _) => whnf))
                      first | (simp [hd]; done) | (simp [hd]; omega)) ?_
                    refine free_passed (fun vs wq hg hd => by
                      simp [Region.binds] at hd
                      simp [Region.wanted, yieldR]
                      (repeat (conv in rho _ _ _ _ (Operand.tmp _) => whnf))
                      first | (simp [hd]; done) | (simp [hd]; omega)) ?_
                    refine free_passed (fun vs wq hg hd => by
                      simp [Region.binds] at hd
                      simp [Region.wanted, yieldR]
                      (repeat (conv in rho _ _ _ _ (Operand.tmp _) => whnf))
                      first | (simp [hd]; done) | (simp [hd]; omega)) ?_
                    refine free_passed (fun vs wq hg hd => by
                      simp [Region.binds] at hd
                      simp [Region.wanted, yieldR]
                      (repeat (conv in rho _ _ _ _ (Operand.tmp _) => whnf))
                      first | (simp [hd]; done) | (simp [hd]; omega)) ?_
                    refine free_passed (fun vs wq hg hd => by
                      simp [Region.binds] at hd
                      simp [Region.wanted, yieldR]
                      (repeat (conv in rho _ _ _ _ (Operand.tmp _) => whnf))
                      first | (simp [hd]; done) | (simp [hd]; omega)) ?_
                    refine free_passed (fun vs wq hg hd => by
                      simp [Region.binds] at hd
                      simp [Region.wanted, yieldR]
                      (repeat (conv in rho _ _ _ _ (Operand.tmp _) => whnf))
                      first | (simp [hd]; done) | (simp [hd]; omega)) ?_
                    refine free_passed (fun vs wq hg hd => by
                      simp [Region.binds] at hd
                      simp [Region.wanted, yieldR]
                      (repeat (conv in rho _ _ _ _ (Operand.tmp _) => whnf))
                      first | (simp [hd]; done) | (simp [hd]; omega)) ?_
                    refine free_passed (fun vs wq hg hd => by
                      simp [Region.binds] at hd
                      simp [Region.wanted, yieldR]
                      (repeat (conv in rho _ _ _ _ (Operand.tmp _) => whnf))
                      first | (simp [hd]; done) | (simp [hd]; omega)) ?_
                    refine free_passed (fun vs wq hg hd => by
                      simp [Region.binds] at hd
                      simp [Region.wanted, yieldR]
                      (repeat (conv in rho _ _ _ _ (Operand.tmp _) => whnf))
                      first | (simp [hd]; done) | (simp [hd]; omega)) ?_
                    refine free_op (fun v_ _ => v_ = .bool true) rfl (val_mono _) (fun vs wq hg hd => by
                      (try simp [Region.binds] at hd); simp only [Does]; simp only [execOp, resolve, Option.map_some, Option.map_none, List.map_toArray, List.map_cons, List.map_nil, rho_const, rho_func]; (repeat (conv in rho _ _ _ _ (Operand.tmp _) => whnf)); (try simp only [hd]); go_simp; (repeat (conv in rho _ _ _ _ (Operand.tmp _) => whnf))
                      first | exact Grows.refl _ | exact ⟨Grows.refl _, rfl⟩ | (refine ⟨Grows.refl _, ?_⟩; simp [hd]; done) | (refine ⟨Grows.refl _, ?_⟩; simp [hd]; omega) | (refine ⟨Grows.refl _, ?_⟩; simp; omega)) ?_
                    intro vs w' hg hv; have h18 := hv 18 (by omega); simp at h18; simp only [putL, dstAt, List.range, List.range.loop, if_true, List.getElem?_toArray, List.getElem?_cons_zero, List.getElem?_cons_succ, Option.bind_some, Act.put, List.setIfInBounds_toArray, List.set_cons_zero, List.set_cons_succ]
                    rw [h18]
                    have HGN := Lib.hid (show Grows wr w' from Grows.of_drew hg)
                    clear hv h18 hg c_D_0 c_D_1 c_at
                    generalize vs 0 = z0, vs 1 = z1, vs 2 = z2, vs 3 = z3, vs 4 = z4, vs 5 = z5, vs 6 = z6, vs 7 = z7, vs 8 = z8, vs 9 = z9, vs 10 = z10, vs 11 = z11, vs 12 = z12, vs 13 = z13, vs 14 = z14, vs 15 = z15, vs 16 = z16, vs 17 = z17, vs 18 = z18 at *
                    go_wp2_with (first
                      | (go_at_call 8; (with_reducible refine (wakes4_any _).mono ?_); rintro e wz ⟨rfl, g⟩; have GZ := Lib.hid g; clear g))
                    go_ret
                    exact ⟨rfl, ((GT.out.trans J3.out).trans HGN.out).trans GZ.out⟩
                  have hx0' : 0 ≤ x.1 := by omega
                  by_cases hxn : (d.pages.length : Int) ≤ x.1
                  case pos =>
                    go_wp2
                    refine wp_region_free 19 191 (by kernel_rfl) (by kernel_rfl) rfl (by kernel_rfl) ?_; simp only [List.take_succ_cons, List.take_zero, List.drop_succ_cons, List.drop_zero]
                    refine free_op (fun v_ _ => v_ = .pointer (some ⟨w.heap.size, 1, none⟩)) rfl (val_mono _) (fun vs wq hg hd => by
                      (try simp [Region.binds] at hd); simp only [Does]; simp only [execOp, resolve, Option.map_some, Option.map_none, List.map_toArray, List.map_cons, List.map_nil, rho_const, rho_func]; (repeat (conv in rho _ _ _ _ (Operand.tmp _) => whnf)); (try simp only [hd]); go_simp; (repeat (conv in rho _ _ _ _ (Operand.tmp _) => whnf))
                      first | exact Grows.refl _ | exact ⟨Grows.refl _, rfl⟩ | (refine ⟨Grows.refl _, ?_⟩; simp [hd]; done) | (refine ⟨Grows.refl _, ?_⟩; simp [hd]; omega) | (refine ⟨Grows.refl _, ?_⟩; simp; omega)) ?_
                    refine free_op (fun v_ _ => v_ = .slice (some ⟨gC, oC, none⟩) d.cache.length cC) rfl (val_mono _) (fun vs wq hg hd => by
                      have q0 := hg.cell c_D_1
                      (try simp [Region.binds] at hd); simp only [Does]; simp only [execOp, resolve, Option.map_some, Option.map_none, List.map_toArray, List.map_cons, List.map_nil, rho_const, rho_func]; (repeat (conv in rho _ _ _ _ (Operand.tmp _) => whnf)); (try simp only [hd]); go_simp; (repeat (conv in rho _ _ _ _ (Operand.tmp _) => whnf))
                      first | exact Grows.refl _ | exact ⟨Grows.refl _, rfl⟩ | (refine ⟨Grows.refl _, ?_⟩; simp [hd]; done) | (refine ⟨Grows.refl _, ?_⟩; simp [hd]; omega) | (refine ⟨Grows.refl _, ?_⟩; simp; omega)) ?_
                    refine free_op (fun v_ _ => v_ = .int .i64 q) rfl (val_mono _) (fun vs wq hg hd => by
                      (try simp [Region.binds] at hd); simp only [Does]; simp only [execOp, resolve, Option.map_some, Option.map_none, List.map_toArray, List.map_cons, List.map_nil, rho_const, rho_func]; (repeat (conv in rho _ _ _ _ (Operand.tmp _) => whnf)); (try simp only [hd]); go_simp; (repeat (conv in rho _ _ _ _ (Operand.tmp _) => whnf))
                      first | exact Grows.refl _ | exact ⟨Grows.refl _, rfl⟩ | (refine ⟨Grows.refl _, ?_⟩; simp [hd]; done) | (refine ⟨Grows.refl _, ?_⟩; simp [hd]; omega) | (refine ⟨Grows.refl _, ?_⟩; simp; omega)) ?_
                    refine free_op (fun v_ _ => v_ = .pointer (some ⟨gC, oC + q * 257, none⟩)) rfl (val_mono _) (fun vs wq hg hd => by
                      (try simp [Region.binds] at hd); simp only [Does]; simp only [execOp, resolve, Option.map_some, Option.map_none, List.map_toArray, List.map_cons, List.map_nil, rho_const, rho_func]; (repeat (conv in rho _ _ _ _ (Operand.tmp _) => whnf)); (try simp only [hd]); go_simp; (repeat (conv in rho _ _ _ _ (Operand.tmp _) => whnf))
                      first | exact Grows.refl _ | exact ⟨Grows.refl _, rfl⟩ | (refine ⟨Grows.refl _, ?_⟩; simp [hd]; done) | (refine ⟨Grows.refl _, ?_⟩; simp [hd]; omega) | (refine ⟨Grows.refl _, ?_⟩; simp; omega)) ?_
                    refine free_op (fun v_ _ => v_ = .pointer (some ⟨gC, oC + q * 257, none⟩)) rfl (val_mono _) (fun vs wq hg hd => by
                      (try simp [Region.binds] at hd); simp only [Does]; simp only [execOp, resolve, Option.map_some, Option.map_none, List.map_toArray, List.map_cons, List.map_nil, rho_const, rho_func]; (repeat (conv in rho _ _ _ _ (Operand.tmp _) => whnf)); (try simp only [hd]); go_simp; (repeat (conv in rho _ _ _ _ (Operand.tmp _) => whnf))
                      first | exact Grows.refl _ | exact ⟨Grows.refl _, rfl⟩ | (refine ⟨Grows.refl _, ?_⟩; simp [hd]; done) | (refine ⟨Grows.refl _, ?_⟩; simp [hd]; omega) | (refine ⟨Grows.refl _, ?_⟩; simp; omega)) ?_
                    refine free_op (fun v_ _ => v_ = .int .i64 x.1) rfl (val_mono _) (fun vs wq hg hd => by
                      have q0 := hg.cell c_at
                      (try simp [Region.binds] at hd); simp only [Does]; simp only [execOp, resolve, Option.map_some, Option.map_none, List.map_toArray, List.map_cons, List.map_nil, rho_const, rho_func]; (repeat (conv in rho _ _ _ _ (Operand.tmp _) => whnf)); (try simp only [hd]); go_simp; (repeat (conv in rho _ _ _ _ (Operand.tmp _) => whnf))
                      first | exact Grows.refl _ | exact ⟨Grows.refl _, rfl⟩ | (refine ⟨Grows.refl _, ?_⟩; simp [hd]; done) | (refine ⟨Grows.refl _, ?_⟩; simp [hd]; omega) | (refine ⟨Grows.refl _, ?_⟩; simp; omega)) ?_
                    refine free_op (fun v_ _ => v_ = .bool false) rfl (val_mono _) (fun vs wq hg hd => by
                      (try simp [Region.binds] at hd); simp only [Does]; simp only [execOp, resolve, Option.map_some, Option.map_none, List.map_toArray, List.map_cons, List.map_nil, rho_const, rho_func]; (repeat (conv in rho _ _ _ _ (Operand.tmp _) => whnf)); (try simp only [hd]); go_simp; (repeat (conv in rho _ _ _ _ (Operand.tmp _) => whnf))
                      first | exact Grows.refl _ | exact ⟨Grows.refl _, rfl⟩ | (refine ⟨Grows.refl _, ?_⟩; simp [hd]; done) | (refine ⟨Grows.refl _, ?_⟩; simp [hd]; omega) | (refine ⟨Grows.refl _, ?_⟩; simp; omega)) ?_
                    refine free_op (fun v_ _ => v_ = .bool false) rfl (val_mono _) (fun vs wq hg hd => by
                      (try simp [Region.binds] at hd); simp only [Does]; simp only [execOp, resolve, Option.map_some, Option.map_none, List.map_toArray, List.map_cons, List.map_nil, rho_const, rho_func]; (repeat (conv in rho _ _ _ _ (Operand.tmp _) => whnf)); (try simp only [hd]); go_simp; (repeat (conv in rho _ _ _ _ (Operand.tmp _) => whnf))
                      first | exact Grows.refl _ | exact ⟨Grows.refl _, rfl⟩ | (refine ⟨Grows.refl _, ?_⟩; simp [hd]; done) | (refine ⟨Grows.refl _, ?_⟩; simp [hd]; omega) | (refine ⟨Grows.refl _, ?_⟩; simp; omega)) ?_
                    refine free_guarded (fun v_ _ => v_ = .pointer (some ⟨w.heap.size, 1, none⟩)) (val_mono _) (fun vs wq hg hd => by
                      simp [Region.binds] at hd
                      refine ⟨?_, ?_⟩
                      · simp [Region.wanted, yieldR]
                        (repeat (conv in rho _ _ _ _ (Operand.tmp _) => whnf))
                        first | (simp [hd]; done) | (simp [hd]; omega)
                      · simp only [Does]
                        simp only [execOp, resolve, Option.map_some, Option.map_none, List.map_toArray, List.map_cons, List.map_nil, rho_const, rho_func]
                        (repeat (conv in rho _ _ _ _ (Operand.tmp _) => whnf))
                        (try simp only [hd])
                        go_simp
                        (repeat (conv in rho _ _ _ _ (Operand.tmp _) => whnf))
                        first | exact Grows.refl _ | exact ⟨Grows.refl _, rfl⟩ | (refine ⟨Grows.refl _, ?_⟩; simp [hd]; done) | (refine ⟨Grows.refl _, ?_⟩; simp [hd]; omega) | (refine ⟨Grows.refl _, ?_⟩; simp; omega)) ?_
                    refine free_guarded (fun v_ _ => v_ = .slice (some ⟨gC, oC, none⟩) d.cache.length cC) (val_mono _) (fun vs wq hg hd => by
                      simp [Region.binds] at hd
                      refine ⟨?_, ?_⟩
                      · simp [Region.wanted, yieldR]
                        (repeat (conv in rho _ _ _ _ (Operand.tmp _) => whnf))
                        first | (simp [hd]; done) | (simp [hd]; omega)
                      · simp only [Does]
                        simp only [execOp, resolve, Option.map_some, Option.map_none, List.map_toArray, List.map_cons, List.map_nil, rho_const, rho_func]
                        (repeat (conv in rho _ _ _ _ (Operand.tmp _) => whnf))
                        (try simp only [hd])
                        have q0 := hg.cell c_D_1
                        go_simp
                        (repeat (conv in rho _ _ _ _ (Operand.tmp _) => whnf))
                        first | exact Grows.refl _ | exact ⟨Grows.refl _, rfl⟩ | (refine ⟨Grows.refl _, ?_⟩; simp [hd]; done) | (refine ⟨Grows.refl _, ?_⟩; simp [hd]; omega) | (refine ⟨Grows.refl _, ?_⟩; simp; omega)) ?_
                    refine free_guarded (fun v_ _ => v_ = .int .i64 q) (val_mono _) (fun vs wq hg hd => by
                      simp [Region.binds] at hd
                      refine ⟨?_, ?_⟩
                      · simp [Region.wanted, yieldR]
                        (repeat (conv in rho _ _ _ _ (Operand.tmp _) => whnf))
                        first | (simp [hd]; done) | (simp [hd]; omega)
                      · simp only [Does]
                        simp only [execOp, resolve, Option.map_some, Option.map_none, List.map_toArray, List.map_cons, List.map_nil, rho_const, rho_func]
                        (repeat (conv in rho _ _ _ _ (Operand.tmp _) => whnf))
                        (try simp only [hd])
                        go_simp
                        (repeat (conv in rho _ _ _ _ (Operand.tmp _) => whnf))
                        first | exact Grows.refl _ | exact ⟨Grows.refl _, rfl⟩ | (refine ⟨Grows.refl _, ?_⟩; simp [hd]; done) | (refine ⟨Grows.refl _, ?_⟩; simp [hd]; omega) | (refine ⟨Grows.refl _, ?_⟩; simp; omega)) ?_
                    refine free_guarded (fun v_ _ => v_ = .pointer (some ⟨gC, oC + q * 257, none⟩)) (val_mono _) (fun vs wq hg hd => by
                      simp [Region.binds] at hd
                      refine ⟨?_, ?_⟩
                      · simp [Region.wanted, yieldR]
                        (repeat (conv in rho _ _ _ _ (Operand.tmp _) => whnf))
                        first | (simp [hd]; done) | (simp [hd]; omega)
                      · simp only [Does]
                        simp only [execOp, resolve, Option.map_some, Option.map_none, List.map_toArray, List.map_cons, List.map_nil, rho_const, rho_func]
                        (repeat (conv in rho _ _ _ _ (Operand.tmp _) => whnf))
                        (try simp only [hd])
                        go_simp
                        (repeat (conv in rho _ _ _ _ (Operand.tmp _) => whnf))
                        first | exact Grows.refl _ | exact ⟨Grows.refl _, rfl⟩ | (refine ⟨Grows.refl _, ?_⟩; simp [hd]; done) | (refine ⟨Grows.refl _, ?_⟩; simp [hd]; omega) | (refine ⟨Grows.refl _, ?_⟩; simp; omega)) ?_
                    refine free_guarded (fun v_ _ => v_ = .pointer (some ⟨gC, oC + q * 257, none⟩)) (val_mono _) (fun vs wq hg hd => by
                      simp [Region.binds] at hd
                      refine ⟨?_, ?_⟩
                      · simp [Region.wanted, yieldR]
                        (repeat (conv in rho _ _ _ _ (Operand.tmp _) => whnf))
                        first | (simp [hd]; done) | (simp [hd]; omega)
                      · simp only [Does]
                        simp only [execOp, resolve, Option.map_some, Option.map_none, List.map_toArray, List.map_cons, List.map_nil, rho_const, rho_func]
                        (repeat (conv in rho _ _ _ _ (Operand.tmp _) => whnf))
                        (try simp only [hd])
                        go_simp
                        (repeat (conv in rho _ _ _ _ (Operand.tmp _) => whnf))
                        first | exact Grows.refl _ | exact ⟨Grows.refl _, rfl⟩ | (refine ⟨Grows.refl _, ?_⟩; simp [hd]; done) | (refine ⟨Grows.refl _, ?_⟩; simp [hd]; omega) | (refine ⟨Grows.refl _, ?_⟩; simp; omega)) ?_
                    refine free_guarded (fun v_ _ => v_ = .int .i64 x.1) (val_mono _) (fun vs wq hg hd => by
                      simp [Region.binds] at hd
                      refine ⟨?_, ?_⟩
                      · simp [Region.wanted, yieldR]
                        (repeat (conv in rho _ _ _ _ (Operand.tmp _) => whnf))
                        first | (simp [hd]; done) | (simp [hd]; omega)
                      · simp only [Does]
                        simp only [execOp, resolve, Option.map_some, Option.map_none, List.map_toArray, List.map_cons, List.map_nil, rho_const, rho_func]
                        (repeat (conv in rho _ _ _ _ (Operand.tmp _) => whnf))
                        (try simp only [hd])
                        have q0 := hg.cell c_at
                        go_simp
                        (repeat (conv in rho _ _ _ _ (Operand.tmp _) => whnf))
                        first | exact Grows.refl _ | exact ⟨Grows.refl _, rfl⟩ | (refine ⟨Grows.refl _, ?_⟩; simp [hd]; done) | (refine ⟨Grows.refl _, ?_⟩; simp [hd]; omega) | (refine ⟨Grows.refl _, ?_⟩; simp; omega)) ?_
                    refine free_guarded (fun v_ _ => v_ = .pointer (some ⟨w.heap.size, 0, none⟩)) (val_mono _) (fun vs wq hg hd => by
                      simp [Region.binds] at hd
                      refine ⟨?_, ?_⟩
                      · simp [Region.wanted, yieldR]
                        (repeat (conv in rho _ _ _ _ (Operand.tmp _) => whnf))
                        first | (simp [hd]; done) | (simp [hd]; omega)
                      · simp only [Does]
                        simp only [execOp, resolve, Option.map_some, Option.map_none, List.map_toArray, List.map_cons, List.map_nil, rho_const, rho_func]
                        (repeat (conv in rho _ _ _ _ (Operand.tmp _) => whnf))
                        (try simp only [hd])
                        go_simp
                        (repeat (conv in rho _ _ _ _ (Operand.tmp _) => whnf))
                        first | exact Grows.refl _ | exact ⟨Grows.refl _, rfl⟩ | (refine ⟨Grows.refl _, ?_⟩; simp [hd]; done) | (refine ⟨Grows.refl _, ?_⟩; simp [hd]; omega) | (refine ⟨Grows.refl _, ?_⟩; simp; omega)) ?_
                    refine free_guarded (fun v_ _ => v_ = .slice AP d.pages.length cP) (val_mono _) (fun vs wq hg hd => by
                      simp [Region.binds] at hd
                      refine ⟨?_, ?_⟩
                      · simp [Region.wanted, yieldR]
                        (repeat (conv in rho _ _ _ _ (Operand.tmp _) => whnf))
                        first | (simp [hd]; done) | (simp [hd]; omega)
                      · simp only [Does]
                        simp only [execOp, resolve, Option.map_some, Option.map_none, List.map_toArray, List.map_cons, List.map_nil, rho_const, rho_func]
                        (repeat (conv in rho _ _ _ _ (Operand.tmp _) => whnf))
                        (try simp only [hd])
                        have q0 := hg.cell c_D_0
                        go_simp
                        (repeat (conv in rho _ _ _ _ (Operand.tmp _) => whnf))
                        first | exact Grows.refl _ | exact ⟨Grows.refl _, rfl⟩ | (refine ⟨Grows.refl _, ?_⟩; simp [hd]; done) | (refine ⟨Grows.refl _, ?_⟩; simp [hd]; omega) | (refine ⟨Grows.refl _, ?_⟩; simp; omega)) ?_
                    refine free_guarded (fun v_ _ => v_ = .int .i64 d.pages.length) (val_mono _) (fun vs wq hg hd => by
                      simp [Region.binds] at hd
                      refine ⟨?_, ?_⟩
                      · simp [Region.wanted, yieldR]
                        (repeat (conv in rho _ _ _ _ (Operand.tmp _) => whnf))
                        first | (simp [hd]; done) | (simp [hd]; omega)
                      · simp only [Does]
                        simp only [execOp, resolve, Option.map_some, Option.map_none, List.map_toArray, List.map_cons, List.map_nil, rho_const, rho_func]
                        (repeat (conv in rho _ _ _ _ (Operand.tmp _) => whnf))
                        (try simp only [hd])
                        go_simp
                        (repeat (conv in rho _ _ _ _ (Operand.tmp _) => whnf))
                        first | exact Grows.refl _ | exact ⟨Grows.refl _, rfl⟩ | (refine ⟨Grows.refl _, ?_⟩; simp [hd]; done) | (refine ⟨Grows.refl _, ?_⟩; simp [hd]; omega) | (refine ⟨Grows.refl _, ?_⟩; simp; omega)) ?_
                    refine free_guarded (fun v_ _ => v_ = .bool true) (val_mono _) (fun vs wq hg hd => by
                      simp [Region.binds] at hd
                      refine ⟨?_, ?_⟩
                      · simp [Region.wanted, yieldR]
                        (repeat (conv in rho _ _ _ _ (Operand.tmp _) => whnf))
                        first | (simp [hd]; done) | (simp [hd]; omega)
                      · simp only [Does]
                        simp only [execOp, resolve, Option.map_some, Option.map_none, List.map_toArray, List.map_cons, List.map_nil, rho_const, rho_func]
                        (repeat (conv in rho _ _ _ _ (Operand.tmp _) => whnf))
                        (try simp only [hd])
                        go_simp
                        (repeat (conv in rho _ _ _ _ (Operand.tmp _) => whnf))
                        first | exact Grows.refl _ | exact ⟨Grows.refl _, rfl⟩ | (refine ⟨Grows.refl _, ?_⟩; simp [hd]; done) | (refine ⟨Grows.refl _, ?_⟩; simp [hd]; omega) | (refine ⟨Grows.refl _, ?_⟩; simp; omega)) ?_
                    refine free_op (fun v_ _ => v_ = .bool true) rfl (val_mono _) (fun vs wq hg hd => by
                      (try simp [Region.binds] at hd); simp only [Does]; simp only [execOp, resolve, Option.map_some, Option.map_none, List.map_toArray, List.map_cons, List.map_nil, rho_const, rho_func]; (repeat (conv in rho _ _ _ _ (Operand.tmp _) => whnf)); (try simp only [hd]); go_simp; (repeat (conv in rho _ _ _ _ (Operand.tmp _) => whnf))
                      first | exact Grows.refl _ | exact ⟨Grows.refl _, rfl⟩ | (refine ⟨Grows.refl _, ?_⟩; simp [hd]; done) | (refine ⟨Grows.refl _, ?_⟩; simp [hd]; omega) | (refine ⟨Grows.refl _, ?_⟩; simp; omega)) ?_
                    intro vs w' hg hv; have h18 := hv 18 (by omega); simp at h18; simp only [putL, dstAt, List.range, List.range.loop, if_true, List.getElem?_toArray, List.getElem?_cons_zero, List.getElem?_cons_succ, Option.bind_some, Act.put, List.setIfInBounds_toArray, List.set_cons_zero, List.set_cons_succ]
                    rw [h18]
                    have HGN := Lib.hid (show Grows wr w' from Grows.of_drew hg)
                    clear hv h18 hg c_D_0 c_D_1 c_at
                    generalize vs 0 = z0, vs 1 = z1, vs 2 = z2, vs 3 = z3, vs 4 = z4, vs 5 = z5, vs 6 = z6, vs 7 = z7, vs 8 = z8, vs 9 = z9, vs 10 = z10, vs 11 = z11, vs 12 = z12, vs 13 = z13, vs 14 = z14, vs 15 = z15, vs 16 = z16, vs 17 = z17, vs 18 = z18 at *
                    go_wp2_with (first
                      | (go_at_call 8; (with_reducible refine (wakes4_any _).mono ?_); rintro e wz ⟨rfl, g⟩; have GZ := Lib.hid g; clear g))
                    go_ret
                    exact ⟨rfl, ((GT.out.trans J3.out).trans HGN.out).trans GZ.out⟩
                  go_wp2
                  refine wp_region_free 19 191 (by kernel_rfl) (by kernel_rfl) rfl (by kernel_rfl) ?_; simp only [List.take_succ_cons, List.take_zero, List.drop_succ_cons, List.drop_zero]
                  refine free_op (fun v_ _ => v_ = .pointer (some ⟨w.heap.size, 1, none⟩)) rfl (val_mono _) (fun vs wq hg hd => by
                    (try simp [Region.binds] at hd); simp only [Does]; simp only [execOp, resolve, Option.map_some, Option.map_none, List.map_toArray, List.map_cons, List.map_nil, rho_const, rho_func]; (repeat (conv in rho _ _ _ _ (Operand.tmp _) => whnf)); (try simp only [hd]); go_simp; (repeat (conv in rho _ _ _ _ (Operand.tmp _) => whnf))
                    first | exact Grows.refl _ | exact ⟨Grows.refl _, rfl⟩ | (refine ⟨Grows.refl _, ?_⟩; simp [hd]; done) | (refine ⟨Grows.refl _, ?_⟩; simp [hd]; omega) | (refine ⟨Grows.refl _, ?_⟩; simp; omega)) ?_
                  refine free_op (fun v_ _ => v_ = .slice (some ⟨gC, oC, none⟩) d.cache.length cC) rfl (val_mono _) (fun vs wq hg hd => by
                    have q0 := hg.cell c_D_1
                    (try simp [Region.binds] at hd); simp only [Does]; simp only [execOp, resolve, Option.map_some, Option.map_none, List.map_toArray, List.map_cons, List.map_nil, rho_const, rho_func]; (repeat (conv in rho _ _ _ _ (Operand.tmp _) => whnf)); (try simp only [hd]); go_simp; (repeat (conv in rho _ _ _ _ (Operand.tmp _) => whnf))
                    first | exact Grows.refl _ | exact ⟨Grows.refl _, rfl⟩ | (refine ⟨Grows.refl _, ?_⟩; simp [hd]; done) | (refine ⟨Grows.refl _, ?_⟩; simp [hd]; omega) | (refine ⟨Grows.refl _, ?_⟩; simp; omega)) ?_
                  refine free_op (fun v_ _ => v_ = .int .i64 q) rfl (val_mono _) (fun vs wq hg hd => by
                    (try simp [Region.binds] at hd); simp only [Does]; simp only [execOp, resolve, Option.map_some, Option.map_none, List.map_toArray, List.map_cons, List.map_nil, rho_const, rho_func]; (repeat (conv in rho _ _ _ _ (Operand.tmp _) => whnf)); (try simp only [hd]); go_simp; (repeat (conv in rho _ _ _ _ (Operand.tmp _) => whnf))
                    first | exact Grows.refl _ | exact ⟨Grows.refl _, rfl⟩ | (refine ⟨Grows.refl _, ?_⟩; simp [hd]; done) | (refine ⟨Grows.refl _, ?_⟩; simp [hd]; omega) | (refine ⟨Grows.refl _, ?_⟩; simp; omega)) ?_
                  refine free_op (fun v_ _ => v_ = .pointer (some ⟨gC, oC + q * 257, none⟩)) rfl (val_mono _) (fun vs wq hg hd => by
                    (try simp [Region.binds] at hd); simp only [Does]; simp only [execOp, resolve, Option.map_some, Option.map_none, List.map_toArray, List.map_cons, List.map_nil, rho_const, rho_func]; (repeat (conv in rho _ _ _ _ (Operand.tmp _) => whnf)); (try simp only [hd]); go_simp; (repeat (conv in rho _ _ _ _ (Operand.tmp _) => whnf))
                    first | exact Grows.refl _ | exact ⟨Grows.refl _, rfl⟩ | (refine ⟨Grows.refl _, ?_⟩; simp [hd]; done) | (refine ⟨Grows.refl _, ?_⟩; simp [hd]; omega) | (refine ⟨Grows.refl _, ?_⟩; simp; omega)) ?_
                  refine free_op (fun v_ _ => v_ = .pointer (some ⟨gC, oC + q * 257, none⟩)) rfl (val_mono _) (fun vs wq hg hd => by
                    (try simp [Region.binds] at hd); simp only [Does]; simp only [execOp, resolve, Option.map_some, Option.map_none, List.map_toArray, List.map_cons, List.map_nil, rho_const, rho_func]; (repeat (conv in rho _ _ _ _ (Operand.tmp _) => whnf)); (try simp only [hd]); go_simp; (repeat (conv in rho _ _ _ _ (Operand.tmp _) => whnf))
                    first | exact Grows.refl _ | exact ⟨Grows.refl _, rfl⟩ | (refine ⟨Grows.refl _, ?_⟩; simp [hd]; done) | (refine ⟨Grows.refl _, ?_⟩; simp [hd]; omega) | (refine ⟨Grows.refl _, ?_⟩; simp; omega)) ?_
                  refine free_op (fun v_ _ => v_ = .int .i64 x.1) rfl (val_mono _) (fun vs wq hg hd => by
                    have q0 := hg.cell c_at
                    (try simp [Region.binds] at hd); simp only [Does]; simp only [execOp, resolve, Option.map_some, Option.map_none, List.map_toArray, List.map_cons, List.map_nil, rho_const, rho_func]; (repeat (conv in rho _ _ _ _ (Operand.tmp _) => whnf)); (try simp only [hd]); go_simp; (repeat (conv in rho _ _ _ _ (Operand.tmp _) => whnf))
                    first | exact Grows.refl _ | exact ⟨Grows.refl _, rfl⟩ | (refine ⟨Grows.refl _, ?_⟩; simp [hd]; done) | (refine ⟨Grows.refl _, ?_⟩; simp [hd]; omega) | (refine ⟨Grows.refl _, ?_⟩; simp; omega)) ?_
                  refine free_op (fun v_ _ => v_ = .bool false) rfl (val_mono _) (fun vs wq hg hd => by
                    (try simp [Region.binds] at hd); simp only [Does]; simp only [execOp, resolve, Option.map_some, Option.map_none, List.map_toArray, List.map_cons, List.map_nil, rho_const, rho_func]; (repeat (conv in rho _ _ _ _ (Operand.tmp _) => whnf)); (try simp only [hd]); go_simp; (repeat (conv in rho _ _ _ _ (Operand.tmp _) => whnf))
                    first | exact Grows.refl _ | exact ⟨Grows.refl _, rfl⟩ | (refine ⟨Grows.refl _, ?_⟩; simp [hd]; done) | (refine ⟨Grows.refl _, ?_⟩; simp [hd]; omega) | (refine ⟨Grows.refl _, ?_⟩; simp; omega)) ?_
                  refine free_op (fun v_ _ => v_ = .bool false) rfl (val_mono _) (fun vs wq hg hd => by
                    (try simp [Region.binds] at hd); simp only [Does]; simp only [execOp, resolve, Option.map_some, Option.map_none, List.map_toArray, List.map_cons, List.map_nil, rho_const, rho_func]; (repeat (conv in rho _ _ _ _ (Operand.tmp _) => whnf)); (try simp only [hd]); go_simp; (repeat (conv in rho _ _ _ _ (Operand.tmp _) => whnf))
                    first | exact Grows.refl _ | exact ⟨Grows.refl _, rfl⟩ | (refine ⟨Grows.refl _, ?_⟩; simp [hd]; done) | (refine ⟨Grows.refl _, ?_⟩; simp [hd]; omega) | (refine ⟨Grows.refl _, ?_⟩; simp; omega)) ?_
                  refine free_guarded (fun v_ _ => v_ = .pointer (some ⟨w.heap.size, 1, none⟩)) (val_mono _) (fun vs wq hg hd => by
                    simp [Region.binds] at hd
                    refine ⟨?_, ?_⟩
                    · simp [Region.wanted, yieldR]
                      (repeat (conv in rho _ _ _ _ (Operand.tmp _) => whnf))
                      first | (simp [hd]; done) | (simp [hd]; omega)
                    · simp only [Does]
                      simp only [execOp, resolve, Option.map_some, Option.map_none, List.map_toArray, List.map_cons, List.map_nil, rho_const, rho_func]
                      (repeat (conv in rho _ _ _ _ (Operand.tmp _) => whnf))
                      (try simp only [hd])
                      go_simp
                      (repeat (conv in rho _ _ _ _ (Operand.tmp _) => whnf))
                      first | exact Grows.refl _ | exact ⟨Grows.refl _, rfl⟩ | (refine ⟨Grows.refl _, ?_⟩; simp [hd]; done) | (refine ⟨Grows.refl _, ?_⟩; simp [hd]; omega) | (refine ⟨Grows.refl _, ?_⟩; simp; omega)) ?_
                  refine free_guarded (fun v_ _ => v_ = .slice (some ⟨gC, oC, none⟩) d.cache.length cC) (val_mono _) (fun vs wq hg hd => by
                    simp [Region.binds] at hd
                    refine ⟨?_, ?_⟩
                    · simp [Region.wanted, yieldR]
                      (repeat (conv in rho _ _ _ _ (Operand.tmp _) => whnf))
                      first | (simp [hd]; done) | (simp [hd]; omega)
                    · simp only [Does]
                      simp only [execOp, resolve, Option.map_some, Option.map_none, List.map_toArray, List.map_cons, List.map_nil, rho_const, rho_func]
                      (repeat (conv in rho _ _ _ _ (Operand.tmp _) => whnf))
                      (try simp only [hd])
                      have q0 := hg.cell c_D_1
                      go_simp
                      (repeat (conv in rho _ _ _ _ (Operand.tmp _) => whnf))
                      first | exact Grows.refl _ | exact ⟨Grows.refl _, rfl⟩ | (refine ⟨Grows.refl _, ?_⟩; simp [hd]; done) | (refine ⟨Grows.refl _, ?_⟩; simp [hd]; omega) | (refine ⟨Grows.refl _, ?_⟩; simp; omega)) ?_
                  refine free_guarded (fun v_ _ => v_ = .int .i64 q) (val_mono _) (fun vs wq hg hd => by
                    simp [Region.binds] at hd
                    refine ⟨?_, ?_⟩
                    · simp [Region.wanted, yieldR]
                      (repeat (conv in rho _ _ _ _ (Operand.tmp _) => whnf))
                      first | (simp [hd]; done) | (simp [hd]; omega)
                    · simp only [Does]
                      simp only [execOp, resolve, Option.map_some, Option.map_none, List.map_toArray, List.map_cons, List.map_nil, rho_const, rho_func]
                      (repeat (conv in rho _ _ _ _ (Operand.tmp _) => whnf))
                      (try simp only [hd])
                      go_simp
                      (repeat (conv in rho _ _ _ _ (Operand.tmp _) => whnf))
                      first | exact Grows.refl _ | exact ⟨Grows.refl _, rfl⟩ | (refine ⟨Grows.refl _, ?_⟩; simp [hd]; done) | (refine ⟨Grows.refl _, ?_⟩; simp [hd]; omega) | (refine ⟨Grows.refl _, ?_⟩; simp; omega)) ?_
                  refine free_guarded (fun v_ _ => v_ = .pointer (some ⟨gC, oC + q * 257, none⟩)) (val_mono _) (fun vs wq hg hd => by
                    simp [Region.binds] at hd
                    refine ⟨?_, ?_⟩
                    · simp [Region.wanted, yieldR]
                      (repeat (conv in rho _ _ _ _ (Operand.tmp _) => whnf))
                      first | (simp [hd]; done) | (simp [hd]; omega)
                    · simp only [Does]
                      simp only [execOp, resolve, Option.map_some, Option.map_none, List.map_toArray, List.map_cons, List.map_nil, rho_const, rho_func]
                      (repeat (conv in rho _ _ _ _ (Operand.tmp _) => whnf))
                      (try simp only [hd])
                      go_simp
                      (repeat (conv in rho _ _ _ _ (Operand.tmp _) => whnf))
                      first | exact Grows.refl _ | exact ⟨Grows.refl _, rfl⟩ | (refine ⟨Grows.refl _, ?_⟩; simp [hd]; done) | (refine ⟨Grows.refl _, ?_⟩; simp [hd]; omega) | (refine ⟨Grows.refl _, ?_⟩; simp; omega)) ?_
                  refine free_guarded (fun v_ _ => v_ = .pointer (some ⟨gC, oC + q * 257, none⟩)) (val_mono _) (fun vs wq hg hd => by
                    simp [Region.binds] at hd
                    refine ⟨?_, ?_⟩
                    · simp [Region.wanted, yieldR]
                      (repeat (conv in rho _ _ _ _ (Operand.tmp _) => whnf))
                      first | (simp [hd]; done) | (simp [hd]; omega)
                    · simp only [Does]
                      simp only [execOp, resolve, Option.map_some, Option.map_none, List.map_toArray, List.map_cons, List.map_nil, rho_const, rho_func]
                      (repeat (conv in rho _ _ _ _ (Operand.tmp _) => whnf))
                      (try simp only [hd])
                      go_simp
                      (repeat (conv in rho _ _ _ _ (Operand.tmp _) => whnf))
                      first | exact Grows.refl _ | exact ⟨Grows.refl _, rfl⟩ | (refine ⟨Grows.refl _, ?_⟩; simp [hd]; done) | (refine ⟨Grows.refl _, ?_⟩; simp [hd]; omega) | (refine ⟨Grows.refl _, ?_⟩; simp; omega)) ?_
                  refine free_guarded (fun v_ _ => v_ = .int .i64 x.1) (val_mono _) (fun vs wq hg hd => by
                    simp [Region.binds] at hd
                    refine ⟨?_, ?_⟩
                    · simp [Region.wanted, yieldR]
                      (repeat (conv in rho _ _ _ _ (Operand.tmp _) => whnf))
                      first | (simp [hd]; done) | (simp [hd]; omega)
                    · simp only [Does]
                      simp only [execOp, resolve, Option.map_some, Option.map_none, List.map_toArray, List.map_cons, List.map_nil, rho_const, rho_func]
                      (repeat (conv in rho _ _ _ _ (Operand.tmp _) => whnf))
                      (try simp only [hd])
                      have q0 := hg.cell c_at
                      go_simp
                      (repeat (conv in rho _ _ _ _ (Operand.tmp _) => whnf))
                      first | exact Grows.refl _ | exact ⟨Grows.refl _, rfl⟩ | (refine ⟨Grows.refl _, ?_⟩; simp [hd]; done) | (refine ⟨Grows.refl _, ?_⟩; simp [hd]; omega) | (refine ⟨Grows.refl _, ?_⟩; simp; omega)) ?_
                  refine free_guarded (fun v_ _ => v_ = .pointer (some ⟨w.heap.size, 0, none⟩)) (val_mono _) (fun vs wq hg hd => by
                    simp [Region.binds] at hd
                    refine ⟨?_, ?_⟩
                    · simp [Region.wanted, yieldR]
                      (repeat (conv in rho _ _ _ _ (Operand.tmp _) => whnf))
                      first | (simp [hd]; done) | (simp [hd]; omega)
                    · simp only [Does]
                      simp only [execOp, resolve, Option.map_some, Option.map_none, List.map_toArray, List.map_cons, List.map_nil, rho_const, rho_func]
                      (repeat (conv in rho _ _ _ _ (Operand.tmp _) => whnf))
                      (try simp only [hd])
                      go_simp
                      (repeat (conv in rho _ _ _ _ (Operand.tmp _) => whnf))
                      first | exact Grows.refl _ | exact ⟨Grows.refl _, rfl⟩ | (refine ⟨Grows.refl _, ?_⟩; simp [hd]; done) | (refine ⟨Grows.refl _, ?_⟩; simp [hd]; omega) | (refine ⟨Grows.refl _, ?_⟩; simp; omega)) ?_
                  refine free_guarded (fun v_ _ => v_ = .slice AP d.pages.length cP) (val_mono _) (fun vs wq hg hd => by
                    simp [Region.binds] at hd
                    refine ⟨?_, ?_⟩
                    · simp [Region.wanted, yieldR]
                      (repeat (conv in rho _ _ _ _ (Operand.tmp _) => whnf))
                      first | (simp [hd]; done) | (simp [hd]; omega)
                    · simp only [Does]
                      simp only [execOp, resolve, Option.map_some, Option.map_none, List.map_toArray, List.map_cons, List.map_nil, rho_const, rho_func]
                      (repeat (conv in rho _ _ _ _ (Operand.tmp _) => whnf))
                      (try simp only [hd])
                      have q0 := hg.cell c_D_0
                      go_simp
                      (repeat (conv in rho _ _ _ _ (Operand.tmp _) => whnf))
                      first | exact Grows.refl _ | exact ⟨Grows.refl _, rfl⟩ | (refine ⟨Grows.refl _, ?_⟩; simp [hd]; done) | (refine ⟨Grows.refl _, ?_⟩; simp [hd]; omega) | (refine ⟨Grows.refl _, ?_⟩; simp; omega)) ?_
                  refine free_guarded (fun v_ _ => v_ = .int .i64 d.pages.length) (val_mono _) (fun vs wq hg hd => by
                    simp [Region.binds] at hd
                    refine ⟨?_, ?_⟩
                    · simp [Region.wanted, yieldR]
                      (repeat (conv in rho _ _ _ _ (Operand.tmp _) => whnf))
                      first | (simp [hd]; done) | (simp [hd]; omega)
                    · simp only [Does]
                      simp only [execOp, resolve, Option.map_some, Option.map_none, List.map_toArray, List.map_cons, List.map_nil, rho_const, rho_func]
                      (repeat (conv in rho _ _ _ _ (Operand.tmp _) => whnf))
                      (try simp only [hd])
                      go_simp
                      (repeat (conv in rho _ _ _ _ (Operand.tmp _) => whnf))
                      first | exact Grows.refl _ | exact ⟨Grows.refl _, rfl⟩ | (refine ⟨Grows.refl _, ?_⟩; simp [hd]; done) | (refine ⟨Grows.refl _, ?_⟩; simp [hd]; omega) | (refine ⟨Grows.refl _, ?_⟩; simp; omega)) ?_
                  refine free_guarded (fun v_ _ => v_ = .bool false) (val_mono _) (fun vs wq hg hd => by
                    simp [Region.binds] at hd
                    refine ⟨?_, ?_⟩
                    · simp [Region.wanted, yieldR]
                      (repeat (conv in rho _ _ _ _ (Operand.tmp _) => whnf))
                      first | (simp [hd]; done) | (simp [hd]; omega)
                    · simp only [Does]
                      simp only [execOp, resolve, Option.map_some, Option.map_none, List.map_toArray, List.map_cons, List.map_nil, rho_const, rho_func]
                      (repeat (conv in rho _ _ _ _ (Operand.tmp _) => whnf))
                      (try simp only [hd])
                      go_simp
                      (repeat (conv in rho _ _ _ _ (Operand.tmp _) => whnf))
                      first | exact Grows.refl _ | exact ⟨Grows.refl _, rfl⟩ | (refine ⟨Grows.refl _, ?_⟩; simp [hd]; done) | (refine ⟨Grows.refl _, ?_⟩; simp [hd]; omega) | (refine ⟨Grows.refl _, ?_⟩; simp; omega)) ?_
                  refine free_op (fun v_ _ => v_ = .bool false) rfl (val_mono _) (fun vs wq hg hd => by
                    (try simp [Region.binds] at hd); simp only [Does]; simp only [execOp, resolve, Option.map_some, Option.map_none, List.map_toArray, List.map_cons, List.map_nil, rho_const, rho_func]; (repeat (conv in rho _ _ _ _ (Operand.tmp _) => whnf)); (try simp only [hd]); go_simp; (repeat (conv in rho _ _ _ _ (Operand.tmp _) => whnf))
                    first | exact Grows.refl _ | exact ⟨Grows.refl _, rfl⟩ | (refine ⟨Grows.refl _, ?_⟩; simp [hd]; done) | (refine ⟨Grows.refl _, ?_⟩; simp [hd]; omega) | (refine ⟨Grows.refl _, ?_⟩; simp; omega)) ?_
                  intro vs w' hg hv; have h18 := hv 18 (by omega); simp at h18; simp only [putL, dstAt, List.range, List.range.loop, if_true, List.getElem?_toArray, List.getElem?_cons_zero, List.getElem?_cons_succ, Option.bind_some, Act.put, List.setIfInBounds_toArray, List.set_cons_zero, List.set_cons_succ]
                  rw [h18]
                  have HGN := Lib.hid (show Grows wr w' from Grows.of_drew hg)
                  clear hv h18 hg c_D_0 c_D_1 c_at
                  generalize vs 0 = z0, vs 1 = z1, vs 2 = z2, vs 3 = z3, vs 4 = z4, vs 5 = z5, vs 6 = z6, vs 7 = z7, vs 8 = z8, vs 9 = z9, vs 10 = z10, vs 11 = z11, vs 12 = z12, vs 13 = z13, vs 14 = z14, vs 15 = z15, vs 16 = z16, vs 17 = z17, vs 18 = z18 at *
                  go_wp2
                  go_roundw
                  case rel => exact ⟨q + 1, by omega, by go_num, J3.out.trans HGN.out⟩
                  case measure => simp [intOf]; omega
                · have hlti : ¬ (q : Int) < d.cache.length := by omega
                  have ZW := Lib.hid (Row.lt JE.out)
                  clear c_D_0
                  go_wp2_with (first
                    | ((with_reducible refine wpList_load_dk (o := ⟨some 175, _, _, _, _, _⟩) ?_ (.tmp 2) ?_ w.heap.size D ?_ ?_ ?_ ?_); exact rfl; exact rfl; exact rfl; exact JE.out; exact Ds.out.1)
                    | (go_at_call 21; (with_reducible refine (FL.out _ (HVD.out _ J3.out)).mono ?_); rintro e zu1 ⟨r, rfl, hr, g⟩; obtain ⟨pvF, cvF, bvF, rfl, o1, o2, o3⟩ := hr; have hoc : OwnDisk wc.heap.size zu1 (.agg #[pvF, cvF, bvF, .bool dfl.off]) dfl := (OwnDisk.more ⟨_, _, _, rfl, o1, o2, o3⟩ (J3.out).size); have H4F := Lib.hid (dk_one hoc.disk); clear o1 o2 o3; have Zz0 := Lib.hid (Below.size g); have R_D_z1 := Lib.hid (Row.grows JE.out g); have G_z1 := Lib.hid ((J3.out).trans g); have O_oF_new := Lib.hid (hoc); clear g)
                    | ((with_reducible refine wpList_store_dk ?_ (.tmp 13) (.tmp 177) ?_ zu1.heap.size #[pvF, cvF, bvF, .bool dfl.off] #[.slice none 0 0, .slice none 0 0, .slice none 0 0, .bool false] ?_ ?_ ?_ ?_ ?_ ?_ ?_); exact rfl; exact rfl; exact rfl; exact rfl; exact H4F.out.1; exact rfl; exact H4F.out.2; exact Row.new zu1 _ _; intro zu2 hp hg; have g := grown_fresh rfl hg; have R_D_z2 := Lib.hid (Row.grows R_D_z1.out g); have O_oF_z2 := Lib.hid (O_oF_new.out.grows g); have G_z2 := Lib.hid ((G_z1.out).trans g); have R_F_new := Lib.hid hp; have Zz1 := Lib.hid (Row.lt hp); have Zz2 := Lib.hid (Below.size g); clear hp hg g))
                  by_cases h0 : fe = 0
                  case pos =>
                    have hso := HSO.out h0
                    subst h0
                    subst hso
                    refine wp_region_free 12 191 (by kernel_rfl) (by kernel_rfl) rfl (by kernel_rfl) ?_; simp only [List.take_succ_cons, List.take_zero, List.drop_succ_cons, List.drop_zero]
                    refine free_op (fun v_ _ => v_ = .int .i64 0) rfl (val_mono _) (fun vs wq hg hd => by
                      (try simp [Region.binds] at hd); simp only [Does]; simp only [execOp, resolve, Option.map_some, Option.map_none, List.map_toArray, List.map_cons, List.map_nil, rho_const, rho_func]; (repeat (conv in rho _ _ _ _ (Operand.tmp _) => whnf)); (try simp only [hd]); go_simp; (repeat (conv in rho _ _ _ _ (Operand.tmp _) => whnf))
                      first | exact Grows.refl _ | exact ⟨Grows.refl _, rfl⟩ | (refine ⟨Grows.refl _, ?_⟩; simp [hd]; done) | (refine ⟨Grows.refl _, ?_⟩; simp [hd]; omega) | (refine ⟨Grows.refl _, ?_⟩; simp; omega)) ?_
                    refine free_op (fun v_ _ => v_ = .bool false) rfl (val_mono _) (fun vs wq hg hd => by
                      (try simp [Region.binds] at hd); simp only [Does]; simp only [execOp, resolve, Option.map_some, Option.map_none, List.map_toArray, List.map_cons, List.map_nil, rho_const, rho_func]; (repeat (conv in rho _ _ _ _ (Operand.tmp _) => whnf)); (try simp only [hd]); go_simp; (repeat (conv in rho _ _ _ _ (Operand.tmp _) => whnf))
                      first | exact Grows.refl _ | exact ⟨Grows.refl _, rfl⟩ | (refine ⟨Grows.refl _, ?_⟩; simp [hd]; done) | (refine ⟨Grows.refl _, ?_⟩; simp [hd]; omega) | (refine ⟨Grows.refl _, ?_⟩; simp; omega)) ?_
                    refine free_op (fun v_ _ => v_ = .bool false) rfl (val_mono _) (fun vs wq hg hd => by
                      (try simp [Region.binds] at hd); simp only [Does]; simp only [execOp, resolve, Option.map_some, Option.map_none, List.map_toArray, List.map_cons, List.map_nil, rho_const, rho_func]; (repeat (conv in rho _ _ _ _ (Operand.tmp _) => whnf)); (try simp only [hd]); go_simp; (repeat (conv in rho _ _ _ _ (Operand.tmp _) => whnf))
                      first | exact Grows.refl _ | exact ⟨Grows.refl _, rfl⟩ | (refine ⟨Grows.refl _, ?_⟩; simp [hd]; done) | (refine ⟨Grows.refl _, ?_⟩; simp [hd]; omega) | (refine ⟨Grows.refl _, ?_⟩; simp; omega)) ?_
                    refine free_guarded (fun v_ _ => v_ = .agg D) (val_mono _) (fun vs wq hg hd => by
                      simp [Region.binds] at hd
                      refine ⟨?_, ?_⟩
                      · simp [Region.wanted, yieldR]
                        (repeat (conv in rho _ _ _ _ (Operand.tmp _) => whnf))
                        first | (simp [hd]; done) | (simp [hd]; omega)
                      · exact does_load 26 (.tmp 2) ⟨w.heap.size, 0, none⟩ _ rfl (by first | rfl | (conv => lhs; whnf)) (dk_run_load Ds.out.1 ((R_D_z2.out).grows (Grows.of_drew hg))) ⟨Grows.refl _, rfl⟩) ?_
                    refine free_guarded (fun v_ _ => v_ = .slice (some ⟨wq.heap.size, 0, none⟩) d.cache.length d.cache.length) (val_mono _) (fun vs wq hg hd => by
                      simp [Region.binds] at hd
                      refine ⟨?_, ?_⟩
                      · simp [Region.wanted, yieldR]
                        (repeat (conv in rho _ _ _ _ (Operand.tmp _) => whnf))
                        simp [hd]
                      · simp only [Does]
                        simp only [execOp, resolve, Option.map_some, Option.map_none, List.map_toArray, List.map_cons, List.map_nil, rho_const, rho_func]
                        (repeat (conv in rho _ _ _ _ (Operand.tmp _) => whnf))
                        (try simp only [hd])
                        go_simp
                        (repeat (conv in rho _ _ _ _ (Operand.tmp _) => whnf))
                        first | exact Grows.refl _ | exact ⟨Grows.refl _, rfl⟩ | (refine ⟨Grows.refl _, ?_⟩; simp [hd]; done) | (refine ⟨Grows.refl _, ?_⟩; simp [hd]; omega) | (refine ⟨Grows.refl _, ?_⟩; simp; omega)) ?_
                    refine free_guarded (ADisk do1) (ADisk.mono _) (fun vs wq hg hd => by
                      simp [Region.binds] at hd
                      refine ⟨?_, ?_⟩
                      · simp [Region.wanted, yieldR]
                        (repeat (conv in rho _ _ _ _ (Operand.tmp _) => whnf))
                        simp [hd]
                      · simp only [Does]
                        simp only [execOp, resolve, Option.map_some, Option.map_none, List.map_toArray, List.map_cons, List.map_nil, rho_const, rho_func]
                        (repeat (conv in rho _ _ _ _ (Operand.tmp _) => whnf))
                        (try simp only [hd])
                        go_simp
                        (repeat (conv in rho _ _ _ _ (Operand.tmp _) => whnf))
                        exact (C2.out _ _ (HVD.out _ ((G_z2.out).trans (Grows.of_drew hg))) (HYG.out _ ((G_z2.out).trans (Grows.of_drew hg)))).mono fun e w' h => yieldsD h) ?_
                    refine free_guarded (fun v_ _ => v_ = .agg #[pvF, cvF, bvF, .bool do1.off]) (val_mono _) (fun vs wq hg hd => by
                      simp [Region.binds] at hd
                      refine ⟨?_, ?_⟩
                      · simp [Region.wanted, yieldR]
                        (repeat (conv in rho _ _ _ _ (Operand.tmp _) => whnf))
                        first | (simp [hd]; done) | (simp [hd]; omega)
                      · exact does_load 26 (.tmp 13) ⟨zu1.heap.size, 0, none⟩ _ rfl (by first | rfl | (conv => lhs; whnf)) (dk_run_load H4F.out.1 ((R_F_new.out).grows (Grows.of_drew hg))) ⟨Grows.refl _, rfl⟩) ?_
                    refine free_guarded (fun v_ _ => v_ = .bool true) (val_mono _) (fun vs wq hg hd => by
                      simp [Region.binds] at hd
                      refine ⟨?_, ?_⟩
                      · simp [Region.wanted, yieldR]
                        (repeat (conv in rho _ _ _ _ (Operand.tmp _) => whnf))
                        simp [hd]
                      · simp only [Does]
                        simp only [execOp, resolve, Option.map_some, Option.map_none, List.map_toArray, List.map_cons, List.map_nil, rho_const, rho_func]
                        (repeat (conv in rho _ _ _ _ (Operand.tmp _) => whnf))
                        (try simp only [hd])
                        go_simp
                        (repeat (conv in rho _ _ _ _ (Operand.tmp _) => whnf))
                        exact same_true hd.1.is ((O_oF_z2.out).disk.grows (Grows.of_drew hg))) ?_
                    refine free_op (fun v_ _ => v_ = .bool true) rfl (val_mono _) (fun vs wq hg hd => by
                      (try simp [Region.binds] at hd); simp only [Does]; simp only [execOp, resolve, Option.map_some, Option.map_none, List.map_toArray, List.map_cons, List.map_nil, rho_const, rho_func]; (repeat (conv in rho _ _ _ _ (Operand.tmp _) => whnf)); (try simp only [hd]); go_simp; (repeat (conv in rho _ _ _ _ (Operand.tmp _) => whnf))
                      first | exact Grows.refl _ | exact ⟨Grows.refl _, rfl⟩ | (refine ⟨Grows.refl _, ?_⟩; simp [hd]; done) | (refine ⟨Grows.refl _, ?_⟩; simp [hd]; omega) | (refine ⟨Grows.refl _, ?_⟩; simp; omega)) ?_
                    refine free_op (fun v_ _ => v_ = .bool true) rfl (val_mono _) (fun vs wq hg hd => by
                      (try simp [Region.binds] at hd); simp only [Does]; simp only [execOp, resolve, Option.map_some, Option.map_none, List.map_toArray, List.map_cons, List.map_nil, rho_const, rho_func]; (repeat (conv in rho _ _ _ _ (Operand.tmp _) => whnf)); (try simp only [hd]); go_simp; (repeat (conv in rho _ _ _ _ (Operand.tmp _) => whnf))
                      first | exact Grows.refl _ | exact ⟨Grows.refl _, rfl⟩ | (refine ⟨Grows.refl _, ?_⟩; simp [hd]; done) | (refine ⟨Grows.refl _, ?_⟩; simp [hd]; omega) | (refine ⟨Grows.refl _, ?_⟩; simp; omega)) ?_
                    refine free_guarded (fun v_ _ => v_ = .bool true) (val_mono _) (fun vs wq hg hd => by
                      simp [Region.binds] at hd
                      refine ⟨?_, ?_⟩
                      · simp [Region.wanted, yieldR]
                        (repeat (conv in rho _ _ _ _ (Operand.tmp _) => whnf))
                        simp [hd]
                      · simp only [Does]
                        simp only [execOp, resolve, Option.map_some, Option.map_none, List.map_toArray, List.map_cons, List.map_nil, rho_const, rho_func]
                        (repeat (conv in rho _ _ _ _ (Operand.tmp _) => whnf))
                        (try simp only [hd])
                        go_simp
                        (repeat (conv in rho _ _ _ _ (Operand.tmp _) => whnf))
                        exact wakes4_any _) ?_
                    refine free_op (fun v_ _ => v_ = .bool true) rfl (val_mono _) (fun vs wq hg hd => by
                      (try simp [Region.binds] at hd); simp only [Does]; simp only [execOp, resolve, Option.map_some, Option.map_none, List.map_toArray, List.map_cons, List.map_nil, rho_const, rho_func]; (repeat (conv in rho _ _ _ _ (Operand.tmp _) => whnf)); (try simp only [hd]); go_simp; (repeat (conv in rho _ _ _ _ (Operand.tmp _) => whnf))
                      first | exact Grows.refl _ | exact ⟨Grows.refl _, rfl⟩ | (refine ⟨Grows.refl _, ?_⟩; simp [hd]; done) | (refine ⟨Grows.refl _, ?_⟩; simp [hd]; omega) | (refine ⟨Grows.refl _, ?_⟩; simp; omega)) ?_
                    intro vs w' hg hv; have h11 := hv 11 (by omega); simp at h11; simp only [putL, dstAt, List.range, List.range.loop, if_true, List.getElem?_toArray, List.getElem?_cons_zero, List.getElem?_cons_succ, Option.bind_some, Act.put, List.setIfInBounds_toArray, List.set_cons_zero, List.set_cons_succ]
                    rw [h11]
                    have hgF := Lib.hid (GT.out.trans ((G_z2.out).trans (Grows.of_drew hg)))
                    clear hv h11 hg
                    generalize vs 0 = z0, vs 1 = z1, vs 2 = z2, vs 3 = z3, vs 4 = z4, vs 5 = z5, vs 6 = z6, vs 7 = z7, vs 8 = z8, vs 9 = z9, vs 10 = z10, vs 11 = z11 at *
                    go_wp2
                    go_ret
                    exact ⟨rfl, hgF.out⟩
                  case neg =>
                    refine wp_region_free 12 191 (by kernel_rfl) (by kernel_rfl) rfl (by kernel_rfl) ?_; simp only [List.take_succ_cons, List.take_zero, List.drop_succ_cons, List.drop_zero]
                    refine free_op (fun v_ _ => v_ = .int .i64 fe) rfl (val_mono _) (fun vs wq hg hd => by
                      (try simp [Region.binds] at hd); simp only [Does]; simp only [execOp, resolve, Option.map_some, Option.map_none, List.map_toArray, List.map_cons, List.map_nil, rho_const, rho_func]; (repeat (conv in rho _ _ _ _ (Operand.tmp _) => whnf)); (try simp only [hd]); go_simp; (repeat (conv in rho _ _ _ _ (Operand.tmp _) => whnf))
                      first | exact Grows.refl _ | exact ⟨Grows.refl _, rfl⟩ | (refine ⟨Grows.refl _, ?_⟩; simp [hd]; done) | (refine ⟨Grows.refl _, ?_⟩; simp [hd]; omega) | (refine ⟨Grows.refl _, ?_⟩; simp; omega)) ?_
                    refine free_op (fun v_ _ => v_ = .bool true) rfl (val_mono _) (fun vs wq hg hd => by
                      (try simp [Region.binds] at hd); simp only [Does]; simp only [execOp, resolve, Option.map_some, Option.map_none, List.map_toArray, List.map_cons, List.map_nil, rho_const, rho_func]; (repeat (conv in rho _ _ _ _ (Operand.tmp _) => whnf)); (try simp only [hd]); go_simp; (repeat (conv in rho _ _ _ _ (Operand.tmp _) => whnf))
                      first | exact Grows.refl _ | exact ⟨Grows.refl _, rfl⟩ | (refine ⟨Grows.refl _, ?_⟩; simp [hd]; done) | (refine ⟨Grows.refl _, ?_⟩; simp [hd]; omega) | (refine ⟨Grows.refl _, ?_⟩; simp; omega)) ?_
                    refine free_op (fun v_ _ => v_ = .bool true) rfl (val_mono _) (fun vs wq hg hd => by
                      (try simp [Region.binds] at hd); simp only [Does]; simp only [execOp, resolve, Option.map_some, Option.map_none, List.map_toArray, List.map_cons, List.map_nil, rho_const, rho_func]; (repeat (conv in rho _ _ _ _ (Operand.tmp _) => whnf)); (try simp only [hd]); go_simp; (repeat (conv in rho _ _ _ _ (Operand.tmp _) => whnf))
                      first | exact Grows.refl _ | exact ⟨Grows.refl _, rfl⟩ | (refine ⟨Grows.refl _, ?_⟩; simp [hd]; done) | (refine ⟨Grows.refl _, ?_⟩; simp [hd]; omega) | (refine ⟨Grows.refl _, ?_⟩; simp; omega)) ?_
                    refine free_passed (fun vs wq hg hd => by
                      simp [Region.binds] at hd
                      simp [Region.wanted, yieldR]
                      (repeat (conv in rho _ _ _ _ (Operand.tmp _) => whnf))
                      first | (simp [hd]; done) | (simp [hd]; omega)) ?_
                    refine free_passed (fun vs wq hg hd => by
                      simp [Region.binds] at hd
                      simp [Region.wanted, yieldR]
                      (repeat (conv in rho _ _ _ _ (Operand.tmp _) => whnf))
                      first | (simp [hd]; done) | (simp [hd]; omega)) ?_
                    refine free_passed (fun vs wq hg hd => by
                      simp [Region.binds] at hd
                      simp [Region.wanted, yieldR]
                      (repeat (conv in rho _ _ _ _ (Operand.tmp _) => whnf))
                      first | (simp [hd]; done) | (simp [hd]; omega)) ?_
                    refine free_passed (fun vs wq hg hd => by
                      simp [Region.binds] at hd
                      simp [Region.wanted, yieldR]
                      (repeat (conv in rho _ _ _ _ (Operand.tmp _) => whnf))
                      first | (simp [hd]; done) | (simp [hd]; omega)) ?_
                    refine free_passed (fun vs wq hg hd => by
                      simp [Region.binds] at hd
                      simp [Region.wanted, yieldR]
                      (repeat (conv in rho _ _ _ _ (Operand.tmp _) => whnf))
                      first | (simp [hd]; done) | (simp [hd]; omega)) ?_
                    refine free_op (fun v_ _ => v_ = .bool true) rfl (val_mono _) (fun vs wq hg hd => by
                      (try simp [Region.binds] at hd); simp only [Does]; simp only [execOp, resolve, Option.map_some, Option.map_none, List.map_toArray, List.map_cons, List.map_nil, rho_const, rho_func]; (repeat (conv in rho _ _ _ _ (Operand.tmp _) => whnf)); (try simp only [hd]); go_simp; (repeat (conv in rho _ _ _ _ (Operand.tmp _) => whnf))
                      first | exact Grows.refl _ | exact ⟨Grows.refl _, rfl⟩ | (refine ⟨Grows.refl _, ?_⟩; simp [hd]; done) | (refine ⟨Grows.refl _, ?_⟩; simp [hd]; omega) | (refine ⟨Grows.refl _, ?_⟩; simp; omega)) ?_
                    refine free_op (fun v_ _ => v_ = .bool true) rfl (val_mono _) (fun vs wq hg hd => by
                      (try simp [Region.binds] at hd); simp only [Does]; simp only [execOp, resolve, Option.map_some, Option.map_none, List.map_toArray, List.map_cons, List.map_nil, rho_const, rho_func]; (repeat (conv in rho _ _ _ _ (Operand.tmp _) => whnf)); (try simp only [hd]); go_simp; (repeat (conv in rho _ _ _ _ (Operand.tmp _) => whnf))
                      first | exact Grows.refl _ | exact ⟨Grows.refl _, rfl⟩ | (refine ⟨Grows.refl _, ?_⟩; simp [hd]; done) | (refine ⟨Grows.refl _, ?_⟩; simp [hd]; omega) | (refine ⟨Grows.refl _, ?_⟩; simp; omega)) ?_
                    refine free_guarded (fun v_ _ => v_ = .bool true) (val_mono _) (fun vs wq hg hd => by
                      simp [Region.binds] at hd
                      refine ⟨?_, ?_⟩
                      · simp [Region.wanted, yieldR]
                        (repeat (conv in rho _ _ _ _ (Operand.tmp _) => whnf))
                        first | (simp [hd]; done) | (simp [hd]; omega)
                      · simp only [Does]
                        simp only [execOp, resolve, Option.map_some, Option.map_none, List.map_toArray, List.map_cons, List.map_nil, rho_const, rho_func]
                        (repeat (conv in rho _ _ _ _ (Operand.tmp _) => whnf))
                        (try simp only [hd])
                        go_simp
                        (repeat (conv in rho _ _ _ _ (Operand.tmp _) => whnf))
                        exact wakes4_any _) ?_
                    refine free_op (fun v_ _ => v_ = .bool true) rfl (val_mono _) (fun vs wq hg hd => by
                      (try simp [Region.binds] at hd); simp only [Does]; simp only [execOp, resolve, Option.map_some, Option.map_none, List.map_toArray, List.map_cons, List.map_nil, rho_const, rho_func]; (repeat (conv in rho _ _ _ _ (Operand.tmp _) => whnf)); (try simp only [hd]); go_simp; (repeat (conv in rho _ _ _ _ (Operand.tmp _) => whnf))
                      first | exact Grows.refl _ | exact ⟨Grows.refl _, rfl⟩ | (refine ⟨Grows.refl _, ?_⟩; simp [hd]; done) | (refine ⟨Grows.refl _, ?_⟩; simp [hd]; omega) | (refine ⟨Grows.refl _, ?_⟩; simp; omega)) ?_
                    intro vs w' hg hv; have h11 := hv 11 (by omega); simp at h11; simp only [putL, dstAt, List.range, List.range.loop, if_true, List.getElem?_toArray, List.getElem?_cons_zero, List.getElem?_cons_succ, Option.bind_some, Act.put, List.setIfInBounds_toArray, List.set_cons_zero, List.set_cons_succ]
                    rw [h11]
                    have hgF := Lib.hid (GT.out.trans ((G_z2.out).trans (Grows.of_drew hg)))
                    clear hv h11 hg
                    generalize vs 0 = z0, vs 1 = z1, vs 2 = z2, vs 3 = z3, vs 4 = z4, vs 5 = z5, vs 6 = z6, vs 7 = z7, vs 8 = z8, vs 9 = z9, vs 10 = z10, vs 11 = z11 at *
                    go_wp2
                    go_ret
                    exact ⟨rfl, hgF.out⟩
end Go.Proofs.Ytiagmlokocpboaa
