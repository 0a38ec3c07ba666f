/- FlawBadAny -/
import Derived.Test.YtiagmlokocpboaaFlBadM
import Derived.Test.YtiagmlokocpboaaVdRead
import Derived.Test.YtiagmlokocpboaaVdWrite
import Derived.Test.YtiagmlokocpboaaVdMay
import Derived.Test.YtiagmlokocpboaaFlRef
/- FlawBad: a page that is spoiled cannot be read till it is written, whole or torn; bad pages rise. -/
namespace Go.Proofs.Ytiagmlokocpboaa
open Go.RowKit
set_option linter.unusedVariables false
set_option linter.unusedSimpArgs false
theorem one_byte (W : World) (y : BitVec 8) : Bytes (World.heap (W.alloc (.cells #[.int .u8 (bI y)] 5))).size (W.alloc (.cells #[.int .u8 (bI y)] 5)) (.slice (some ⟨W.heap.size, 0, none⟩) 1 1) [y] := by
  have := Bytes.one W y
  rw [World.size_alloc]
  exact this
set_option maxRecDepth 100000 in
set_option maxHeartbeats 16000000 in
theorem flawBad_any (v : Value) (d : Dk) (n : Int) (p : Pg) (x : BitVec 8) (w : World) (hv : IsDisk w.heap.size w v d) (bn1 : -9223372036854775808 ≤ n) (bn2 : n ≤ 9223372036854775807) (hpl : p.length = 256) :
    Calls Try.prog 6 #[v, .int .i64 n, .agg (pgA p), .int .u8 (bI x)] w fun e w' => e = .returned (.bool true) ∧ Below w.heap.size w w' := by
  have HPl := Lib.hid hpl
  clear hpl
  have hzp := zero_pg
  have HV := Lib.hid hv
  obtain ⟨pv, cv, bv, rfl, hp, hc, hb⟩ := hv
  have HP := Lib.hid hp; have HC := Lib.hid hc; have HB := Lib.hid hb
  obtain ⟨AP, cP, rfl, p1, p2, p3⟩ := hp.form
  obtain ⟨AC, cC, rfl, q1, q2, q3⟩ := hc.form
  obtain ⟨AB, cB, rfl, b1, b2, b3⟩ := hb.ints
  have HPf := Lib.hid p3; have HCf := Lib.hid q3; have HBf := Lib.hid b3
  clear hp hc hb p3 q3 b3
  unfold maxLen at p2 q2 b2
  obtain ⟨D, hD⟩ : ∃ D, D = #[Value.slice AP d.pages.length cP, .slice AC d.cache.length cC, .slice AB d.bad.length cB, .bool d.off] := ⟨_, rfl⟩
  have Ds : Hid (D.size = 4 ∧ D[0]? = some (.slice AP d.pages.length cP) ∧ D[1]? = some (.slice AC d.cache.length cC) ∧ D[2]? = some (.slice AB d.bad.length cB) ∧ D[3]? = some (.bool d.off)) := by subst hD; exact ⟨rfl, rfl, rfl, rfl, rfl⟩
  have HDe := Lib.hid hD
  rw [← hD] at HV ⊢
  clear hD
  have R1 := Lib.hid ((Row.new w 26 D).alloc (.cells (pgA p) 40))
  have R2 : Hid (Row ((w.alloc (.cells D 26)).alloc (.cells (pgA p) 40)) (w.heap.size + 1) 40 (pgA p)) := by
    have := Row.new (w.alloc (.cells D 26)) 40 (pgA p)
    rwa [World.size_alloc] at this
  have HG := Lib.hid ((Grows.alloc w (.cells D 26)).trans (Grows.alloc _ (.cells (pgA p) 40)))
  have ZW0 : Hid (((w.alloc (.cells D 26)).alloc (.cells (pgA p) 40)).heap.size = w.heap.size + 2) := by unfold Hid; simp
  have HMy := Lib.hid (fun W (h : IsDisk (World.heap W).size W (.agg D) d) => rmay_any _ d W h)
  by_cases hm : VdM.may d = true
  case neg =>
    rw [Bool.eq_false_iff.2 hm] at HMy
    clear hm
    go_enter Try.func6, Try.ntmps6
    go_wp2_with (first
      | ((with_reducible refine wpList_load_dk (o := ⟨some 21, _, _, _, _, _⟩) ?_ (.tmp 4) ?_ w.heap.size D ?_ ?_ ?_ ?_); exact rfl; exact rfl; exact rfl; exact R1.out; exact Ds.out.1)
      | (go_at_call 23; (with_reducible refine (HMy.out _ (HV.out.grows HG.out)).mono ?_); rintro e ku1 ⟨rfl, g⟩; have Zk0 := Lib.hid (Below.size g); have R_D_k1 := Lib.hid (Row.grows R1.out g); have R_P_k1 := Lib.hid (Row.grows R2.out g); have G_k1 := Lib.hid ((HG.out).trans g); clear g)
      | (go_at_call 8; (with_reducible refine (wakes4_any _).mono ?_); rintro e ku2 ⟨rfl, g⟩; have Zk1 := Lib.hid (Below.size g); have R_D_k2 := Lib.hid (Row.grows R_D_k1.out g); have R_P_k2 := Lib.hid (Row.grows R_P_k1.out g); have G_k2 := Lib.hid ((G_k1.out).trans g); clear g))
    go_ret
    exact ⟨rfl, G_k2.out⟩
  rw [hm] at HMy
  by_cases ho : d.off = true
  case pos =>
    have Ds3 : Hid (D[3]? = some (.bool true)) := by have := Ds.out.2.2.2.2; rwa [ho] at this
    clear hm ho
    go_enter Try.func6, Try.ntmps6
    go_wp2_with (first
      | ((with_reducible refine wpList_load_dk (o := ⟨some 21, _, _, _, _, _⟩) ?_ (.tmp 4) ?_ w.heap.size D ?_ ?_ ?_ ?_); exact rfl; exact rfl; exact rfl; exact R1.out; exact Ds.out.1)
      | (go_at_call 23; (with_reducible refine (HMy.out _ (HV.out.grows HG.out)).mono ?_); rintro e ku1 ⟨rfl, g⟩; have Zk0 := Lib.hid (Below.size g); have R_D_k1 := Lib.hid (Row.grows R1.out g); have R_P_k1 := Lib.hid (Row.grows R2.out g); have G_k1 := Lib.hid ((HG.out).trans g); have c_D_3 : _ = some _ := (R_D_k1.out.cell 3).trans Ds3.out; clear g)
      | (go_at_call 8; (with_reducible refine (wakes4_any _).mono ?_); rintro e ku2 ⟨rfl, g⟩; have Zk1 := Lib.hid (Below.size g); have R_D_k2 := Lib.hid (Row.grows R_D_k1.out g); have R_P_k2 := Lib.hid (Row.grows R_P_k1.out g); have G_k2 := Lib.hid ((G_k1.out).trans g); have c_D_3 : _ = some _ := (R_D_k2.out.cell 3).trans Ds3.out; clear g))
    go_ret
    exact ⟨rfl, G_k2.out⟩
  have ho' : d.off = false := Bool.eq_false_iff.2 ho
  have Ds3 : Hid (D[3]? = some (.bool false)) := by have := Ds.out.2.2.2.2; rwa [ho'] at this
  clear ho
  by_cases hc0 : 0 < d.cache.length
  case pos =>
    have hc0i : (0 : Int) < d.cache.length := by omega
    clear hm ho'
    go_enter Try.func6, Try.ntmps6
    go_wp2_with (first
      | ((with_reducible refine wpList_load_dk (o := ⟨some 21, _, _, _, _, _⟩) ?_ (.tmp 4) ?_ w.heap.size D ?_ ?_ ?_ ?_); exact rfl; exact rfl; exact rfl; exact R1.out; exact Ds.out.1)
      | (go_at_call 23; (with_reducible refine (HMy.out _ (HV.out.grows HG.out)).mono ?_); rintro e ku1 ⟨rfl, g⟩; have Zk0 := Lib.hid (Below.size g); have R_D_k1 := Lib.hid (Row.grows R1.out g); have R_P_k1 := Lib.hid (Row.grows R2.out g); have G_k1 := Lib.hid ((HG.out).trans g); have c_D_3 : _ = some _ := (R_D_k1.out.cell 3).trans Ds3.out; have c_D_1 : _ = some _ := (R_D_k1.out.cell 1).trans Ds.out.2.2.1; clear g)
      | (go_at_call 8; (with_reducible refine (wakes4_any _).mono ?_); rintro e ku2 ⟨rfl, g⟩; have Zk1 := Lib.hid (Below.size g); have R_D_k2 := Lib.hid (Row.grows R_D_k1.out g); have R_P_k2 := Lib.hid (Row.grows R_P_k1.out g); have G_k2 := Lib.hid ((G_k1.out).trans g); have c_D_3 : _ = some _ := (R_D_k2.out.cell 3).trans Ds3.out; have c_D_1 : _ = some _ := (R_D_k2.out.cell 1).trans Ds.out.2.2.1; clear g))
    go_ret
    exact ⟨rfl, G_k2.out⟩
  have hc : d.cache = [] := List.length_eq_zero_iff.1 (by omega)
  have hc0i : ¬ (0 : Int) < d.cache.length := by omega
  have hmp := VdM.may_parts hm
  have HL : Hid (32 ≤ d.pages.length ∧ d.pages.length ≤ 256) := ⟨hmp.1, hmp.2.1⟩
  have HBL := Lib.hid (FlM.bad_len hm)
  obtain ⟨⟨ta, tb⟩, k, hk, e2⟩ := into' n d.pages.length (by omega)
  have hnz : ¬ ((d.pages.length : Int) = 0) := by omega
  have HPNE : Hid (¬ d.pages = []) := fun e => hnz (by rw [e]; rfl)
  have hw1 : IntKind.i64.wrap (n.tmod d.pages.length + d.pages.length) = n.tmod d.pages.length + d.pages.length := IntWalk.i64_in _ (by omega)
  have hw2 : (n.tmod d.pages.length + d.pages.length).tmod d.pages.length = k := by rw [Int.tmod_eq_emod_of_nonneg (by omega)]; exact e2
  have hw3 : n.tmod d.pages.length % (d.pages.length : Int) = k := by rw [← e2]; simp
  have hasc := ((VdM.mayB_iff _ _).1 hmp.2.2.2.2.2).1
  have E0 := FlM.badS_E hk
  have E1 := FlM.badS_twice hm hk
  have E2 := FlM.badS_read hm ho' hc hk
  have E3 := FlM.badS_write hm ho' hc hk p
  have E4 := FlM.badC_read hm ho' hc hk p x
  have ASC := FlM.badS_asc hm hk
  have hmS := FlM.badS_may hm hk
  have hbS := FlM.bad_len hmS
  have hdC : FlM.crashD (VdM.push (FlM.badS d k) k p) [x] = FlM.badC d k p x := rfl
  have hlS : (FlM.badS d k).pages.length = d.pages.length := rfl
  have hcS : (FlM.badS d k).cache.length = 0 := by show d.cache.length = 0; rw [hc]; rfl
  have hlW : (VdM.push (FlM.badS d k) k p).pages.length = d.pages.length := rfl
  have hcW : (VdM.push (FlM.badS d k) k p).cache.length = 1 := by show ((FlM.badS d k).cache ++ [_]).length = 1; rw [List.length_append, hcS]; rfl
  have hbW : (VdM.push (FlM.badS d k) k p).bad.length ≤ 256 := hbS
  have hpS : 0 < (FlM.badS d k).bad.length := List.length_pos_of_mem ((VdM.mem_ins _ (k : Int) _).2 (.inl rfl))
  have S1 := Lib.hid (fun W (h : IsDisk (World.heap W).size W (.agg D) d) => flspoil_any _ d k W h (by omega) (by omega) (by have := HBL.out; omega) hasc)
  rw [E0.1, E0.2] at S1
  have S2 := Lib.hid (fun W (v : Value) (h : IsDisk (World.heap W).size W v (FlM.badS d k)) => flspoil_any v (FlM.badS d k) k W h (by omega) (by omega) (by omega) ASC)
  rw [E1.1, E1.2] at S2
  have RD := Lib.hid (fun W (v : Value) (h : IsDisk (World.heap W).size W v (FlM.badS d k)) => rread_any v (FlM.badS d k) k W h)
  rw [E2] at RD
  have WR := Lib.hid (fun W (v : Value) (h : IsDisk (World.heap W).size W v (FlM.badS d k)) => rwrite_any v (FlM.badS d k) k p W HPl.out h (by omega) (by omega) (by omega))
  rw [E3.1, E3.2] at WR
  have CR := Lib.hid (fun W (v pv : Value) (h : IsDisk (World.heap W).size W v (VdM.push (FlM.badS d k) k p)) (hp : Bytes (World.heap W).size W pv [x]) => flcrash_any v pv (VdM.push (FlM.badS d k) k p) [x] W h hp (by omega) (by omega) (by omega) (by simp))
  rw [hdC] at CR
  have RC := Lib.hid (fun W (v : Value) (h : IsDisk (World.heap W).size W v (FlM.badC d k p x)) => rread_any v (FlM.badC d k p x) k W h)
  rw [E4] at RC
  have HL1 : Hid (∀ W v, IsDisk (World.heap W).size W v (FlM.badS d k) → (VdM.readP (FlM.badS d k) k).length = 256) := fun W v h => by
    obtain ⟨_, _, _, _, h1, h2, _⟩ := h
    exact VdM.readP_len h1.1 h2.1 _
  have HL2 : Hid (∀ W v, IsDisk (World.heap W).size W v (FlM.badC d k p x) → (VdM.readP (FlM.badC d k p x) k).length = 256) := fun W v h => by
    obtain ⟨_, _, _, _, h1, h2, _⟩ := h
    exact VdM.readP_len h1.1 h2.1 _
  have HASC := Lib.hid ((FlM.asc_step _).1 ASC)
  have HM := tmod3 x
  have HPS := Lib.hid hpS
  have HBS := Lib.hid hbS
  generalize VdM.readP (FlM.badC d k p x) k = rc at *
  generalize VdM.readP (FlM.badS d k) k = rp at *
  generalize FlM.badC d k p x = dc at *
  generalize VdM.push (FlM.badS d k) k p = dw at *
  generalize FlM.badS d k = ds at *
  clear E0 E1 E2 E3 E4 ASC hmS hbS hdC hlS hcS hlW hcW hbW hpS hm ho' hc hmp hasc e2
  go_enter Try.func6, Try.ntmps6
  go_wp2_with (first
    | ((with_reducible refine wpList_load_dk (o := ⟨some 21, _, _, _, _, _⟩) ?_ (.tmp 4) ?_ w.heap.size D ?_ ?_ ?_ ?_); exact rfl; exact rfl; exact rfl; exact R1.out; exact Ds.out.1)
    | (go_at_call 23; (with_reducible refine (HMy.out _ (HV.out.grows HG.out)).mono ?_); rintro e ku1 ⟨rfl, g⟩; have Zk0 := Lib.hid (Below.size g); have R_D_k1 := Lib.hid (Row.grows R1.out g); have R_P_k1 := Lib.hid (Row.grows R2.out g); have G_k1 := Lib.hid ((HG.out).trans g); have c_D_3 : _ = some _ := (R_D_k1.out.cell 3).trans Ds3.out; have c_D_1 : _ = some _ := (R_D_k1.out.cell 1).trans Ds.out.2.2.1; have c_D_0 : _ = some _ := (R_D_k1.out.cell 0).trans Ds.out.2.1; clear g))
  refine wp_region_free 13 131 (by kernel_rfl) (by kernel_rfl) rfl (by kernel_rfl) ?_; simp only [List.take_succ_cons, List.take_zero, List.drop_succ_cons, List.drop_zero]
  repeat (apply free_pure rfl; focus (intro vs w hg hd; have q0 := hg.cell c_D_0; (try simp [Region.binds] at hd); simp only [execOp, resolve, Option.map_some, Option.map_none, List.map_toArray, List.map_cons, List.map_nil, rho_const, rho_func]; (repeat (conv in rho _ _ _ _ (Operand.tmp _) => whnf)); (try simp only [hd]); go_simp; (repeat (conv in rho _ _ _ _ (Operand.tmp _) => whnf)); (try simp only [hd]); rfl))
  refine free_op (fun v_ _ => v_ = .int .i64 (n.tmod d.pages.length)) rfl (dk_mono _) (fun vs wq hg hd => by
    (try simp [Region.binds] at hd); simp only [Does]; simp only [execOp, resolve, Option.map_some, Option.map_none, List.map_toArray, List.map_cons, List.map_nil, rho_const, rho_func]; (repeat (conv in rho _ _ _ _ (Operand.tmp _) => whnf)); (try simp only [hd]); go_simp; (repeat (conv in rho _ _ _ _ (Operand.tmp _) => whnf))
    simp only [if_neg HPNE.out]
    exact ⟨Grows.refl _, by first | rfl | trivial⟩) ?_
  repeat (apply free_pure rfl; focus (intro vs w hg hd; have q0 := hg.cell c_D_0; (try simp [Region.binds] at hd); simp only [execOp, resolve, Option.map_some, Option.map_none, List.map_toArray, List.map_cons, List.map_nil, rho_const, rho_func]; (repeat (conv in rho _ _ _ _ (Operand.tmp _) => whnf)); (try simp only [hd]); go_simp; (repeat (conv in rho _ _ _ _ (Operand.tmp _) => whnf)); (try simp only [hd]); rfl))
  refine free_op (fun v_ _ => v_ = .int .i64 (k : Int)) rfl (dk_mono _) (fun vs wq hg hd => by
    (try simp [Region.binds] at hd); simp only [Does]; simp only [execOp, resolve, Option.map_some, Option.map_none, List.map_toArray, List.map_cons, List.map_nil, rho_const, rho_func]; (repeat (conv in rho _ _ _ _ (Operand.tmp _) => whnf)); (try simp only [hd]); go_simp; (repeat (conv in rho _ _ _ _ (Operand.tmp _) => whnf))
    simp only [if_neg HPNE.out]
    exact ⟨Grows.refl _, by first | rw [hw2] | simp [hw2] | simp [hw3]⟩) ?_
  intro vs w' hg hv; have h12 := hv 12 (by omega); simp at h12; simp only [putL, dstAt, List.range, List.range.loop, if_true, List.getElem?_toArray, List.getElem?_cons_zero, List.getElem?_cons_succ, Option.bind_some, Act.put, List.setIfInBounds_toArray, List.set_cons_zero, List.set_cons_succ]
  rw [h12]
  have hgW : Grows ku1 w' := Grows.of_drew hg
  have R_D_k2 := Lib.hid (Row.grows R_D_k1.out hgW)
  have R_P_k2 := Lib.hid (Row.grows R_P_k1.out hgW)
  have G_k2 := Lib.hid ((G_k1.out).trans hgW)
  clear hv h12 hg c_D_0 c_D_1 c_D_3 ta tb hw1 hw2 hw3 hnz
  generalize vs 0 = z0, vs 1 = z1, vs 2 = z2, vs 3 = z3, vs 4 = z4, vs 5 = z5, vs 6 = z6, vs 7 = z7, vs 8 = z8, vs 9 = z9, vs 10 = z10, vs 11 = z11, vs 12 = z12 at *
  go_wp2_with (first
    | ((with_reducible refine wpList_load_dk (o := ⟨some 49, _, _, _, _, _⟩) ?_ (.tmp 4) ?_ w.heap.size D ?_ ?_ ?_ ?_); exact rfl; exact rfl; exact rfl; exact R_D_k2.out; exact Ds.out.1)
    | (go_at_call 11; (with_reducible refine (S1.out _ (HV.out.grows G_k2.out)).mono ?_); rintro e ku2 ⟨r, rfl, hr, g⟩; obtain ⟨pvS, cvS, bvS, rfl, o1, o2, o3⟩ := hr; obtain ⟨GS, cbS, rfl, _, _, _, _⟩ := o3.at_zero HPS.out; have hoc : OwnDisk w.heap.size ku2 (.agg #[pvS, cvS, .slice (some ⟨GS, 0, none⟩) ds.bad.length cbS, .bool ds.off]) ds := (OwnDisk.more ⟨_, _, _, rfl, o1, o2, o3⟩ (G_k2.out).size); have H4S := Lib.hid (dk_one hoc.disk); clear o1 o2 o3; have Zk1 := Lib.hid (Below.size g); have R_D_k3 := Lib.hid (Row.grows R_D_k2.out g); have R_P_k3 := Lib.hid (Row.grows R_P_k2.out g); have G_k3 := Lib.hid ((G_k2.out).trans g); have O_oS_new := Lib.hid (hoc); clear g)
    | ((with_reducible refine wpList_store_dk ?_ (.tmp 9) (.tmp 52) ?_ ku2.heap.size #[pvS, cvS, .slice (some ⟨GS, 0, none⟩) ds.bad.length cbS, .bool ds.off] #[.slice none 0 0, .slice none 0 0, .slice none 0 0, .bool false] ?_ ?_ ?_ ?_ ?_ ?_ ?_); exact rfl; exact rfl; exact rfl; exact rfl; exact H4S.out.1; exact rfl; exact H4S.out.2; exact Row.new ku2 _ _; intro ku3 hp hg; have g := grown_fresh rfl hg; have R_D_k4 := Lib.hid (Row.grows R_D_k3.out g); have R_P_k4 := Lib.hid (Row.grows R_P_k3.out g); have O_oS_k4 := Lib.hid (O_oS_new.out.grows g); have G_k4 := Lib.hid ((G_k3.out).trans g); have R_S_new := Lib.hid hp; have Zk2 := Lib.hid (Row.lt hp); have Zk3 := Lib.hid (Below.size g); clear hp hg g)
    | ((with_reducible refine wpList_load_dk (o := ⟨some 55, _, _, _, _, _⟩) ?_ (.tmp 9) ?_ ku2.heap.size #[pvS, cvS, .slice (some ⟨GS, 0, none⟩) ds.bad.length cbS, .bool ds.off] ?_ ?_ ?_ ?_); exact rfl; exact rfl; exact rfl; exact R_S_new.out; exact rfl)
    | (go_at_call 11; (with_reducible refine (S2.out _ _ O_oS_k4.out.disk).mono ?_); rintro e ku4 ⟨r, rfl, hr, g⟩; obtain ⟨pvT, cvT, bvT, rfl, o1, o2, o3⟩ := hr; have hoc : OwnDisk w.heap.size ku4 (.agg #[pvT, cvT, bvT, .bool ds.off]) ds := (OwnDisk.more ⟨_, _, _, rfl, o1, o2, o3⟩ (G_k4.out).size); have H4T := Lib.hid (dk_one hoc.disk); clear o1 o2 o3; have Zk4 := Lib.hid (Below.size g); have R_D_k5 := Lib.hid (Row.grows R_D_k4.out g); have R_P_k5 := Lib.hid (Row.grows R_P_k4.out g); have R_S_k5 := Lib.hid (Row.grows R_S_new.out g); have O_oS_k5 := Lib.hid (O_oS_k4.out.grows g); have G_k5 := Lib.hid ((G_k4.out).trans g); have O_oT_new := Lib.hid (hoc); clear g)
    | ((with_reducible refine wpList_store_dk ?_ (.tmp 11) (.tmp 58) ?_ ku4.heap.size #[pvT, cvT, bvT, .bool ds.off] #[.slice none 0 0, .slice none 0 0, .slice none 0 0, .bool false] ?_ ?_ ?_ ?_ ?_ ?_ ?_); exact rfl; exact rfl; exact rfl; exact rfl; exact H4T.out.1; exact rfl; exact H4T.out.2; exact Row.new ku4 _ _; intro ku5 hp hg; have g := grown_fresh rfl hg; have R_D_k6 := Lib.hid (Row.grows R_D_k5.out g); have R_P_k6 := Lib.hid (Row.grows R_P_k5.out g); have R_S_k6 := Lib.hid (Row.grows R_S_k5.out g); have O_oS_k6 := Lib.hid (O_oS_k5.out.grows g); have O_oT_k6 := Lib.hid (O_oT_new.out.grows g); have G_k6 := Lib.hid ((G_k5.out).trans g); have R_T_new := Lib.hid hp; have Zk5 := Lib.hid (Row.lt hp); have Zk6 := Lib.hid (Below.size g); clear hp hg g)
    | ((with_reducible refine wpList_loadG_dk (o := ⟨some 67, _, _, _, _, _⟩) ?_ (.tmp 9) ?_ ku2.heap.size #[pvS, cvS, .slice (some ⟨GS, 0, none⟩) ds.bad.length cbS, .bool ds.off] ?_ ?_ ?_ ?_); exact rfl; exact rfl; exact rfl; exact R_S_k6.out; exact rfl)
    | ((with_reducible refine wpList_loadG_dk (o := ⟨some 68, _, _, _, _, _⟩) ?_ (.tmp 11) ?_ ku4.heap.size #[pvT, cvT, bvT, .bool ds.off] ?_ ?_ ?_ ?_); exact rfl; exact rfl; exact rfl; exact R_T_new.out; exact H4T.out.1)
    | (go_at_call 13; (with_reducible refine (same_true (O_oS_k6.out.disk) (O_oT_k6.out.disk)).mono ?_); rintro e ku6 ⟨rfl, g⟩; have Zk7 := Lib.hid (Below.size g); have R_D_k7 := Lib.hid (Row.grows R_D_k6.out g); have R_P_k7 := Lib.hid (Row.grows R_P_k6.out g); have R_S_k7 := Lib.hid (Row.grows R_S_k6.out g); have R_T_k7 := Lib.hid (Row.grows R_T_new.out g); have O_oS_k7 := Lib.hid (O_oS_k6.out.grows g); have O_oT_k7 := Lib.hid (O_oT_k6.out.grows g); have G_k7 := Lib.hid ((G_k6.out).trans g); have c_S_2 : _ = some _ := (R_S_k7.out.cell 2); clear g))
  clear c_S_2
  go_loopw [13] (fun i wr => ∃ q : Nat, 1 ≤ q ∧ q ≤ ds.bad.length ∧ i = .int .i64 q ∧ Grows ku6 wr) (fun i _ => ds.bad.length - (intOf i).toNat)
  case atStart => exact ⟨1, Nat.le_refl _, HPS.out, rfl, Grows.refl _⟩
  case round =>
    obtain ⟨q, hq1, hq2, rfl, hgr⟩ := hrel
    have HGR := Lib.hid hgr
    have R_D_m1 := Lib.hid (Row.grows R_D_k7.out hgr)
    have R_P_m1 := Lib.hid (Row.grows R_P_k7.out hgr)
    have R_S_m1 := Lib.hid (Row.grows R_S_k7.out hgr)
    have O_oS_m1 := Lib.hid (O_oS_k7.out.grows hgr)
    have G_m1 := Lib.hid ((G_k7.out).trans hgr)
    clear hgr
    have c_S_2 : _ = some _ := R_S_m1.out.cell 2
    have hb6 : ds.bad.length ≤ 256 := HBS.out
    by_cases hlt : q < ds.bad.length
    · have hlti : (q : Int) < ds.bad.length := by omega
      obtain ⟨m, hm⟩ : ∃ m, q = m + 1 := ⟨q - 1, by omega⟩
      have hw1 : IntKind.i64.wrap ((q : Int) - 1) = (m : Int) := by rw [hm, Int.natCast_add, Int.natCast_one, Int.add_sub_cancel]; exact IntWalk.i64_in _ (by omega)
      have hml : m < ds.bad.length := by omega
      have hmi : (m : Int) < ds.bad.length := by omega
      have hxy : ds.bad[m]'hml < ds.bad[q]'hlt := by
        clear hw1
        subst hm
        exact HASC.out m hlt
      have hc1 := (O_oS_m1.out).bads.int_cell m _ (List.getElem?_eq_getElem hml)
      have hc2 := (O_oS_m1.out).bads.int_cell q _ (List.getElem?_eq_getElem hlt)
      generalize ds.bad[m] = y1 at *
      generalize ds.bad[q] = y2 at *
      clear hm
      have hxy' : ¬ y1 ≥ y2 := by omega
      have hxy2 : ¬ y2 ≤ y1 := by omega
      go_wp2
      refine wp_region_free 12 131 (by kernel_rfl) (by kernel_rfl) rfl (by kernel_rfl) ?_; simp only [List.take_succ_cons, List.take_zero, List.drop_succ_cons, List.drop_zero]
      repeat (apply free_pure rfl; focus (intro vs w hg hd; have q0 := hg.cell c_S_2; have q1 := hg.cell hc1; have q2 := hg.cell hc2; (try simp [Region.binds] at hd); simp only [execOp, resolve, Option.map_some, Option.map_none, List.map_toArray, List.map_cons, List.map_nil, rho_const, rho_func]; (repeat (conv in rho _ _ _ _ (Operand.tmp _) => whnf)); (try simp only [hd]); go_simp; (repeat (conv in rho _ _ _ _ (Operand.tmp _) => whnf)); (try simp only [hd]); rfl))
      intro vs w' hg hv; have h11 := hv 11 (by omega); simp at h11; simp only [putL, dstAt, List.range, List.range.loop, if_true, List.getElem?_toArray, List.getElem?_cons_zero, List.getElem?_cons_succ, Option.bind_some, Act.put, List.setIfInBounds_toArray, List.set_cons_zero, List.set_cons_succ]
      rw [h11]
      have hgW : Grows wr w' := Grows.of_drew hg
      have HGN := Lib.hid (hgW)
      clear hv h11 hg c_S_2 hc1 hc2
      generalize vs 0 = z0, vs 1 = z1, vs 2 = z2, vs 3 = z3, vs 4 = z4, vs 5 = z5, vs 6 = z6, vs 7 = z7, vs 8 = z8, vs 9 = z9, vs 10 = z10, vs 11 = z11 at *
      go_wp2
      go_roundw
      case rel => exact ⟨q + 1, by omega, by omega, by go_num, (HGR.out).trans HGN.out⟩
      case measure => simp [intOf]; omega
    · have hlti : ¬ (q : Int) < ds.bad.length := by omega
      by_cases hx : x.toNat % 3 = 0
      · rw [if_pos hx] at RC
        rw [hx] at HM
        go_wp2_with (first
          | ((with_reducible refine wpList_load_dk (o := ⟨some 92, _, _, _, _, _⟩) ?_ (.tmp 9) ?_ ku2.heap.size #[pvS, cvS, .slice (some ⟨GS, 0, none⟩) ds.bad.length cbS, .bool ds.off] ?_ ?_ ?_ ?_); exact rfl; exact rfl; exact rfl; exact R_S_m1.out; exact rfl)
          | (go_at_call 24; (with_reducible refine (RD.out _ _ O_oS_m1.out.disk).mono ?_); rintro e mu1 ⟨rfl, g⟩; have Zm8 := Lib.hid (Below.size g); have R_D_m2 := Lib.hid (Row.grows R_D_m1.out g); have R_P_m2 := Lib.hid (Row.grows R_P_m1.out g); have R_S_m2 := Lib.hid (Row.grows R_S_m1.out g); have O_oS_m2 := Lib.hid (O_oS_m1.out.grows g); have G_m2 := Lib.hid ((G_m1.out).trans g); have c_S_2 : _ = some _ := (R_S_m2.out.cell 2); clear g)
          | ((with_reducible refine wpList_store_pgrow ?_ (.tmp 14) (.tmp 95) ?_ mu1.heap.size rp VdM.blank ?_ ?_ ?_ ?_ ?_ ?_); exact rfl; exact rfl; exact rfl; exact rfl; exact (HL1.out _ _ O_oS_m2.out.disk); exact blank_len; exact Row.new mu1 _ _; intro mu2 hp hg; have g := grown_fresh rfl hg; have R_D_m3 := Lib.hid (Row.grows R_D_m2.out g); have R_P_m3 := Lib.hid (Row.grows R_P_m2.out g); have R_S_m3 := Lib.hid (Row.grows R_S_m2.out g); have O_oS_m3 := Lib.hid (O_oS_m2.out.grows g); have G_m3 := Lib.hid ((G_m2.out).trans g); have R_X_new := Lib.hid hp; have Zm9 := Lib.hid (Row.lt hp); have Zm10 := Lib.hid (Below.size g); have c_S_2 : _ = some _ := (R_S_m3.out.cell 2); clear hp hg g)
          | ((with_reducible refine wpList_load_dk (o := ⟨some 98, _, _, _, _, _⟩) ?_ (.tmp 9) ?_ ku2.heap.size #[pvS, cvS, .slice (some ⟨GS, 0, none⟩) ds.bad.length cbS, .bool ds.off] ?_ ?_ ?_ ?_); exact rfl; exact rfl; exact rfl; exact R_S_m3.out; exact rfl)
          | ((with_reducible refine wpList_load_pgrow (o := ⟨some 100, _, _, _, _, _⟩) ?_ (.tmp 6) ?_ (w.heap.size + 1) p ?_ ?_ ?_ ?_); exact rfl; exact rfl; exact rfl; exact HPl.out; exact R_P_m3.out)
          | (go_at_call 25; (with_reducible refine (WR.out _ _ O_oS_m3.out.disk).mono ?_); rintro e mu3 ⟨r, rfl, hr, g⟩; obtain ⟨pvW, cvW, bvW, rfl, o1, o2, o3⟩ := hr; have hoc : OwnDisk w.heap.size mu3 (.agg #[pvW, cvW, bvW, .bool dw.off]) dw := (OwnDisk.more ⟨_, _, _, rfl, o1, o2, o3⟩ (G_m3.out).size); have H4W := Lib.hid (dk_one hoc.disk); clear o1 o2 o3; have Zm11 := Lib.hid (Below.size g); have R_D_m4 := Lib.hid (Row.grows R_D_m3.out g); have R_P_m4 := Lib.hid (Row.grows R_P_m3.out g); have R_S_m4 := Lib.hid (Row.grows R_S_m3.out g); have R_X_m4 := Lib.hid (Row.grows R_X_new.out g); have O_oS_m4 := Lib.hid (O_oS_m3.out.grows g); have G_m4 := Lib.hid ((G_m3.out).trans g); have O_oW_new := Lib.hid (hoc); have c_S_2 : _ = some _ := (R_S_m4.out.cell 2); clear g)
          | ((with_reducible refine wpList_store_dk ?_ (.tmp 16) (.tmp 102) ?_ mu3.heap.size #[pvW, cvW, bvW, .bool dw.off] #[.slice none 0 0, .slice none 0 0, .slice none 0 0, .bool false] ?_ ?_ ?_ ?_ ?_ ?_ ?_); exact rfl; exact rfl; exact rfl; exact rfl; exact H4W.out.1; exact rfl; exact H4W.out.2; exact Row.new mu3 _ _; intro mu4 hp hg; have g := grown_fresh rfl hg; have R_D_m5 := Lib.hid (Row.grows R_D_m4.out g); have R_P_m5 := Lib.hid (Row.grows R_P_m4.out g); have R_S_m5 := Lib.hid (Row.grows R_S_m4.out g); have R_X_m5 := Lib.hid (Row.grows R_X_m4.out g); have O_oS_m5 := Lib.hid (O_oS_m4.out.grows g); have O_oW_m5 := Lib.hid (O_oW_new.out.grows g); have G_m5 := Lib.hid ((G_m4.out).trans g); have R_Wd_new := Lib.hid hp; have Zm12 := Lib.hid (Row.lt hp); have Zm13 := Lib.hid (Below.size g); have c_S_2 : _ = some _ := (R_S_m5.out.cell 2); clear hp hg g)
          | ((with_reducible refine wpList_load_dk (o := ⟨some 104, _, _, _, _, _⟩) ?_ (.tmp 16) ?_ mu3.heap.size #[pvW, cvW, bvW, .bool dw.off] ?_ ?_ ?_ ?_); exact rfl; exact rfl; exact rfl; exact R_Wd_new.out; exact H4W.out.1)
          | (go_at_call 14; (with_reducible refine (CR.out _ _ _ ((O_oW_m5.out.grows (Grows.alloc mu4 (.cells #[.int .u8 (bI x)] 5))).disk) (one_byte mu4 x)).mono ?_); rintro e mu5 ⟨r, rfl, hr, g⟩; have g := ((Grows.alloc mu4 (.cells #[.int .u8 (bI x)] 5))).trans g; obtain ⟨pvC, cvC, bvC, rfl, o1, o2, o3⟩ := hr; have hoc : OwnDisk w.heap.size mu5 (.agg #[pvC, cvC, bvC, .bool dc.off]) dc := (OwnDisk.more ⟨_, _, _, rfl, o1, o2, o3⟩ (((G_m5.out).trans (Grows.alloc mu4 (.cells #[.int .u8 (bI x)] 5)))).size); have H4C := Lib.hid (dk_one hoc.disk); clear o1 o2 o3; have Zm14 := Lib.hid (Below.size g); have R_D_m6 := Lib.hid (Row.grows R_D_m5.out g); have R_P_m6 := Lib.hid (Row.grows R_P_m5.out g); have R_S_m6 := Lib.hid (Row.grows R_S_m5.out g); have R_X_m6 := Lib.hid (Row.grows R_X_m5.out g); have R_Wd_m6 := Lib.hid (Row.grows R_Wd_new.out g); have O_oS_m6 := Lib.hid (O_oS_m5.out.grows g); have O_oW_m6 := Lib.hid (O_oW_m5.out.grows g); have G_m6 := Lib.hid ((G_m5.out).trans g); have O_oC_new := Lib.hid (hoc); clear hoc g)
          | ((with_reducible refine wpList_store_dk ?_ (.tmp 18) (.tmp 107) ?_ mu5.heap.size #[pvC, cvC, bvC, .bool dc.off] #[.slice none 0 0, .slice none 0 0, .slice none 0 0, .bool false] ?_ ?_ ?_ ?_ ?_ ?_ ?_); exact rfl; exact rfl; exact rfl; exact rfl; exact H4C.out.1; exact rfl; exact H4C.out.2; exact Row.new mu5 _ _; intro mu6 hp hg; have g := grown_fresh rfl hg; have R_D_m7 := Lib.hid (Row.grows R_D_m6.out g); have R_P_m7 := Lib.hid (Row.grows R_P_m6.out g); have R_S_m7 := Lib.hid (Row.grows R_S_m6.out g); have R_X_m7 := Lib.hid (Row.grows R_X_m6.out g); have R_Wd_m7 := Lib.hid (Row.grows R_Wd_m6.out g); have O_oS_m7 := Lib.hid (O_oS_m6.out.grows g); have O_oW_m7 := Lib.hid (O_oW_m6.out.grows g); have O_oC_m7 := Lib.hid (O_oC_new.out.grows g); have G_m7 := Lib.hid ((G_m6.out).trans g); have R_C_new := Lib.hid hp; have Zm15 := Lib.hid (Row.lt hp); have Zm16 := Lib.hid (Below.size g); have c_S_2 : _ = some _ := (R_S_m7.out.cell 2); clear hp hg g)
          | ((with_reducible refine wpList_load_dk (o := ⟨some 109, _, _, _, _, _⟩) ?_ (.tmp 18) ?_ mu5.heap.size #[pvC, cvC, bvC, .bool dc.off] ?_ ?_ ?_ ?_); exact rfl; exact rfl; exact rfl; exact R_C_new.out; exact H4C.out.1)
          | (go_at_call 24; (with_reducible refine (RC.out _ _ O_oC_m7.out.disk).mono ?_); rintro e mu7 ⟨rfl, g⟩; have Zm17 := Lib.hid (Below.size g); have R_D_m8 := Lib.hid (Row.grows R_D_m7.out g); have R_P_m8 := Lib.hid (Row.grows R_P_m7.out g); have R_S_m8 := Lib.hid (Row.grows R_S_m7.out g); have R_X_m8 := Lib.hid (Row.grows R_X_m7.out g); have R_Wd_m8 := Lib.hid (Row.grows R_Wd_m7.out g); have R_C_m8 := Lib.hid (Row.grows R_C_new.out g); have O_oS_m8 := Lib.hid (O_oS_m7.out.grows g); have O_oW_m8 := Lib.hid (O_oW_m7.out.grows g); have O_oC_m8 := Lib.hid (O_oC_m7.out.grows g); have G_m8 := Lib.hid ((G_m7.out).trans g); have c_S_2 : _ = some _ := (R_S_m8.out.cell 2); clear g)
          | ((with_reducible refine wpList_store_pgrow ?_ (.tmp 19) (.tmp 112) ?_ mu7.heap.size rc VdM.blank ?_ ?_ ?_ ?_ ?_ ?_); exact rfl; exact rfl; exact rfl; exact rfl; exact (HL2.out _ _ O_oC_m8.out.disk); exact blank_len; exact Row.new mu7 _ _; intro mu8 hp hg; have g := grown_fresh rfl hg; have R_D_m9 := Lib.hid (Row.grows R_D_m8.out g); have R_P_m9 := Lib.hid (Row.grows R_P_m8.out g); have R_S_m9 := Lib.hid (Row.grows R_S_m8.out g); have R_X_m9 := Lib.hid (Row.grows R_X_m8.out g); have R_Wd_m9 := Lib.hid (Row.grows R_Wd_m8.out g); have R_C_m9 := Lib.hid (Row.grows R_C_m8.out g); have O_oS_m9 := Lib.hid (O_oS_m8.out.grows g); have O_oW_m9 := Lib.hid (O_oW_m8.out.grows g); have O_oC_m9 := Lib.hid (O_oC_m8.out.grows g); have G_m9 := Lib.hid ((G_m8.out).trans g); have R_Y_new := Lib.hid hp; have Zm18 := Lib.hid (Row.lt hp); have Zm19 := Lib.hid (Below.size g); have c_S_2 : _ = some _ := (R_S_m9.out.cell 2); clear hp hg g)
          | (go_at_call 8; (with_reducible refine (wakes4_any _).mono ?_); rintro e mu9 ⟨rfl, g⟩; have Zm20 := Lib.hid (Below.size g); have R_D_m10 := Lib.hid (Row.grows R_D_m9.out g); have R_P_m10 := Lib.hid (Row.grows R_P_m9.out g); have R_S_m10 := Lib.hid (Row.grows R_S_m9.out g); have R_X_m10 := Lib.hid (Row.grows R_X_m9.out g); have R_Wd_m10 := Lib.hid (Row.grows R_Wd_m9.out g); have R_C_m10 := Lib.hid (Row.grows R_C_m9.out g); have R_Y_m10 := Lib.hid (Row.grows R_Y_new.out g); have O_oS_m10 := Lib.hid (O_oS_m9.out.grows g); have O_oW_m10 := Lib.hid (O_oW_m9.out.grows g); have O_oC_m10 := Lib.hid (O_oC_m9.out.grows g); have G_m10 := Lib.hid ((G_m9.out).trans g); have c_S_2 : _ = some _ := (R_S_m10.out.cell 2); clear g))
        go_ret
        exact ⟨rfl, G_m10.out⟩
      · rw [if_neg hx] at RC
        have hx1 : ¬ (((x.toNat % 3 : Nat) : Int) = 0) := by omega
        generalize x.toNat % 3 = x3 at *
        go_wp2_with (first
          | ((with_reducible refine wpList_load_dk (o := ⟨some 92, _, _, _, _, _⟩) ?_ (.tmp 9) ?_ ku2.heap.size #[pvS, cvS, .slice (some ⟨GS, 0, none⟩) ds.bad.length cbS, .bool ds.off] ?_ ?_ ?_ ?_); exact rfl; exact rfl; exact rfl; exact R_S_m1.out; exact rfl)
          | (go_at_call 24; (with_reducible refine (RD.out _ _ O_oS_m1.out.disk).mono ?_); rintro e mu1 ⟨rfl, g⟩; have Zm8 := Lib.hid (Below.size g); have R_D_m2 := Lib.hid (Row.grows R_D_m1.out g); have R_P_m2 := Lib.hid (Row.grows R_P_m1.out g); have R_S_m2 := Lib.hid (Row.grows R_S_m1.out g); have O_oS_m2 := Lib.hid (O_oS_m1.out.grows g); have G_m2 := Lib.hid ((G_m1.out).trans g); have c_S_2 : _ = some _ := (R_S_m2.out.cell 2); clear g)
          | ((with_reducible refine wpList_store_pgrow ?_ (.tmp 14) (.tmp 95) ?_ mu1.heap.size rp VdM.blank ?_ ?_ ?_ ?_ ?_ ?_); exact rfl; exact rfl; exact rfl; exact rfl; exact (HL1.out _ _ O_oS_m2.out.disk); exact blank_len; exact Row.new mu1 _ _; intro mu2 hp hg; have g := grown_fresh rfl hg; have R_D_m3 := Lib.hid (Row.grows R_D_m2.out g); have R_P_m3 := Lib.hid (Row.grows R_P_m2.out g); have R_S_m3 := Lib.hid (Row.grows R_S_m2.out g); have O_oS_m3 := Lib.hid (O_oS_m2.out.grows g); have G_m3 := Lib.hid ((G_m2.out).trans g); have R_X_new := Lib.hid hp; have Zm9 := Lib.hid (Row.lt hp); have Zm10 := Lib.hid (Below.size g); have c_S_2 : _ = some _ := (R_S_m3.out.cell 2); clear hp hg g)
          | ((with_reducible refine wpList_load_dk (o := ⟨some 98, _, _, _, _, _⟩) ?_ (.tmp 9) ?_ ku2.heap.size #[pvS, cvS, .slice (some ⟨GS, 0, none⟩) ds.bad.length cbS, .bool ds.off] ?_ ?_ ?_ ?_); exact rfl; exact rfl; exact rfl; exact R_S_m3.out; exact rfl)
          | ((with_reducible refine wpList_load_pgrow (o := ⟨some 100, _, _, _, _, _⟩) ?_ (.tmp 6) ?_ (w.heap.size + 1) p ?_ ?_ ?_ ?_); exact rfl; exact rfl; exact rfl; exact HPl.out; exact R_P_m3.out)
          | (go_at_call 25; (with_reducible refine (WR.out _ _ O_oS_m3.out.disk).mono ?_); rintro e mu3 ⟨r, rfl, hr, g⟩; obtain ⟨pvW, cvW, bvW, rfl, o1, o2, o3⟩ := hr; have hoc : OwnDisk w.heap.size mu3 (.agg #[pvW, cvW, bvW, .bool dw.off]) dw := (OwnDisk.more ⟨_, _, _, rfl, o1, o2, o3⟩ (G_m3.out).size); have H4W := Lib.hid (dk_one hoc.disk); clear o1 o2 o3; have Zm11 := Lib.hid (Below.size g); have R_D_m4 := Lib.hid (Row.grows R_D_m3.out g); have R_P_m4 := Lib.hid (Row.grows R_P_m3.out g); have R_S_m4 := Lib.hid (Row.grows R_S_m3.out g); have R_X_m4 := Lib.hid (Row.grows R_X_new.out g); have O_oS_m4 := Lib.hid (O_oS_m3.out.grows g); have G_m4 := Lib.hid ((G_m3.out).trans g); have O_oW_new := Lib.hid (hoc); have c_S_2 : _ = some _ := (R_S_m4.out.cell 2); clear g)
          | ((with_reducible refine wpList_store_dk ?_ (.tmp 16) (.tmp 102) ?_ mu3.heap.size #[pvW, cvW, bvW, .bool dw.off] #[.slice none 0 0, .slice none 0 0, .slice none 0 0, .bool false] ?_ ?_ ?_ ?_ ?_ ?_ ?_); exact rfl; exact rfl; exact rfl; exact rfl; exact H4W.out.1; exact rfl; exact H4W.out.2; exact Row.new mu3 _ _; intro mu4 hp hg; have g := grown_fresh rfl hg; have R_D_m5 := Lib.hid (Row.grows R_D_m4.out g); have R_P_m5 := Lib.hid (Row.grows R_P_m4.out g); have R_S_m5 := Lib.hid (Row.grows R_S_m4.out g); have R_X_m5 := Lib.hid (Row.grows R_X_m4.out g); have O_oS_m5 := Lib.hid (O_oS_m4.out.grows g); have O_oW_m5 := Lib.hid (O_oW_new.out.grows g); have G_m5 := Lib.hid ((G_m4.out).trans g); have R_Wd_new := Lib.hid hp; have Zm12 := Lib.hid (Row.lt hp); have Zm13 := Lib.hid (Below.size g); have c_S_2 : _ = some _ := (R_S_m5.out.cell 2); clear hp hg g)
          | ((with_reducible refine wpList_load_dk (o := ⟨some 104, _, _, _, _, _⟩) ?_ (.tmp 16) ?_ mu3.heap.size #[pvW, cvW, bvW, .bool dw.off] ?_ ?_ ?_ ?_); exact rfl; exact rfl; exact rfl; exact R_Wd_new.out; exact H4W.out.1)
          | (go_at_call 14; (with_reducible refine (CR.out _ _ _ ((O_oW_m5.out.grows (Grows.alloc mu4 (.cells #[.int .u8 (bI x)] 5))).disk) (one_byte mu4 x)).mono ?_); rintro e mu5 ⟨r, rfl, hr, g⟩; have g := ((Grows.alloc mu4 (.cells #[.int .u8 (bI x)] 5))).trans g; obtain ⟨pvC, cvC, bvC, rfl, o1, o2, o3⟩ := hr; have hoc : OwnDisk w.heap.size mu5 (.agg #[pvC, cvC, bvC, .bool dc.off]) dc := (OwnDisk.more ⟨_, _, _, rfl, o1, o2, o3⟩ (((G_m5.out).trans (Grows.alloc mu4 (.cells #[.int .u8 (bI x)] 5)))).size); have H4C := Lib.hid (dk_one hoc.disk); clear o1 o2 o3; have Zm14 := Lib.hid (Below.size g); have R_D_m6 := Lib.hid (Row.grows R_D_m5.out g); have R_P_m6 := Lib.hid (Row.grows R_P_m5.out g); have R_S_m6 := Lib.hid (Row.grows R_S_m5.out g); have R_X_m6 := Lib.hid (Row.grows R_X_m5.out g); have R_Wd_m6 := Lib.hid (Row.grows R_Wd_new.out g); have O_oS_m6 := Lib.hid (O_oS_m5.out.grows g); have O_oW_m6 := Lib.hid (O_oW_m5.out.grows g); have G_m6 := Lib.hid ((G_m5.out).trans g); have O_oC_new := Lib.hid (hoc); clear hoc g)
          | ((with_reducible refine wpList_store_dk ?_ (.tmp 18) (.tmp 107) ?_ mu5.heap.size #[pvC, cvC, bvC, .bool dc.off] #[.slice none 0 0, .slice none 0 0, .slice none 0 0, .bool false] ?_ ?_ ?_ ?_ ?_ ?_ ?_); exact rfl; exact rfl; exact rfl; exact rfl; exact H4C.out.1; exact rfl; exact H4C.out.2; exact Row.new mu5 _ _; intro mu6 hp hg; have g := grown_fresh rfl hg; have R_D_m7 := Lib.hid (Row.grows R_D_m6.out g); have R_P_m7 := Lib.hid (Row.grows R_P_m6.out g); have R_S_m7 := Lib.hid (Row.grows R_S_m6.out g); have R_X_m7 := Lib.hid (Row.grows R_X_m6.out g); have R_Wd_m7 := Lib.hid (Row.grows R_Wd_m6.out g); have O_oS_m7 := Lib.hid (O_oS_m6.out.grows g); have O_oW_m7 := Lib.hid (O_oW_m6.out.grows g); have O_oC_m7 := Lib.hid (O_oC_new.out.grows g); have G_m7 := Lib.hid ((G_m6.out).trans g); have R_C_new := Lib.hid hp; have Zm15 := Lib.hid (Row.lt hp); have Zm16 := Lib.hid (Below.size g); have c_S_2 : _ = some _ := (R_S_m7.out.cell 2); clear hp hg g)
          | ((with_reducible refine wpList_load_dk (o := ⟨some 109, _, _, _, _, _⟩) ?_ (.tmp 18) ?_ mu5.heap.size #[pvC, cvC, bvC, .bool dc.off] ?_ ?_ ?_ ?_); exact rfl; exact rfl; exact rfl; exact R_C_new.out; exact H4C.out.1)
          | (go_at_call 24; (with_reducible refine (RC.out _ _ O_oC_m7.out.disk).mono ?_); rintro e mu7 ⟨rfl, g⟩; have Zm17 := Lib.hid (Below.size g); have R_D_m8 := Lib.hid (Row.grows R_D_m7.out g); have R_P_m8 := Lib.hid (Row.grows R_P_m7.out g); have R_S_m8 := Lib.hid (Row.grows R_S_m7.out g); have R_X_m8 := Lib.hid (Row.grows R_X_m7.out g); have R_Wd_m8 := Lib.hid (Row.grows R_Wd_m7.out g); have R_C_m8 := Lib.hid (Row.grows R_C_new.out g); have O_oS_m8 := Lib.hid (O_oS_m7.out.grows g); have O_oW_m8 := Lib.hid (O_oW_m7.out.grows g); have O_oC_m8 := Lib.hid (O_oC_m7.out.grows g); have G_m8 := Lib.hid ((G_m7.out).trans g); have c_S_2 : _ = some _ := (R_S_m8.out.cell 2); clear g)
          | ((with_reducible refine wpList_store_pgrow ?_ (.tmp 19) (.tmp 112) ?_ mu7.heap.size rc VdM.blank ?_ ?_ ?_ ?_ ?_ ?_); exact rfl; exact rfl; exact rfl; exact rfl; exact (HL2.out _ _ O_oC_m8.out.disk); exact blank_len; exact Row.new mu7 _ _; intro mu8 hp hg; have g := grown_fresh rfl hg; have R_D_m9 := Lib.hid (Row.grows R_D_m8.out g); have R_P_m9 := Lib.hid (Row.grows R_P_m8.out g); have R_S_m9 := Lib.hid (Row.grows R_S_m8.out g); have R_X_m9 := Lib.hid (Row.grows R_X_m8.out g); have R_Wd_m9 := Lib.hid (Row.grows R_Wd_m8.out g); have R_C_m9 := Lib.hid (Row.grows R_C_m8.out g); have O_oS_m9 := Lib.hid (O_oS_m8.out.grows g); have O_oW_m9 := Lib.hid (O_oW_m8.out.grows g); have O_oC_m9 := Lib.hid (O_oC_m8.out.grows g); have G_m9 := Lib.hid ((G_m8.out).trans g); have R_Y_new := Lib.hid hp; have Zm18 := Lib.hid (Row.lt hp); have Zm19 := Lib.hid (Below.size g); have c_S_2 : _ = some _ := (R_S_m9.out.cell 2); clear hp hg g)
          | (go_at_call 8; (with_reducible refine (wakes4_any _).mono ?_); rintro e mu9 ⟨rfl, g⟩; have Zm20 := Lib.hid (Below.size g); have R_D_m10 := Lib.hid (Row.grows R_D_m9.out g); have R_P_m10 := Lib.hid (Row.grows R_P_m9.out g); have R_S_m10 := Lib.hid (Row.grows R_S_m9.out g); have R_X_m10 := Lib.hid (Row.grows R_X_m9.out g); have R_Wd_m10 := Lib.hid (Row.grows R_Wd_m9.out g); have R_C_m10 := Lib.hid (Row.grows R_C_m9.out g); have R_Y_m10 := Lib.hid (Row.grows R_Y_new.out g); have O_oS_m10 := Lib.hid (O_oS_m9.out.grows g); have O_oW_m10 := Lib.hid (O_oW_m9.out.grows g); have O_oC_m10 := Lib.hid (O_oC_m9.out.grows g); have G_m10 := Lib.hid ((G_m9.out).trans g); have c_S_2 : _ = some _ := (R_S_m10.out.cell 2); clear g))
        go_ret
        have hx2 : ((x3 : Int) != 0) = true := by rw [bne_iff_ne]; exact hx1
        exact ⟨congrArg (fun t => Ending.returned (.bool t)) hx2, G_m10.out⟩
end Go.Proofs.Ytiagmlokocpboaa
