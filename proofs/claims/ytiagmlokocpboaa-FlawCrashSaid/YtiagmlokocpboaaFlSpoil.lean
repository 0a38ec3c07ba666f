/- FlSpoil -/
import Derived.Test.YtiagmlokocpboaaFlOwn
import Derived.Test.YtiagmlokocpboaaVdvSort
/- flaw.Spoil: a page that can no more be read. -/
namespace Go.Proofs.Ytiagmlokocpboaa
open Go.RowKit
set_option linter.unusedVariables false
set_option linter.unusedSimpArgs false
namespace FlM
def spoilD (d : Dk) (n : Int) : Dk := if onDk d n then { d with bad := VdM.ins n d.bad } else d
theorem spoil_sort (l : List Int) (n : Int) (h : l.Pairwise (· < ·)) : Lib.compact ((l ++ [n]).mergeSort fun x y => decide (x ≤ y)) = VdM.ins n l := by
  have hs : ((l ++ [n]).mergeSort fun x y => decide (x ≤ y)).Pairwise (· ≤ ·) := by
    have := List.pairwise_mergeSort (le := fun (x y : Int) => decide (x ≤ y)) (fun a b c h1 h2 => by simp at *; omega) (fun a b => by simp; omega) (l ++ [n])
    simpa using this
  obtain ⟨h1, h2⟩ := VdM.compact_sorted _ hs
  refine VdM.asc_unique _ _ h1 (VdM.asc_ins n l h) fun z => ?_
  rw [h2, List.mem_mergeSort, VdM.mem_ins, List.mem_append, List.mem_singleton]
  exact Or.comm
end FlM
set_option maxRecDepth 20000 in
set_option maxHeartbeats 4000000 in
theorem flspoil_any (v : Value) (d : Dk) (n : Int) (w : World) (hv : IsDisk w.heap.size w v d) (l1 : d.pages.length ≤ 1000000) (l2 : d.cache.length ≤ 1000000) (l3 : d.bad.length ≤ 900000) (hasc : d.bad.Pairwise (· < ·)) :
    Calls Try.prog 11 #[v, .int .i64 n] w fun e w' => ∃ r, e = .returned (.tuple #[r, .int .i64 (FlM.spoilE d n)]) ∧ OwnDisk w.heap.size w' r (FlM.spoilD d n) ∧ Grows w w' := by
  have L1 := Lib.hid l1; have L2 := Lib.hid l2; have L3 := Lib.hid (show d.bad.length ≤ 1000000 by omega); have L4 := Lib.hid l3
  have HSS := Lib.hid (FlM.spoil_sort d.bad n hasc)
  clear l1 l2 l3 hasc
  have HV := Lib.hid hv
  obtain ⟨pv, cv, bv, rfl, hp, hc, hb⟩ := hv
  have HP := Lib.hid hp; have HC := Lib.hid hc; have HB := Lib.hid hb
  obtain ⟨AP, cP, rfl, p1, p2, p3⟩ := hp.form
  obtain ⟨AC, cC, rfl, q1, q2, q3⟩ := hc.form
  obtain ⟨AB, cB, rfl, b1, b2, b3⟩ := hb.ints
  have HPf := Lib.hid p3; have HCf := Lib.hid q3; have HBf := Lib.hid b3
  clear hp hc hb p3 q3 b3
  unfold maxLen at p2 q2 b2
  obtain ⟨D, hD⟩ : ∃ D, D = #[Value.slice AP d.pages.length cP, .slice AC d.cache.length cC, .slice AB d.bad.length cB, .bool d.off] := ⟨_, rfl⟩
  have Ds : Hid (D.size = 4 ∧ D[0]? = some (.slice AP d.pages.length cP) ∧ D[1]? = some (.slice AC d.cache.length cC) ∧ D[2]? = some (.slice AB d.bad.length cB) ∧ D[3]? = some (.bool d.off)) := by subst hD; exact ⟨rfl, rfl, rfl, rfl, rfl⟩
  have HDe := Lib.hid hD
  rw [← hD] at HV ⊢
  clear hD
  have R1 := Lib.hid ((Row.new w 26 D).alloc (.cells #[.slice none 0 0, .slice none 0 0, .slice none 0 0, .bool false] 26))
  have R2 : Hid (Row ((w.alloc (.cells D 26)).alloc (.cells #[.slice none 0 0, .slice none 0 0, .slice none 0 0, .bool false] 26)) (w.heap.size + 1) 26 #[.slice none 0 0, .slice none 0 0, .slice none 0 0, .bool false]) := by
    have := Row.new (w.alloc (.cells D 26)) 26 #[.slice none 0 0, .slice none 0 0, .slice none 0 0, .bool false]
    rwa [World.size_alloc] at this
  have HG := Lib.hid ((Grows.alloc w (.cells D 26)).trans (Grows.alloc _ (.cells #[.slice none 0 0, .slice none 0 0, .slice none 0 0, .bool false] 26)))
  have ZW0 : Hid (((w.alloc (.cells D 26)).alloc (.cells #[.slice none 0 0, .slice none 0 0, .slice none 0 0, .bool false] 26)).heap.size = w.heap.size + 2) := by unfold Hid; simp
  have HFD : Hid (FlM.spoilD d n = if FlM.onDk d n then { d with bad := VdM.ins n d.bad } else d) := rfl
  have HFE : Hid (FlM.spoilE d n = if FlM.onDk d n then 0 else 2) := rfl
  have HAS := Lib.hid (fun W (h : IsDisk (World.heap W).size W (.agg D) d) => flhas_any _ d n W h)
  by_cases hx : FlM.onDk d n = true
  case neg =>
    rw [HFD.out.trans (if_neg hx), HFE.out.trans (if_neg hx)]
    rw [Bool.eq_false_iff.2 hx] at HAS
    clear hx HFD HFE
    go_enter Try.func11, Try.ntmps11
    go_wp2_with (first
      | ((with_reducible refine wpList_load_dk (o := ⟨some 7, _, _, _, _, _⟩) ?_ (.tmp 2) ?_ w.heap.size D ?_ ?_ ?_ ?_); exact rfl; exact rfl; exact rfl; exact R1.out; exact Ds.out.1)
      | (go_at_call 20; (with_reducible refine (flown_any _ d _ (HV.out.grows HG.out) L1.out L2.out L3.out).mono ?_); rintro e ku1 ⟨r, rfl, hr, g⟩; obtain ⟨pv2, cv2, bv2, rfl, o1, o2, o3⟩ := hr; have hoc : OwnDisk w.heap.size ku1 (.agg #[pv2, cv2, bv2, .bool d.off]) d := (OwnDisk.more ⟨_, _, _, rfl, o1, o2, o3⟩ (HG.out).size); have H4 := Lib.hid (dk_one hoc.disk); clear o1 o2 o3; have Zk0 := Lib.hid (Below.size g); have R_D_k1 := Lib.hid (Row.grows R1.out g); have R_R_k1 := Lib.hid (Row.grows R2.out g); have G_k1 := Lib.hid ((HG.out).trans g); have O_o_new := Lib.hid (hoc); clear g)
      | ((with_reducible refine wpList_store_dk ?_ (.tmp 6) (.tmp 8) ?_ ku1.heap.size #[pv2, cv2, bv2, .bool d.off] #[.slice none 0 0, .slice none 0 0, .slice none 0 0, .bool false] ?_ ?_ ?_ ?_ ?_ ?_ ?_); exact rfl; exact rfl; exact rfl; exact rfl; exact H4.out.1; exact rfl; exact H4.out.2; exact Row.new ku1 _ _; intro ku2 hp hg; have g := grown_fresh rfl hg; have R_D_k2 := Lib.hid (Row.grows R_D_k1.out g); have R_R_k2 := Lib.hid (Row.grows R_R_k1.out g); have O_o_k2 := Lib.hid (O_o_new.out.grows g); have G_k2 := Lib.hid ((G_k1.out).trans g); have R_T_new := Lib.hid hp; have Zk1 := Lib.hid (Row.lt hp); have Zk2 := Lib.hid (Below.size g); clear hp hg g)
      | ((with_reducible refine wpList_load_dk (o := ⟨some 9, _, _, _, _, _⟩) ?_ (.tmp 2) ?_ w.heap.size D ?_ ?_ ?_ ?_); exact rfl; exact rfl; exact rfl; exact R_D_k2.out; exact Ds.out.1)
      | (go_at_call 26; (with_reducible refine (HAS.out _ (HV.out.grows G_k2.out)).mono ?_); rintro e ku3 ⟨rfl, g⟩; have Zk3 := Lib.hid (Below.size g); have R_D_k3 := Lib.hid (Row.grows R_D_k2.out g); have R_R_k3 := Lib.hid (Row.grows R_R_k2.out g); have R_T_k3 := Lib.hid (Row.grows R_T_new.out g); have O_o_k3 := Lib.hid (O_o_k2.out.grows g); have G_k3 := Lib.hid ((G_k2.out).trans g); clear g)
      | ((with_reducible refine wpList_load_dk (o := ⟨some 13, _, _, _, _, _⟩) ?_ (.tmp 6) ?_ ku1.heap.size #[pv2, cv2, bv2, .bool d.off] ?_ ?_ ?_ ?_); exact rfl; exact rfl; exact rfl; exact R_T_k3.out; exact rfl)
      | ((with_reducible refine wpList_store_dk ?_ (.tmp 4) (.tmp 13) ?_ (w.heap.size + 1) #[pv2, cv2, bv2, .bool d.off] #[.slice none 0 0, .slice none 0 0, .slice none 0 0, .bool false] ?_ ?_ ?_ ?_ ?_ ?_ ?_); exact rfl; exact rfl; exact rfl; exact rfl; exact H4.out.1; exact rfl; exact H4.out.2; exact R_R_k3.out; intro ku4 hp hg; have R_D_k4 := Lib.hid (R_D_k3.out.grown hg (by have zW0 := ZW0.out; have zk0 := Zk0.out; have zk1 := Zk1.out; have zk2 := Zk2.out; have zk3 := Zk3.out; intro e; have e := Option.some.inj e; omega)); have R_R_k4 := Lib.hid hp; have R_T_k4 := Lib.hid (R_T_k3.out.grown hg (by have zW0 := ZW0.out; have zk0 := Zk0.out; have zk1 := Zk1.out; have zk2 := Zk2.out; have zk3 := Zk3.out; intro e; have e := Option.some.inj e; omega)); have O_o_k4 := Lib.hid (O_o_k3.out.beside hg R_R_k3.out); have G_k4 := Lib.hid ((G_k3.out).grown hg (G_k3.out).size (by have zW0 := ZW0.out; have zk0 := Zk0.out; have zk1 := Zk1.out; have zk2 := Zk2.out; have zk3 := Zk3.out; intro k e; have e := Option.some.inj e; omega)); clear hp hg))
    refine bodyPost_ret (results_dk_two (p := 4) (q := 5) (by exact rfl) _ (.int .i64 2) (by exact rfl) (by exact rfl) (by exact rfl) R_R_k4.out) rfl ?_
    exact ⟨_, rfl, O_o_k4.out, G_k4.out⟩
  rw [HFD.out.trans (if_pos hx), HFE.out.trans (if_pos hx)]
  rw [hx] at HAS
  clear hx HFD HFE
  go_enter Try.func11, Try.ntmps11
  go_wp2_with (first
    | ((with_reducible refine wpList_load_dk (o := ⟨some 7, _, _, _, _, _⟩) ?_ (.tmp 2) ?_ w.heap.size D ?_ ?_ ?_ ?_); exact rfl; exact rfl; exact rfl; exact R1.out; exact Ds.out.1)
    | (go_at_call 20; (with_reducible refine (flown_any _ d _ (HV.out.grows HG.out) L1.out L2.out L3.out).mono ?_); rintro e ku1 ⟨r, rfl, hr, g⟩; obtain ⟨pv2, cv2, bv2, rfl, o1, o2, o3⟩ := hr; obtain ⟨A2, c2, rfl, _⟩ := o1.els.form; obtain ⟨A3, c3, rfl, _⟩ := o2.els.form; obtain ⟨A4, c4, rfl, e4, e5, _⟩ := o3.els.form; unfold maxLen at e5; have H4 := Lib.hid (dk_one (d := d) ⟨_, _, _, rfl, o1.els, o2.els, o3.els⟩); have op := o1.more (HG.out).size; have oc := o2.more (HG.out).size; have ob := o3.more (HG.out).size; clear o1 o2 o3; have Zk0 := Lib.hid (Below.size g); have R_D_k1 := Lib.hid (Row.grows R1.out g); have R_R_k1 := Lib.hid (Row.grows R2.out g); have G_k1 := Lib.hid ((HG.out).trans g); have O_p_new := Lib.hid (op); have O_c_new := Lib.hid oc; have O_b_new := Lib.hid ob; clear op oc ob g)
    | ((with_reducible refine wpList_store_dk ?_ (.tmp 6) (.tmp 8) ?_ ku1.heap.size #[.slice A2 d.pages.length c2, .slice A3 d.cache.length c3, .slice A4 d.bad.length c4, .bool d.off] #[.slice none 0 0, .slice none 0 0, .slice none 0 0, .bool false] ?_ ?_ ?_ ?_ ?_ ?_ ?_); exact rfl; exact rfl; exact rfl; exact rfl; exact H4.out.1; exact rfl; exact H4.out.2; exact Row.new ku1 _ _; intro ku2 hp hg; have g := grown_fresh rfl hg; have R_D_k2 := Lib.hid (Row.grows R_D_k1.out g); have R_R_k2 := Lib.hid (Row.grows R_R_k1.out g); have O_p_k2 := Lib.hid (O_p_new.out.grows g); have O_c_k2 := Lib.hid (O_c_new.out.grows g); have O_b_k2 := Lib.hid (O_b_new.out.grows g); have G_k2 := Lib.hid ((G_k1.out).trans g); have R_T_new := Lib.hid hp; have Zk1 := Lib.hid (Row.lt hp); have Zk2 := Lib.hid (Below.size g); clear hp hg g)
    | ((with_reducible refine wpList_load_dk (o := ⟨some 9, _, _, _, _, _⟩) ?_ (.tmp 2) ?_ w.heap.size D ?_ ?_ ?_ ?_); exact rfl; exact rfl; exact rfl; exact R_D_k2.out; exact Ds.out.1)
    | (go_at_call 26; (with_reducible refine (HAS.out _ (HV.out.grows G_k2.out)).mono ?_); rintro e ku3 ⟨rfl, g⟩; have Zk3 := Lib.hid (Below.size g); have R_D_k3 := Lib.hid (Row.grows R_D_k2.out g); have R_R_k3 := Lib.hid (Row.grows R_R_k2.out g); have R_T_k3 := Lib.hid (Row.grows R_T_new.out g); have O_p_k3 := Lib.hid (O_p_k2.out.grows g); have O_c_k3 := Lib.hid (O_c_k2.out.grows g); have O_b_k3 := Lib.hid (O_b_k2.out.grows g); have G_k3 := Lib.hid ((G_k2.out).trans g); have c_T_2 : _ = some _ := (R_T_k3.out.cell 2); clear g)
    | ((with_reducible refine wpList_append_els elT_int intE_one ?_ (.tmp 15) (.tmp 17) ?_ w.heap.size (ku3.heap.size + 1) d.bad [n] ?_ ?_ ?_ ?_ ?_ ?_); exact rfl; exact rfl; exact O_b_k3.out.grows (Grows.alloc _ _); exact ints_of_one ku3 n; have := L4.out; simp; unfold maxLen; omega; have := L4.out; simp; omega; have := (G_k3.out).size; simp; omega; intro v5 ku4 ho hg _; obtain ⟨A5, c5, rfl, e6, e7, _⟩ := ho.els.form; unfold maxLen at e7; generalize (d.bad ++ [n]).length = m5 at *; have g := Grows.alloc ku3 (.cells #[.int .i64 n] 3); have R_D_k4 := Lib.hid (Row.grows R_D_k3.out g); have R_R_k4 := Lib.hid (Row.grows R_R_k3.out g); have R_T_k4 := Lib.hid (Row.grows R_T_k3.out g); have O_p_k4 := Lib.hid (O_p_k3.out.grows g); have O_c_k4 := Lib.hid (O_c_k3.out.grows g); have O_b_k4 := Lib.hid (O_b_k3.out.grows g); have G_k4 := Lib.hid ((G_k3.out).trans g); have R_D_k5 := Lib.hid (row_other O_b_k4.out R_D_k4.out (by decide) hg); have R_R_k5 := Lib.hid (row_other O_b_k4.out R_R_k4.out (by decide) hg); have R_T_k5 := Lib.hid (row_other O_b_k4.out R_T_k4.out (by decide) hg); have O_p_k5 := Lib.hid (own_other O_p_k4.out O_b_k4.out (by decide) hg); have O_c_k5 := Lib.hid (own_other O_c_k4.out O_b_k4.out (by decide) hg); have O_b_k5 := Lib.hid ho; have G_k5 := Lib.hid ((G_k4.out).grown hg (G_k4.out).size (fun k e => own_low O_b_k4.out k e)); have c_T_2 : _ = some _ := (R_T_k5.out.cell 2); have f_T_2 := R_T_k5.out.frozen 2; clear g ho hg)
    | ((with_reducible refine wpList_store_c ?_ 24 (.tmp 19) (.tmp 18) ?_ ku1.heap.size 2 (.slice A5 m5 c5) #[.slice A2 d.pages.length c2, .slice A3 d.cache.length c3, .slice A4 d.bad.length c4, .bool d.off] 26 ?_ ?_ ?_ ?_ ?_ ?_ ?_); exact rfl; exact rfl; exact rfl; exact rfl; exact rfl; exact one_bad; exact R_T_k5.out; exact (by simp); intro ku5 hp hg; have R_D_k6 := Lib.hid (R_D_k5.out.grown hg (by have zW0 := ZW0.out; have zk0 := Zk0.out; have zk1 := Zk1.out; have zk2 := Zk2.out; have zk3 := Zk3.out; intro e; have e := Option.some.inj e; omega)); have R_R_k6 := Lib.hid (R_R_k5.out.grown hg (by have zW0 := ZW0.out; have zk0 := Zk0.out; have zk1 := Zk1.out; have zk2 := Zk2.out; have zk3 := Zk3.out; intro e; have e := Option.some.inj e; omega)); have R_T_k6 := Lib.hid hp; have O_p_k6 := Lib.hid (O_p_k5.out.aside hg R_T_k5.out (by decide)); have O_c_k6 := Lib.hid (O_c_k5.out.aside hg R_T_k5.out (by decide)); have O_b_k6 := Lib.hid (O_b_k5.out.aside hg R_T_k5.out (by decide)); have G_k6 := Lib.hid ((G_k5.out).grown hg (G_k5.out).size (by have zW0 := ZW0.out; have zk0 := Zk0.out; have zk1 := Zk1.out; have zk2 := Zk2.out; have zk3 := Zk3.out; intro k e; have e := Option.some.inj e; omega)); have c_T_2 : _ = some _ := (R_T_k6.out.cell 2); clear hp hg)
    | (go_at_call 27; (with_reducible refine (sort_any O_b_k6.out (by have := L4.out; simp; omega)).mono ?_); rintro e ku6 ⟨rfl, ho, hg⟩; have R_D_k7 := Lib.hid (row_other O_b_k6.out R_D_k6.out (by decide) hg); have R_R_k7 := Lib.hid (row_other O_b_k6.out R_R_k6.out (by decide) hg); have R_T_k7 := Lib.hid (row_other O_b_k6.out R_T_k6.out (by decide) hg); have O_p_k7 := Lib.hid (own_other O_p_k6.out O_b_k6.out (by decide) hg); have O_c_k7 := Lib.hid (own_other O_c_k6.out O_b_k6.out (by decide) hg); have O_b_k7 := Lib.hid ho; have G_k7 := Lib.hid ((G_k6.out).grown hg (G_k6.out).size (fun k e => own_low O_b_k6.out k e)); have c_T_2 : _ = some _ := (R_T_k7.out.cell 2); clear ho hg)
    | (go_at_call 28; (with_reducible refine (compact_any O_b_k7.out (by have := L4.out; rw [List.length_mergeSort]; simp; omega)).mono ?_); rintro e ku7 ⟨r, rfl, ho, hg⟩; rw [HSS.out] at ho; obtain ⟨A6, c6, rfl, e8, e9, _⟩ := ho.els.form; unfold maxLen at e9; have R_D_k8 := Lib.hid (row_other O_b_k7.out R_D_k7.out (by decide) hg); have R_R_k8 := Lib.hid (row_other O_b_k7.out R_R_k7.out (by decide) hg); have R_T_k8 := Lib.hid (row_other O_b_k7.out R_T_k7.out (by decide) hg); have O_p_k8 := Lib.hid (own_other O_p_k7.out O_b_k7.out (by decide) hg); have O_c_k8 := Lib.hid (own_other O_c_k7.out O_b_k7.out (by decide) hg); have O_b_k8 := Lib.hid ho; have G_k8 := Lib.hid ((G_k7.out).grown hg (G_k7.out).size (fun k e => own_low O_b_k7.out k e)); clear ho hg)
    | ((with_reducible refine wpList_store_c ?_ 24 (.tmp 26) (.tmp 25) ?_ ku1.heap.size 2 (.slice A6 (VdM.ins n d.bad).length c6) #[.slice A2 d.pages.length c2, .slice A3 d.cache.length c3, .slice A5 m5 c5, .bool d.off] 26 ?_ ?_ ?_ ?_ ?_ ?_ ?_); exact rfl; exact rfl; exact rfl; exact rfl; exact rfl; exact one_bad; exact R_T_k8.out; exact (by simp); intro ku8 hp hg; have R_D_k9 := Lib.hid (R_D_k8.out.grown hg (by have zW0 := ZW0.out; have zk0 := Zk0.out; have zk1 := Zk1.out; have zk2 := Zk2.out; have zk3 := Zk3.out; intro e; have e := Option.some.inj e; omega)); have R_R_k9 := Lib.hid (R_R_k8.out.grown hg (by have zW0 := ZW0.out; have zk0 := Zk0.out; have zk1 := Zk1.out; have zk2 := Zk2.out; have zk3 := Zk3.out; intro e; have e := Option.some.inj e; omega)); have R_T_k9 := Lib.hid hp; have O_p_k9 := Lib.hid (O_p_k8.out.aside hg R_T_k8.out (by decide)); have O_c_k9 := Lib.hid (O_c_k8.out.aside hg R_T_k8.out (by decide)); have O_b_k9 := Lib.hid (O_b_k8.out.aside hg R_T_k8.out (by decide)); have G_k9 := Lib.hid ((G_k8.out).grown hg (G_k8.out).size (by have zW0 := ZW0.out; have zk0 := Zk0.out; have zk1 := Zk1.out; have zk2 := Zk2.out; have zk3 := Zk3.out; intro k e; have e := Option.some.inj e; omega)); clear hp hg)
    | ((with_reducible refine wpList_load_dk (o := ⟨some 27, _, _, _, _, _⟩) ?_ (.tmp 6) ?_ ku1.heap.size #[.slice A2 d.pages.length c2, .slice A3 d.cache.length c3, .slice A6 (VdM.ins n d.bad).length c6, .bool d.off] ?_ ?_ ?_ ?_); exact rfl; exact rfl; exact rfl; exact R_T_k9.out; exact rfl)
    | ((with_reducible refine wpList_store_dk ?_ (.tmp 4) (.tmp 27) ?_ (w.heap.size + 1) #[.slice A2 d.pages.length c2, .slice A3 d.cache.length c3, .slice A6 (VdM.ins n d.bad).length c6, .bool d.off] #[.slice none 0 0, .slice none 0 0, .slice none 0 0, .bool false] ?_ ?_ ?_ ?_ ?_ ?_ ?_); exact rfl; exact rfl; exact rfl; exact rfl; exact rfl; exact rfl; exact (by simp [Value.oneCell']); exact R_R_k9.out; intro w6 hw6 hg6))
  refine bodyPost_ret (results_dk_two (p := 4) (q := 5) (by exact rfl) _ (.int .i64 0) (by exact rfl) (by exact rfl) (by exact rfl) hw6) rfl ?_
  exact ⟨_, rfl, ⟨_, _, _, rfl, O_p_k9.out.aside hg6 R_R_k9.out (by decide), O_c_k9.out.aside hg6 R_R_k9.out (by decide), O_b_k9.out.aside hg6 R_R_k9.out (by decide)⟩, (G_k9.out).grown hg6 (G_k9.out).size (fun k e => by cases e; omega)⟩
end Go.Proofs.Ytiagmlokocpboaa
