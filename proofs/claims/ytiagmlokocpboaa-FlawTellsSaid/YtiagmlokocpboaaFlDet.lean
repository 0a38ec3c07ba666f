/- FlDet -/
import Derived.Test.YtiagmlokocpboaaFlOwn
/- The document's Detach and Attach. -/
namespace Go.Proofs.Ytiagmlokocpboaa
open Go.RowKit
set_option linter.unusedVariables false
set_option linter.unusedSimpArgs false
set_option maxRecDepth 20000 in
set_option maxHeartbeats 4000000 in
theorem rdetach_any (v : Value) (d : Dk) (w : World) (hv : IsDisk w.heap.size w v d) (l1 : d.pages.length ≤ 1000000) (l2 : d.cache.length ≤ 1000000) (l3 : d.bad.length ≤ 1000000) :
    Calls Try.prog 17 #[v] w fun e w' => ∃ r, e = .returned r ∧ OwnDisk w.heap.size w' r ⟨d.pages, [], d.bad, true⟩ ∧ Grows w w' := by
  have L1 := Lib.hid l1; have L2 := Lib.hid l2; have L3 := Lib.hid l3
  clear l1 l2 l3
  have HV := Lib.hid hv
  obtain ⟨pv, cv, bv, rfl, hp, hc, hb⟩ := hv
  have HP := Lib.hid hp; have HC := Lib.hid hc; have HB := Lib.hid hb
  obtain ⟨AP, cP, rfl, p1, p2, p3⟩ := hp.form
  obtain ⟨AC, cC, rfl, q1, q2, q3⟩ := hc.form
  obtain ⟨AB, cB, rfl, b1, b2, b3⟩ := hb.ints
  have HPf := Lib.hid p3; have HCf := Lib.hid q3; have HBf := Lib.hid b3
  clear hp hc hb p3 q3 b3
  unfold maxLen at p2 q2 b2
  obtain ⟨D, hD⟩ : ∃ D, D = #[Value.slice AP d.pages.length cP, .slice AC d.cache.length cC, .slice AB d.bad.length cB, .bool d.off] := ⟨_, rfl⟩
  have Ds : Hid (D.size = 4 ∧ D[0]? = some (.slice AP d.pages.length cP) ∧ D[1]? = some (.slice AC d.cache.length cC) ∧ D[2]? = some (.slice AB d.bad.length cB) ∧ D[3]? = some (.bool d.off)) := by subst hD; exact ⟨rfl, rfl, rfl, rfl, rfl⟩
  have HDe := Lib.hid hD
  rw [← hD] at HV ⊢
  clear hD
  have R1 := Lib.hid ((Row.new w 26 D).alloc (.cells #[.slice none 0 0, .slice none 0 0, .slice none 0 0, .bool false] 26))
  have R2 : Hid (Row ((w.alloc (.cells D 26)).alloc (.cells #[.slice none 0 0, .slice none 0 0, .slice none 0 0, .bool false] 26)) (w.heap.size + 1) 26 #[.slice none 0 0, .slice none 0 0, .slice none 0 0, .bool false]) := by
    have := Row.new (w.alloc (.cells D 26)) 26 #[.slice none 0 0, .slice none 0 0, .slice none 0 0, .bool false]
    rwa [World.size_alloc] at this
  have HG := Lib.hid ((Grows.alloc w (.cells D 26)).trans (Grows.alloc _ (.cells #[.slice none 0 0, .slice none 0 0, .slice none 0 0, .bool false] 26)))
  have ZW0 : Hid (((w.alloc (.cells D 26)).alloc (.cells #[.slice none 0 0, .slice none 0 0, .slice none 0 0, .bool false] 26)).heap.size = w.heap.size + 2) := by unfold Hid; simp
  go_enter Try.func17, Try.ntmps17
  go_wp2_with (first
    | ((with_reducible refine wpList_load_dk (o := ⟨some 4, _, _, _, _, _⟩) ?_ (.tmp 1) ?_ w.heap.size D ?_ ?_ ?_ ?_); exact rfl; exact rfl; exact rfl; exact R1.out; exact Ds.out.1)
    | (go_at_call 22; (with_reducible refine (rown4_any _ d _ (HV.out.grows HG.out) L1.out L2.out L3.out).mono ?_); rintro e ku1 ⟨r, rfl, hr, g⟩; obtain ⟨pv2, cv2, bv2, rfl, o1, o2, o3⟩ := hr; obtain ⟨A2, c2, rfl, _⟩ := o1.els.form; obtain ⟨A3, c3, rfl, _⟩ := o2.els.form; obtain ⟨A4, c4, rfl, e4, e5, _⟩ := o3.els.form; have H4 := Lib.hid (dk_one (d := d) ⟨_, _, _, rfl, o1.els, o2.els, o3.els⟩); have op := o1.more (HG.out).size; have oc := o2.more (HG.out).size; have ob := o3.more (HG.out).size; clear o1 o2 o3; have Zk0 := Lib.hid (Below.size g); have R_D_k1 := Lib.hid (Row.grows R1.out g); have R_R_k1 := Lib.hid (Row.grows R2.out g); have G_k1 := Lib.hid ((HG.out).trans g); have O_p_new := Lib.hid (op); have O_c_new := Lib.hid oc; have O_b_new := Lib.hid ob; clear op oc ob g)
    | ((with_reducible refine wpList_store_dk ?_ (.tmp 3) (.tmp 5) ?_ ku1.heap.size #[.slice A2 d.pages.length c2, .slice A3 d.cache.length c3, .slice A4 d.bad.length c4, .bool d.off] #[.slice none 0 0, .slice none 0 0, .slice none 0 0, .bool false] ?_ ?_ ?_ ?_ ?_ ?_ ?_); exact rfl; exact rfl; exact rfl; exact rfl; exact H4.out.1; exact rfl; exact H4.out.2; exact Row.new ku1 _ _; intro ku2 hp hg; have g := grown_fresh rfl hg; have R_D_k2 := Lib.hid (Row.grows R_D_k1.out g); have R_R_k2 := Lib.hid (Row.grows R_R_k1.out g); have O_p_k2 := Lib.hid (O_p_new.out.grows g); have O_c_k2 := Lib.hid (O_c_new.out.grows g); have O_b_k2 := Lib.hid (O_b_new.out.grows g); have G_k2 := Lib.hid ((G_k1.out).trans g); have R_T_new := Lib.hid hp; have Zk1 := Lib.hid (Row.lt hp); have Zk2 := Lib.hid (Below.size g); clear hp hg g)
    | ((with_reducible refine wpList_store_c ?_ 4 (.tmp 6) (.const (.bool true)) ?_ ku1.heap.size 3 (.bool true) #[.slice A2 d.pages.length c2, .slice A3 d.cache.length c3, .slice A4 d.bad.length c4, .bool d.off] 26 ?_ ?_ ?_ ?_ ?_ ?_ ?_); exact rfl; exact rfl; exact rfl; exact rfl; exact rfl; exact one_off; exact R_T_new.out; exact (by simp); intro ku3 hp hg; have R_D_k3 := Lib.hid (R_D_k2.out.grown hg (by have zW0 := ZW0.out; have zk0 := Zk0.out; have zk1 := Zk1.out; have zk2 := Zk2.out; intro e; have e := Option.some.inj e; omega)); have R_R_k3 := Lib.hid (R_R_k2.out.grown hg (by have zW0 := ZW0.out; have zk0 := Zk0.out; have zk1 := Zk1.out; have zk2 := Zk2.out; intro e; have e := Option.some.inj e; omega)); have R_T_k3 := Lib.hid hp; have O_p_k3 := Lib.hid (O_p_k2.out.aside hg R_T_new.out (by decide)); have O_c_k3 := Lib.hid (O_c_k2.out.aside hg R_T_new.out (by decide)); have O_b_k3 := Lib.hid (O_b_k2.out.aside hg R_T_new.out (by decide)); have G_k3 := Lib.hid ((G_k2.out).grown hg (G_k2.out).size (by have zW0 := ZW0.out; have zk0 := Zk0.out; have zk1 := Zk1.out; have zk2 := Zk2.out; intro k e; have e := Option.some.inj e; omega)); clear hp hg)
    | ((with_reducible refine wpList_store_c ?_ 23 (.tmp 7) (.const (.slice none 0 0)) ?_ ku1.heap.size 1 (.slice none 0 0) #[.slice A2 d.pages.length c2, .slice A3 d.cache.length c3, .slice A4 d.bad.length c4, .bool true] 26 ?_ ?_ ?_ ?_ ?_ ?_ ?_); exact rfl; exact rfl; exact rfl; exact rfl; exact rfl; exact one_cache; exact R_T_k3.out; exact (by simp); intro ku4 hp hg; have R_D_k4 := Lib.hid (R_D_k3.out.grown hg (by have zW0 := ZW0.out; have zk0 := Zk0.out; have zk1 := Zk1.out; have zk2 := Zk2.out; intro e; have e := Option.some.inj e; omega)); have R_R_k4 := Lib.hid (R_R_k3.out.grown hg (by have zW0 := ZW0.out; have zk0 := Zk0.out; have zk1 := Zk1.out; have zk2 := Zk2.out; intro e; have e := Option.some.inj e; omega)); have R_T_k4 := Lib.hid hp; have O_p_k4 := Lib.hid (O_p_k3.out.aside hg R_T_k3.out (by decide)); have O_c_k4 := Lib.hid (O_c_k3.out.aside hg R_T_k3.out (by decide)); have O_b_k4 := Lib.hid (O_b_k3.out.aside hg R_T_k3.out (by decide)); have G_k4 := Lib.hid ((G_k3.out).grown hg (G_k3.out).size (by have zW0 := ZW0.out; have zk0 := Zk0.out; have zk1 := Zk1.out; have zk2 := Zk2.out; intro k e; have e := Option.some.inj e; omega)); clear hp hg)
    | ((with_reducible refine wpList_load_dk (o := ⟨some 8, _, _, _, _, _⟩) ?_ (.tmp 3) ?_ ku1.heap.size #[.slice A2 d.pages.length c2, .slice none 0 0, .slice A4 d.bad.length c4, .bool true] ?_ ?_ ?_ ?_); exact rfl; exact rfl; exact rfl; exact R_T_k4.out; exact rfl)
    | ((with_reducible refine wpList_store_dk ?_ (.tmp 2) (.tmp 8) ?_ (w.heap.size + 1) #[.slice A2 d.pages.length c2, .slice none 0 0, .slice A4 d.bad.length c4, .bool true] #[.slice none 0 0, .slice none 0 0, .slice none 0 0, .bool false] ?_ ?_ ?_ ?_ ?_ ?_ ?_); exact rfl; exact rfl; exact rfl; exact rfl; exact rfl; exact rfl; exact (by simp [Value.oneCell']); exact R_R_k4.out; intro w6 hw6 hg6))
  refine bodyPost_ret (results_dk (p := 2) (by exact rfl) _ (by exact rfl) (by exact rfl) hw6) rfl ?_
  exact ⟨_, rfl, ⟨_, _, _, rfl, O_p_k4.out.aside hg6 R_R_k4.out (by decide), Own'.nothing _ _ _ _ _, O_b_k4.out.aside hg6 R_R_k4.out (by decide)⟩, (G_k4.out).grown hg6 (G_k4.out).size (fun k e => by cases e; omega)⟩
set_option maxRecDepth 20000 in
set_option maxHeartbeats 4000000 in
theorem rattach_any (v : Value) (d : Dk) (w : World) (hv : IsDisk w.heap.size w v d) (l1 : d.pages.length ≤ 1000000) (l2 : d.cache.length ≤ 1000000) (l3 : d.bad.length ≤ 1000000) :
    Calls Try.prog 19 #[v] w fun e w' => ∃ r, e = .returned r ∧ OwnDisk w.heap.size w' r ⟨d.pages, d.cache, d.bad, false⟩ ∧ Grows w w' := by
  have L1 := Lib.hid l1; have L2 := Lib.hid l2; have L3 := Lib.hid l3
  clear l1 l2 l3
  have HV := Lib.hid hv
  obtain ⟨pv, cv, bv, rfl, hp, hc, hb⟩ := hv
  have HP := Lib.hid hp; have HC := Lib.hid hc; have HB := Lib.hid hb
  obtain ⟨AP, cP, rfl, p1, p2, p3⟩ := hp.form
  obtain ⟨AC, cC, rfl, q1, q2, q3⟩ := hc.form
  obtain ⟨AB, cB, rfl, b1, b2, b3⟩ := hb.ints
  have HPf := Lib.hid p3; have HCf := Lib.hid q3; have HBf := Lib.hid b3
  clear hp hc hb p3 q3 b3
  unfold maxLen at p2 q2 b2
  obtain ⟨D, hD⟩ : ∃ D, D = #[Value.slice AP d.pages.length cP, .slice AC d.cache.length cC, .slice AB d.bad.length cB, .bool d.off] := ⟨_, rfl⟩
  have Ds : Hid (D.size = 4 ∧ D[0]? = some (.slice AP d.pages.length cP) ∧ D[1]? = some (.slice AC d.cache.length cC) ∧ D[2]? = some (.slice AB d.bad.length cB) ∧ D[3]? = some (.bool d.off)) := by subst hD; exact ⟨rfl, rfl, rfl, rfl, rfl⟩
  have HDe := Lib.hid hD
  rw [← hD] at HV ⊢
  clear hD
  have R1 := Lib.hid ((Row.new w 26 D).alloc (.cells #[.slice none 0 0, .slice none 0 0, .slice none 0 0, .bool false] 26))
  have R2 : Hid (Row ((w.alloc (.cells D 26)).alloc (.cells #[.slice none 0 0, .slice none 0 0, .slice none 0 0, .bool false] 26)) (w.heap.size + 1) 26 #[.slice none 0 0, .slice none 0 0, .slice none 0 0, .bool false]) := by
    have := Row.new (w.alloc (.cells D 26)) 26 #[.slice none 0 0, .slice none 0 0, .slice none 0 0, .bool false]
    rwa [World.size_alloc] at this
  have HG := Lib.hid ((Grows.alloc w (.cells D 26)).trans (Grows.alloc _ (.cells #[.slice none 0 0, .slice none 0 0, .slice none 0 0, .bool false] 26)))
  have ZW0 : Hid (((w.alloc (.cells D 26)).alloc (.cells #[.slice none 0 0, .slice none 0 0, .slice none 0 0, .bool false] 26)).heap.size = w.heap.size + 2) := by unfold Hid; simp
  go_enter Try.func19, Try.ntmps19
  go_wp2_with (first
    | ((with_reducible refine wpList_load_dk (o := ⟨some 4, _, _, _, _, _⟩) ?_ (.tmp 1) ?_ w.heap.size D ?_ ?_ ?_ ?_); exact rfl; exact rfl; exact rfl; exact R1.out; exact Ds.out.1)
    | (go_at_call 22; (with_reducible refine (rown4_any _ d _ (HV.out.grows HG.out) L1.out L2.out L3.out).mono ?_); rintro e ku1 ⟨r, rfl, hr, g⟩; obtain ⟨pv2, cv2, bv2, rfl, o1, o2, o3⟩ := hr; obtain ⟨A2, c2, rfl, _⟩ := o1.els.form; obtain ⟨A3, c3, rfl, _⟩ := o2.els.form; obtain ⟨A4, c4, rfl, e4, e5, _⟩ := o3.els.form; have H4 := Lib.hid (dk_one (d := d) ⟨_, _, _, rfl, o1.els, o2.els, o3.els⟩); have op := o1.more (HG.out).size; have oc := o2.more (HG.out).size; have ob := o3.more (HG.out).size; clear o1 o2 o3; have Zk0 := Lib.hid (Below.size g); have R_D_k1 := Lib.hid (Row.grows R1.out g); have R_R_k1 := Lib.hid (Row.grows R2.out g); have G_k1 := Lib.hid ((HG.out).trans g); have O_p_new := Lib.hid (op); have O_c_new := Lib.hid oc; have O_b_new := Lib.hid ob; clear op oc ob g)
    | ((with_reducible refine wpList_store_dk ?_ (.tmp 3) (.tmp 5) ?_ ku1.heap.size #[.slice A2 d.pages.length c2, .slice A3 d.cache.length c3, .slice A4 d.bad.length c4, .bool d.off] #[.slice none 0 0, .slice none 0 0, .slice none 0 0, .bool false] ?_ ?_ ?_ ?_ ?_ ?_ ?_); exact rfl; exact rfl; exact rfl; exact rfl; exact H4.out.1; exact rfl; exact H4.out.2; exact Row.new ku1 _ _; intro ku2 hp hg; have g := grown_fresh rfl hg; have R_D_k2 := Lib.hid (Row.grows R_D_k1.out g); have R_R_k2 := Lib.hid (Row.grows R_R_k1.out g); have O_p_k2 := Lib.hid (O_p_new.out.grows g); have O_c_k2 := Lib.hid (O_c_new.out.grows g); have O_b_k2 := Lib.hid (O_b_new.out.grows g); have G_k2 := Lib.hid ((G_k1.out).trans g); have R_T_new := Lib.hid hp; have Zk1 := Lib.hid (Row.lt hp); have Zk2 := Lib.hid (Below.size g); clear hp hg g)
    | ((with_reducible refine wpList_store_c ?_ 4 (.tmp 6) (.const (.bool false)) ?_ ku1.heap.size 3 (.bool false) #[.slice A2 d.pages.length c2, .slice A3 d.cache.length c3, .slice A4 d.bad.length c4, .bool d.off] 26 ?_ ?_ ?_ ?_ ?_ ?_ ?_); exact rfl; exact rfl; exact rfl; exact rfl; exact rfl; exact one_off; exact R_T_new.out; exact (by simp); intro ku3 hp hg; have R_D_k3 := Lib.hid (R_D_k2.out.grown hg (by have zW0 := ZW0.out; have zk0 := Zk0.out; have zk1 := Zk1.out; have zk2 := Zk2.out; intro e; have e := Option.some.inj e; omega)); have R_R_k3 := Lib.hid (R_R_k2.out.grown hg (by have zW0 := ZW0.out; have zk0 := Zk0.out; have zk1 := Zk1.out; have zk2 := Zk2.out; intro e; have e := Option.some.inj e; omega)); have R_T_k3 := Lib.hid hp; have O_p_k3 := Lib.hid (O_p_k2.out.aside hg R_T_new.out (by decide)); have O_c_k3 := Lib.hid (O_c_k2.out.aside hg R_T_new.out (by decide)); have O_b_k3 := Lib.hid (O_b_k2.out.aside hg R_T_new.out (by decide)); have G_k3 := Lib.hid ((G_k2.out).grown hg (G_k2.out).size (by have zW0 := ZW0.out; have zk0 := Zk0.out; have zk1 := Zk1.out; have zk2 := Zk2.out; intro k e; have e := Option.some.inj e; omega)); clear hp hg)
    | ((with_reducible refine wpList_load_dk (o := ⟨some 7, _, _, _, _, _⟩) ?_ (.tmp 3) ?_ ku1.heap.size #[.slice A2 d.pages.length c2, .slice A3 d.cache.length c3, .slice A4 d.bad.length c4, .bool false] ?_ ?_ ?_ ?_); exact rfl; exact rfl; exact rfl; exact R_T_k3.out; exact rfl)
    | ((with_reducible refine wpList_store_dk ?_ (.tmp 2) (.tmp 7) ?_ (w.heap.size + 1) #[.slice A2 d.pages.length c2, .slice A3 d.cache.length c3, .slice A4 d.bad.length c4, .bool false] #[.slice none 0 0, .slice none 0 0, .slice none 0 0, .bool false] ?_ ?_ ?_ ?_ ?_ ?_ ?_); exact rfl; exact rfl; exact rfl; exact rfl; exact rfl; exact rfl; exact (by simp [Value.oneCell']); exact R_R_k3.out; intro w6 hw6 hg6))
  refine bodyPost_ret (results_dk (p := 2) (by exact rfl) _ (by exact rfl) (by exact rfl) hw6) rfl ?_
  exact ⟨_, rfl, ⟨_, _, _, rfl, O_p_k3.out.aside hg6 R_R_k3.out (by decide), O_c_k3.out.aside hg6 R_R_k3.out (by decide), O_b_k3.out.aside hg6 R_R_k3.out (by decide)⟩, (G_k3.out).grown hg6 (G_k3.out).size (fun k e => by cases e; omega)⟩
end Go.Proofs.Ytiagmlokocpboaa
