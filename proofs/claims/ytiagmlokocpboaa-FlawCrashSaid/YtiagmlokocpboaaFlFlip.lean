/- FlFlip -/
import Derived.Test.YtiagmlokocpboaaFlOwn
import Derived.Test.YtiagmlokocpboaaFlPage
/- flaw.Flip, and the document's. -/
namespace Go.Proofs.Ytiagmlokocpboaa
open Go.RowKit
set_option linter.unusedVariables false
set_option linter.unusedSimpArgs false
attribute [local go_sem] bits_xor_b
set_option maxRecDepth 20000 in
set_option maxHeartbeats 4000000 in
theorem flflip_any (v : Value) (d : Dk) (n o : Int) (b : BitVec 8) (w : World) (hv : IsDisk w.heap.size w v d) (l1 : d.pages.length ≤ 1000000) (l2 : d.cache.length ≤ 1000000) (l3 : d.bad.length ≤ 1000000) :
    Calls Try.prog 9 #[v, .int .i64 n, .int .i64 o, .int .u8 (bI b)] w fun e w' => ∃ r, e = .returned (.tuple #[r, .int .i64 (FlM.flipE d n o)]) ∧ OwnDisk w.heap.size w' r (FlM.flipD d n o b) ∧ Grows w w' := by
  have L1 := Lib.hid l1; have L2 := Lib.hid l2; have L3 := Lib.hid l3
  clear l1 l2 l3
  have HV := Lib.hid hv
  obtain ⟨pv, cv, bv, rfl, hp, hc, hb⟩ := hv
  have HP := Lib.hid hp; have HC := Lib.hid hc; have HB := Lib.hid hb
  obtain ⟨AP, cP, rfl, p1, p2, p3⟩ := hp.form
  obtain ⟨AC, cC, rfl, q1, q2, q3⟩ := hc.form
  obtain ⟨AB, cB, rfl, b1, b2, b3⟩ := hb.ints
  have HPf := Lib.hid p3; have HCf := Lib.hid q3; have HBf := Lib.hid b3
  clear hp hc hb p3 q3 b3
  unfold maxLen at p2 q2 b2
  obtain ⟨D, hD⟩ : ∃ D, D = #[Value.slice AP d.pages.length cP, .slice AC d.cache.length cC, .slice AB d.bad.length cB, .bool d.off] := ⟨_, rfl⟩
  have Ds : Hid (D.size = 4 ∧ D[0]? = some (.slice AP d.pages.length cP) ∧ D[1]? = some (.slice AC d.cache.length cC) ∧ D[2]? = some (.slice AB d.bad.length cB) ∧ D[3]? = some (.bool d.off)) := by subst hD; exact ⟨rfl, rfl, rfl, rfl, rfl⟩
  have HDe := Lib.hid hD
  rw [← hD] at HV ⊢
  clear hD
  have R1 := Lib.hid ((Row.new w 26 D).alloc (.cells #[.slice none 0 0, .slice none 0 0, .slice none 0 0, .bool false] 26))
  have R2 : Hid (Row ((w.alloc (.cells D 26)).alloc (.cells #[.slice none 0 0, .slice none 0 0, .slice none 0 0, .bool false] 26)) (w.heap.size + 1) 26 #[.slice none 0 0, .slice none 0 0, .slice none 0 0, .bool false]) := by
    have := Row.new (w.alloc (.cells D 26)) 26 #[.slice none 0 0, .slice none 0 0, .slice none 0 0, .bool false]
    rwa [World.size_alloc] at this
  have HG := Lib.hid ((Grows.alloc w (.cells D 26)).trans (Grows.alloc _ (.cells #[.slice none 0 0, .slice none 0 0, .slice none 0 0, .bool false] 26)))
  have ZW0 : Hid (((w.alloc (.cells D 26)).alloc (.cells #[.slice none 0 0, .slice none 0 0, .slice none 0 0, .bool false] 26)).heap.size = w.heap.size + 2) := by unfold Hid; simp
  have HFD : Hid (FlM.flipD d n o b = if FlM.onDk d n && FlM.onPg o then { d with pages := d.pages.set n.toNat (FlM.flipP (d.pages[n.toNat]?.getD []) o.toNat b) } else d) := rfl
  have HFE : Hid (FlM.flipE d n o = if FlM.onDk d n && FlM.onPg o then 0 else 2) := rfl
  have HOn : Hid (FlM.onDk d n = (decide (0 ≤ n) && decide (n < d.pages.length))) := rfl
  have HOp : Hid (FlM.onPg o = (decide (0 ≤ o) && decide (o < 256))) := rfl
  have HAS := Lib.hid (fun W (h : IsDisk (World.heap W).size W (.agg D) d) => flhas_any _ d n W h)
  by_cases hx1 : 0 ≤ n
  case neg =>
    have hn : (FlM.onDk d n && FlM.onPg o) = false := by rw [HOn.out, decide_eq_false hx1]; rfl
    have e1 := HFD.out.trans (if_neg (by rw [hn]; decide)); have e2 := HFE.out.trans (if_neg (by rw [hn]; decide))
    rw [e1, e2]
    clear e1 e2 hn HFD HFE
    rw [show FlM.onDk d n = false from by rw [HOn.out, decide_eq_false hx1]; rfl] at HAS
    have hx1' : n < 0 := by omega
    go_enter Try.func9, Try.ntmps9
    go_wp2_with (first
      | ((with_reducible refine wpList_load_dk (o := ⟨some 11, _, _, _, _, _⟩) ?_ (.tmp 4) ?_ w.heap.size D ?_ ?_ ?_ ?_); exact rfl; exact rfl; exact rfl; exact R1.out; exact Ds.out.1)
      | (go_at_call 20; (with_reducible refine (flown_any _ d _ (HV.out.grows HG.out) L1.out L2.out L3.out).mono ?_); rintro e ku1 ⟨r, rfl, hr, g⟩; obtain ⟨pv2, cv2, bv2, rfl, o1, o2, o3⟩ := hr; have hoc : OwnDisk w.heap.size ku1 (.agg #[pv2, cv2, bv2, .bool d.off]) d := (OwnDisk.more ⟨_, _, _, rfl, o1, o2, o3⟩ (HG.out).size); have H4 := Lib.hid (dk_one hoc.disk); clear o1 o2 o3; have Zk0 := Lib.hid (Below.size g); have R_D_k1 := Lib.hid (Row.grows R1.out g); have R_R_k1 := Lib.hid (Row.grows R2.out g); have G_k1 := Lib.hid ((HG.out).trans g); have O_o_new := Lib.hid (hoc); clear g)
      | ((with_reducible refine wpList_store_dk ?_ (.tmp 10) (.tmp 12) ?_ ku1.heap.size #[pv2, cv2, bv2, .bool d.off] #[.slice none 0 0, .slice none 0 0, .slice none 0 0, .bool false] ?_ ?_ ?_ ?_ ?_ ?_ ?_); exact rfl; exact rfl; exact rfl; exact rfl; exact H4.out.1; exact rfl; exact H4.out.2; exact Row.new ku1 _ _; intro ku2 hp hg; have g := grown_fresh rfl hg; have R_D_k2 := Lib.hid (Row.grows R_D_k1.out g); have R_R_k2 := Lib.hid (Row.grows R_R_k1.out g); have O_o_k2 := Lib.hid (O_o_new.out.grows g); have G_k2 := Lib.hid ((G_k1.out).trans g); have R_T_new := Lib.hid hp; have Zk1 := Lib.hid (Row.lt hp); have Zk2 := Lib.hid (Below.size g); clear hp hg g)
      | ((with_reducible refine wpList_load_dk (o := ⟨some 13, _, _, _, _, _⟩) ?_ (.tmp 4) ?_ w.heap.size D ?_ ?_ ?_ ?_); exact rfl; exact rfl; exact rfl; exact R_D_k2.out; exact Ds.out.1)
      | (go_at_call 26; (with_reducible refine (HAS.out _ (HV.out.grows G_k2.out)).mono ?_); rintro e ku3 ⟨rfl, g⟩; have Zk3 := Lib.hid (Below.size g); have R_D_k3 := Lib.hid (Row.grows R_D_k2.out g); have R_R_k3 := Lib.hid (Row.grows R_R_k2.out g); have R_T_k3 := Lib.hid (Row.grows R_T_new.out g); have O_o_k3 := Lib.hid (O_o_k2.out.grows g); have G_k3 := Lib.hid ((G_k2.out).trans g); clear g)
      | ((with_reducible refine wpList_load_dk (o := ⟨some 25, _, _, _, _, _⟩) ?_ (.tmp 10) ?_ ku1.heap.size #[pv2, cv2, bv2, .bool d.off] ?_ ?_ ?_ ?_); exact rfl; exact rfl; exact rfl; exact R_T_k3.out; exact rfl)
      | ((with_reducible refine wpList_store_dk ?_ (.tmp 8) (.tmp 25) ?_ (w.heap.size + 1) #[pv2, cv2, bv2, .bool d.off] #[.slice none 0 0, .slice none 0 0, .slice none 0 0, .bool false] ?_ ?_ ?_ ?_ ?_ ?_ ?_); exact rfl; exact rfl; exact rfl; exact rfl; exact H4.out.1; exact rfl; exact H4.out.2; exact R_R_k3.out; intro ku4 hp hg; have R_D_k4 := Lib.hid (R_D_k3.out.grown hg (by have zW0 := ZW0.out; have zk0 := Zk0.out; have zk1 := Zk1.out; have zk2 := Zk2.out; have zk3 := Zk3.out; intro e; have e := Option.some.inj e; omega)); have R_R_k4 := Lib.hid hp; have R_T_k4 := Lib.hid (R_T_k3.out.grown hg (by have zW0 := ZW0.out; have zk0 := Zk0.out; have zk1 := Zk1.out; have zk2 := Zk2.out; have zk3 := Zk3.out; intro e; have e := Option.some.inj e; omega)); have O_o_k4 := Lib.hid (O_o_k3.out.beside hg R_R_k3.out); have G_k4 := Lib.hid ((G_k3.out).grown hg (G_k3.out).size (by have zW0 := ZW0.out; have zk0 := Zk0.out; have zk1 := Zk1.out; have zk2 := Zk2.out; have zk3 := Zk3.out; intro k e; have e := Option.some.inj e; omega)); clear hp hg))
    refine bodyPost_ret (results_dk_two (p := 8) (q := 9) (by exact rfl) _ (.int .i64 2) (by exact rfl) (by exact rfl) (by exact rfl) R_R_k4.out) rfl ?_
    exact ⟨_, rfl, O_o_k4.out, G_k4.out⟩
  by_cases hx2 : n < d.pages.length
  case neg =>
    have hn : (FlM.onDk d n && FlM.onPg o) = false := by rw [HOn.out, decide_eq_false hx2, Bool.and_false]; rfl
    have e1 := HFD.out.trans (if_neg (by rw [hn]; decide)); have e2 := HFE.out.trans (if_neg (by rw [hn]; decide))
    rw [e1, e2]
    clear e1 e2 hn HFD HFE
    rw [show FlM.onDk d n = false from by rw [HOn.out, decide_eq_false hx2, Bool.and_false]] at HAS
    have hx2' : (d.pages.length : Int) ≤ n := by omega
    have hx1' : ¬ n < 0 := by omega
    go_enter Try.func9, Try.ntmps9
    go_wp2_with (first
      | ((with_reducible refine wpList_load_dk (o := ⟨some 11, _, _, _, _, _⟩) ?_ (.tmp 4) ?_ w.heap.size D ?_ ?_ ?_ ?_); exact rfl; exact rfl; exact rfl; exact R1.out; exact Ds.out.1)
      | (go_at_call 20; (with_reducible refine (flown_any _ d _ (HV.out.grows HG.out) L1.out L2.out L3.out).mono ?_); rintro e ku1 ⟨r, rfl, hr, g⟩; obtain ⟨pv2, cv2, bv2, rfl, o1, o2, o3⟩ := hr; have hoc : OwnDisk w.heap.size ku1 (.agg #[pv2, cv2, bv2, .bool d.off]) d := (OwnDisk.more ⟨_, _, _, rfl, o1, o2, o3⟩ (HG.out).size); have H4 := Lib.hid (dk_one hoc.disk); clear o1 o2 o3; have Zk0 := Lib.hid (Below.size g); have R_D_k1 := Lib.hid (Row.grows R1.out g); have R_R_k1 := Lib.hid (Row.grows R2.out g); have G_k1 := Lib.hid ((HG.out).trans g); have O_o_new := Lib.hid (hoc); clear g)
      | ((with_reducible refine wpList_store_dk ?_ (.tmp 10) (.tmp 12) ?_ ku1.heap.size #[pv2, cv2, bv2, .bool d.off] #[.slice none 0 0, .slice none 0 0, .slice none 0 0, .bool false] ?_ ?_ ?_ ?_ ?_ ?_ ?_); exact rfl; exact rfl; exact rfl; exact rfl; exact H4.out.1; exact rfl; exact H4.out.2; exact Row.new ku1 _ _; intro ku2 hp hg; have g := grown_fresh rfl hg; have R_D_k2 := Lib.hid (Row.grows R_D_k1.out g); have R_R_k2 := Lib.hid (Row.grows R_R_k1.out g); have O_o_k2 := Lib.hid (O_o_new.out.grows g); have G_k2 := Lib.hid ((G_k1.out).trans g); have R_T_new := Lib.hid hp; have Zk1 := Lib.hid (Row.lt hp); have Zk2 := Lib.hid (Below.size g); clear hp hg g)
      | ((with_reducible refine wpList_load_dk (o := ⟨some 13, _, _, _, _, _⟩) ?_ (.tmp 4) ?_ w.heap.size D ?_ ?_ ?_ ?_); exact rfl; exact rfl; exact rfl; exact R_D_k2.out; exact Ds.out.1)
      | (go_at_call 26; (with_reducible refine (HAS.out _ (HV.out.grows G_k2.out)).mono ?_); rintro e ku3 ⟨rfl, g⟩; have Zk3 := Lib.hid (Below.size g); have R_D_k3 := Lib.hid (Row.grows R_D_k2.out g); have R_R_k3 := Lib.hid (Row.grows R_R_k2.out g); have R_T_k3 := Lib.hid (Row.grows R_T_new.out g); have O_o_k3 := Lib.hid (O_o_k2.out.grows g); have G_k3 := Lib.hid ((G_k2.out).trans g); clear g)
      | ((with_reducible refine wpList_load_dk (o := ⟨some 25, _, _, _, _, _⟩) ?_ (.tmp 10) ?_ ku1.heap.size #[pv2, cv2, bv2, .bool d.off] ?_ ?_ ?_ ?_); exact rfl; exact rfl; exact rfl; exact R_T_k3.out; exact rfl)
      | ((with_reducible refine wpList_store_dk ?_ (.tmp 8) (.tmp 25) ?_ (w.heap.size + 1) #[pv2, cv2, bv2, .bool d.off] #[.slice none 0 0, .slice none 0 0, .slice none 0 0, .bool false] ?_ ?_ ?_ ?_ ?_ ?_ ?_); exact rfl; exact rfl; exact rfl; exact rfl; exact H4.out.1; exact rfl; exact H4.out.2; exact R_R_k3.out; intro ku4 hp hg; have R_D_k4 := Lib.hid (R_D_k3.out.grown hg (by have zW0 := ZW0.out; have zk0 := Zk0.out; have zk1 := Zk1.out; have zk2 := Zk2.out; have zk3 := Zk3.out; intro e; have e := Option.some.inj e; omega)); have R_R_k4 := Lib.hid hp; have R_T_k4 := Lib.hid (R_T_k3.out.grown hg (by have zW0 := ZW0.out; have zk0 := Zk0.out; have zk1 := Zk1.out; have zk2 := Zk2.out; have zk3 := Zk3.out; intro e; have e := Option.some.inj e; omega)); have O_o_k4 := Lib.hid (O_o_k3.out.beside hg R_R_k3.out); have G_k4 := Lib.hid ((G_k3.out).grown hg (G_k3.out).size (by have zW0 := ZW0.out; have zk0 := Zk0.out; have zk1 := Zk1.out; have zk2 := Zk2.out; have zk3 := Zk3.out; intro k e; have e := Option.some.inj e; omega)); clear hp hg))
    refine bodyPost_ret (results_dk_two (p := 8) (q := 9) (by exact rfl) _ (.int .i64 2) (by exact rfl) (by exact rfl) (by exact rfl) R_R_k4.out) rfl ?_
    exact ⟨_, rfl, O_o_k4.out, G_k4.out⟩
  rw [show FlM.onDk d n = true from by rw [HOn.out, decide_eq_true hx1, decide_eq_true hx2]; rfl] at HAS
  have hx1' : ¬ n < 0 := by omega
  have hx2' : ¬ (d.pages.length : Int) ≤ n := by omega
  by_cases hx3 : 0 ≤ o
  case neg =>
    have hn : (FlM.onDk d n && FlM.onPg o) = false := by rw [HOp.out, decide_eq_false hx3, Bool.false_and, Bool.and_false]
    have e1 := HFD.out.trans (if_neg (by rw [hn]; decide)); have e2 := HFE.out.trans (if_neg (by rw [hn]; decide))
    rw [e1, e2]
    clear e1 e2 hn HFD HFE
    have hx3' : o < 0 := by omega
    go_enter Try.func9, Try.ntmps9
    go_wp2_with (first
      | ((with_reducible refine wpList_load_dk (o := ⟨some 11, _, _, _, _, _⟩) ?_ (.tmp 4) ?_ w.heap.size D ?_ ?_ ?_ ?_); exact rfl; exact rfl; exact rfl; exact R1.out; exact Ds.out.1)
      | (go_at_call 20; (with_reducible refine (flown_any _ d _ (HV.out.grows HG.out) L1.out L2.out L3.out).mono ?_); rintro e ku1 ⟨r, rfl, hr, g⟩; obtain ⟨pv2, cv2, bv2, rfl, o1, o2, o3⟩ := hr; have hoc : OwnDisk w.heap.size ku1 (.agg #[pv2, cv2, bv2, .bool d.off]) d := (OwnDisk.more ⟨_, _, _, rfl, o1, o2, o3⟩ (HG.out).size); have H4 := Lib.hid (dk_one hoc.disk); clear o1 o2 o3; have Zk0 := Lib.hid (Below.size g); have R_D_k1 := Lib.hid (Row.grows R1.out g); have R_R_k1 := Lib.hid (Row.grows R2.out g); have G_k1 := Lib.hid ((HG.out).trans g); have O_o_new := Lib.hid (hoc); clear g)
      | ((with_reducible refine wpList_store_dk ?_ (.tmp 10) (.tmp 12) ?_ ku1.heap.size #[pv2, cv2, bv2, .bool d.off] #[.slice none 0 0, .slice none 0 0, .slice none 0 0, .bool false] ?_ ?_ ?_ ?_ ?_ ?_ ?_); exact rfl; exact rfl; exact rfl; exact rfl; exact H4.out.1; exact rfl; exact H4.out.2; exact Row.new ku1 _ _; intro ku2 hp hg; have g := grown_fresh rfl hg; have R_D_k2 := Lib.hid (Row.grows R_D_k1.out g); have R_R_k2 := Lib.hid (Row.grows R_R_k1.out g); have O_o_k2 := Lib.hid (O_o_new.out.grows g); have G_k2 := Lib.hid ((G_k1.out).trans g); have R_T_new := Lib.hid hp; have Zk1 := Lib.hid (Row.lt hp); have Zk2 := Lib.hid (Below.size g); clear hp hg g)
      | ((with_reducible refine wpList_load_dk (o := ⟨some 13, _, _, _, _, _⟩) ?_ (.tmp 4) ?_ w.heap.size D ?_ ?_ ?_ ?_); exact rfl; exact rfl; exact rfl; exact R_D_k2.out; exact Ds.out.1)
      | (go_at_call 26; (with_reducible refine (HAS.out _ (HV.out.grows G_k2.out)).mono ?_); rintro e ku3 ⟨rfl, g⟩; have Zk3 := Lib.hid (Below.size g); have R_D_k3 := Lib.hid (Row.grows R_D_k2.out g); have R_R_k3 := Lib.hid (Row.grows R_R_k2.out g); have R_T_k3 := Lib.hid (Row.grows R_T_new.out g); have O_o_k3 := Lib.hid (O_o_k2.out.grows g); have G_k3 := Lib.hid ((G_k2.out).trans g); clear g)
      | ((with_reducible refine wpList_load_dk (o := ⟨some 25, _, _, _, _, _⟩) ?_ (.tmp 10) ?_ ku1.heap.size #[pv2, cv2, bv2, .bool d.off] ?_ ?_ ?_ ?_); exact rfl; exact rfl; exact rfl; exact R_T_k3.out; exact rfl)
      | ((with_reducible refine wpList_store_dk ?_ (.tmp 8) (.tmp 25) ?_ (w.heap.size + 1) #[pv2, cv2, bv2, .bool d.off] #[.slice none 0 0, .slice none 0 0, .slice none 0 0, .bool false] ?_ ?_ ?_ ?_ ?_ ?_ ?_); exact rfl; exact rfl; exact rfl; exact rfl; exact H4.out.1; exact rfl; exact H4.out.2; exact R_R_k3.out; intro ku4 hp hg; have R_D_k4 := Lib.hid (R_D_k3.out.grown hg (by have zW0 := ZW0.out; have zk0 := Zk0.out; have zk1 := Zk1.out; have zk2 := Zk2.out; have zk3 := Zk3.out; intro e; have e := Option.some.inj e; omega)); have R_R_k4 := Lib.hid hp; have R_T_k4 := Lib.hid (R_T_k3.out.grown hg (by have zW0 := ZW0.out; have zk0 := Zk0.out; have zk1 := Zk1.out; have zk2 := Zk2.out; have zk3 := Zk3.out; intro e; have e := Option.some.inj e; omega)); have O_o_k4 := Lib.hid (O_o_k3.out.beside hg R_R_k3.out); have G_k4 := Lib.hid ((G_k3.out).grown hg (G_k3.out).size (by have zW0 := ZW0.out; have zk0 := Zk0.out; have zk1 := Zk1.out; have zk2 := Zk2.out; have zk3 := Zk3.out; intro k e; have e := Option.some.inj e; omega)); clear hp hg))
    refine bodyPost_ret (results_dk_two (p := 8) (q := 9) (by exact rfl) _ (.int .i64 2) (by exact rfl) (by exact rfl) (by exact rfl) R_R_k4.out) rfl ?_
    exact ⟨_, rfl, O_o_k4.out, G_k4.out⟩
  have hx3' : ¬ o < 0 := by omega
  by_cases hx4 : o < 256
  case neg =>
    have hn : (FlM.onDk d n && FlM.onPg o) = false := by rw [HOp.out, decide_eq_false hx4, Bool.and_false, Bool.and_false]
    have e1 := HFD.out.trans (if_neg (by rw [hn]; decide)); have e2 := HFE.out.trans (if_neg (by rw [hn]; decide))
    rw [e1, e2]
    clear e1 e2 hn HFD HFE
    have hx4' : 256 ≤ o := by omega
    go_enter Try.func9, Try.ntmps9
    go_wp2_with (first
      | ((with_reducible refine wpList_load_dk (o := ⟨some 11, _, _, _, _, _⟩) ?_ (.tmp 4) ?_ w.heap.size D ?_ ?_ ?_ ?_); exact rfl; exact rfl; exact rfl; exact R1.out; exact Ds.out.1)
      | (go_at_call 20; (with_reducible refine (flown_any _ d _ (HV.out.grows HG.out) L1.out L2.out L3.out).mono ?_); rintro e ku1 ⟨r, rfl, hr, g⟩; obtain ⟨pv2, cv2, bv2, rfl, o1, o2, o3⟩ := hr; have hoc : OwnDisk w.heap.size ku1 (.agg #[pv2, cv2, bv2, .bool d.off]) d := (OwnDisk.more ⟨_, _, _, rfl, o1, o2, o3⟩ (HG.out).size); have H4 := Lib.hid (dk_one hoc.disk); clear o1 o2 o3; have Zk0 := Lib.hid (Below.size g); have R_D_k1 := Lib.hid (Row.grows R1.out g); have R_R_k1 := Lib.hid (Row.grows R2.out g); have G_k1 := Lib.hid ((HG.out).trans g); have O_o_new := Lib.hid (hoc); clear g)
      | ((with_reducible refine wpList_store_dk ?_ (.tmp 10) (.tmp 12) ?_ ku1.heap.size #[pv2, cv2, bv2, .bool d.off] #[.slice none 0 0, .slice none 0 0, .slice none 0 0, .bool false] ?_ ?_ ?_ ?_ ?_ ?_ ?_); exact rfl; exact rfl; exact rfl; exact rfl; exact H4.out.1; exact rfl; exact H4.out.2; exact Row.new ku1 _ _; intro ku2 hp hg; have g := grown_fresh rfl hg; have R_D_k2 := Lib.hid (Row.grows R_D_k1.out g); have R_R_k2 := Lib.hid (Row.grows R_R_k1.out g); have O_o_k2 := Lib.hid (O_o_new.out.grows g); have G_k2 := Lib.hid ((G_k1.out).trans g); have R_T_new := Lib.hid hp; have Zk1 := Lib.hid (Row.lt hp); have Zk2 := Lib.hid (Below.size g); clear hp hg g)
      | ((with_reducible refine wpList_load_dk (o := ⟨some 13, _, _, _, _, _⟩) ?_ (.tmp 4) ?_ w.heap.size D ?_ ?_ ?_ ?_); exact rfl; exact rfl; exact rfl; exact R_D_k2.out; exact Ds.out.1)
      | (go_at_call 26; (with_reducible refine (HAS.out _ (HV.out.grows G_k2.out)).mono ?_); rintro e ku3 ⟨rfl, g⟩; have Zk3 := Lib.hid (Below.size g); have R_D_k3 := Lib.hid (Row.grows R_D_k2.out g); have R_R_k3 := Lib.hid (Row.grows R_R_k2.out g); have R_T_k3 := Lib.hid (Row.grows R_T_new.out g); have O_o_k3 := Lib.hid (O_o_k2.out.grows g); have G_k3 := Lib.hid ((G_k2.out).trans g); clear g)
      | ((with_reducible refine wpList_load_dk (o := ⟨some 25, _, _, _, _, _⟩) ?_ (.tmp 10) ?_ ku1.heap.size #[pv2, cv2, bv2, .bool d.off] ?_ ?_ ?_ ?_); exact rfl; exact rfl; exact rfl; exact R_T_k3.out; exact rfl)
      | ((with_reducible refine wpList_store_dk ?_ (.tmp 8) (.tmp 25) ?_ (w.heap.size + 1) #[pv2, cv2, bv2, .bool d.off] #[.slice none 0 0, .slice none 0 0, .slice none 0 0, .bool false] ?_ ?_ ?_ ?_ ?_ ?_ ?_); exact rfl; exact rfl; exact rfl; exact rfl; exact H4.out.1; exact rfl; exact H4.out.2; exact R_R_k3.out; intro ku4 hp hg; have R_D_k4 := Lib.hid (R_D_k3.out.grown hg (by have zW0 := ZW0.out; have zk0 := Zk0.out; have zk1 := Zk1.out; have zk2 := Zk2.out; have zk3 := Zk3.out; intro e; have e := Option.some.inj e; omega)); have R_R_k4 := Lib.hid hp; have R_T_k4 := Lib.hid (R_T_k3.out.grown hg (by have zW0 := ZW0.out; have zk0 := Zk0.out; have zk1 := Zk1.out; have zk2 := Zk2.out; have zk3 := Zk3.out; intro e; have e := Option.some.inj e; omega)); have O_o_k4 := Lib.hid (O_o_k3.out.beside hg R_R_k3.out); have G_k4 := Lib.hid ((G_k3.out).grown hg (G_k3.out).size (by have zW0 := ZW0.out; have zk0 := Zk0.out; have zk1 := Zk1.out; have zk2 := Zk2.out; have zk3 := Zk3.out; intro k e; have e := Option.some.inj e; omega)); clear hp hg))
    refine bodyPost_ret (results_dk_two (p := 8) (q := 9) (by exact rfl) _ (.int .i64 2) (by exact rfl) (by exact rfl) (by exact rfl) R_R_k4.out) rfl ?_
    exact ⟨_, rfl, O_o_k4.out, G_k4.out⟩
  have hx4' : ¬ 256 ≤ o := by omega
  have hn : (FlM.onDk d n && FlM.onPg o) = true := by rw [HOn.out, HOp.out, decide_eq_true hx1, decide_eq_true hx2, decide_eq_true hx3, decide_eq_true hx4]; rfl
  have e1 := HFD.out.trans (if_pos hn); have e2 := HFE.out.trans (if_pos hn)
  rw [e1, e2]
  clear e1 e2 hn HFD HFE HOn HOp
  obtain ⟨k, rfl⟩ : ∃ k : Nat, n = k := ⟨n.toNat, by omega⟩
  obtain ⟨j, rfl⟩ : ∃ j : Nat, o = j := ⟨o.toNat, by omega⟩
  rw [Int.toNat_natCast, Int.toNat_natCast]
  have hkl : k < d.pages.length := by omega
  have hj : j < 256 := by omega
  have hkl0 : 0 < d.pages.length := by omega
  have ep : d.pages[k]? = some d.pages[k] := List.getElem?_eq_getElem hkl
  have EP := Lib.hid ep
  rw [ep]
  clear ep
  generalize d.pages[k] = p at *
  rw [Option.getD_some]
  unfold FlM.flipP
  go_enter Try.func9, Try.ntmps9
  go_wp2_with (first
    | ((with_reducible refine wpList_load_dk (o := ⟨some 11, _, _, _, _, _⟩) ?_ (.tmp 4) ?_ w.heap.size D ?_ ?_ ?_ ?_); exact rfl; exact rfl; exact rfl; exact R1.out; exact Ds.out.1)
    | (go_at_call 20; (with_reducible refine (flown_any _ d _ (HV.out.grows HG.out) L1.out L2.out L3.out).mono ?_); rintro e ku1 ⟨r, rfl, hr, g⟩; obtain ⟨pv2, cv2, bv2, rfl, o1, o2, o3⟩ := hr; obtain ⟨G2, c2, rfl, hc1, hc2, hG2, hG3⟩ := o1.at_zero hkl0; unfold maxLen at hc2; have H4 := Lib.hid (dk_one (d := d) ⟨_, _, _, rfl, o1.els, o2.els, o3.els⟩); have op := o1.more (HG.out).size; have oc := o2.more (HG.out).size; have ob := o3.more (HG.out).size; clear o1 o2 o3; have Zk0 := Lib.hid (Below.size g); have R_D_k1 := Lib.hid (Row.grows R1.out g); have R_R_k1 := Lib.hid (Row.grows R2.out g); have G_k1 := Lib.hid ((HG.out).trans g); have O_p_new := Lib.hid (op); have O_c_new := Lib.hid oc; have O_b_new := Lib.hid ob; clear op oc ob g)
    | ((with_reducible refine wpList_store_dk ?_ (.tmp 10) (.tmp 12) ?_ ku1.heap.size #[.slice (some ⟨G2, 0, none⟩) d.pages.length c2, cv2, bv2, .bool d.off] #[.slice none 0 0, .slice none 0 0, .slice none 0 0, .bool false] ?_ ?_ ?_ ?_ ?_ ?_ ?_); exact rfl; exact rfl; exact rfl; exact rfl; exact H4.out.1; exact rfl; exact H4.out.2; exact Row.new ku1 _ _; intro ku2 hp hg; have g := grown_fresh rfl hg; have R_D_k2 := Lib.hid (Row.grows R_D_k1.out g); have R_R_k2 := Lib.hid (Row.grows R_R_k1.out g); have O_p_k2 := Lib.hid (O_p_new.out.grows g); have O_c_k2 := Lib.hid (O_c_new.out.grows g); have O_b_k2 := Lib.hid (O_b_new.out.grows g); have G_k2 := Lib.hid ((G_k1.out).trans g); have R_T_new := Lib.hid hp; have Zk1 := Lib.hid (Row.lt hp); have Zk2 := Lib.hid (Below.size g); clear hp hg g)
    | ((with_reducible refine wpList_load_dk (o := ⟨some 13, _, _, _, _, _⟩) ?_ (.tmp 4) ?_ w.heap.size D ?_ ?_ ?_ ?_); exact rfl; exact rfl; exact rfl; exact R_D_k2.out; exact Ds.out.1)
    | (go_at_call 26; (with_reducible refine (HAS.out _ (HV.out.grows G_k2.out)).mono ?_); rintro e ku3 ⟨rfl, g⟩; have Zk3 := Lib.hid (Below.size g); have R_D_k3 := Lib.hid (Row.grows R_D_k2.out g); have R_R_k3 := Lib.hid (Row.grows R_R_k2.out g); have R_T_k3 := Lib.hid (Row.grows R_T_new.out g); have O_p_k3 := Lib.hid (O_p_k2.out.grows g); have O_c_k3 := Lib.hid (O_c_k2.out.grows g); have O_b_k3 := Lib.hid (O_b_k2.out.grows g); have G_k3 := Lib.hid ((G_k2.out).trans g); have c_T_0 : _ = some _ := (R_T_k3.out.cell 0); clear g))
  obtain ⟨_, hcb, hfb⟩ := O_p_k3.out.store_byte k j p 0 EP.out hj
  unfold byteV at hcb
  refine wp_region_free 11 38 (by kernel_rfl) (by kernel_rfl) rfl (by kernel_rfl) ?_; simp only [List.take_succ_cons, List.take_zero, List.drop_succ_cons, List.drop_zero]
  repeat (apply free_pure rfl; focus (intro vs w hg hd; have q0 := hg.cell c_T_0; have q1 := hg.cell hcb; (try simp [Region.binds] at hd); simp only [execOp, resolve, Option.map_some, Option.map_none, List.map_toArray, List.map_cons, List.map_nil, rho_const, rho_func]; (repeat (conv in rho _ _ _ _ (Operand.tmp _) => whnf)); (try simp only [hd]); go_simp; (repeat (conv in rho _ _ _ _ (Operand.tmp _) => whnf)); (try simp only [hd]); rfl))
  intro vs w' hg hv; have h8 := hv 8 (by omega); simp at h8; have h10 := hv 10 (by omega); simp at h10; simp only [putL, dstAt, List.range, List.range.loop, if_true, List.getElem?_toArray, List.getElem?_cons_zero, List.getElem?_cons_succ, Option.bind_some, Act.put, List.setIfInBounds_toArray, List.set_cons_zero, List.set_cons_succ]
  rw [h8, h10]
  have hgW : Grows ku3 w' := Grows.of_drew hg
  have R_D_k4 := Lib.hid (Row.grows R_D_k3.out hgW)
  have R_R_k4 := Lib.hid (Row.grows R_R_k3.out hgW)
  have R_T_k4 := Lib.hid (Row.grows R_T_k3.out hgW)
  have O_p_k4 := Lib.hid (O_p_k3.out.grows hgW)
  have O_c_k4 := Lib.hid (O_c_k3.out.grows hgW)
  have O_b_k4 := Lib.hid (O_b_k3.out.grows hgW)
  have G_k4 := Lib.hid ((G_k3.out).trans hgW)
  clear hv h8 h10 hg c_T_0 hcb hfb
  generalize vs 0 = z0, vs 1 = z1, vs 2 = z2, vs 3 = z3, vs 4 = z4, vs 5 = z5, vs 6 = z6, vs 7 = z7, vs 8 = z8, vs 9 = z9, vs 10 = z10 at *
  obtain ⟨HSP, hcb, hfb⟩ := O_p_k4.out.store_byte k j p (p[j]?.getD 0 ^^^ b) EP.out hj
  have HSP := Lib.hid HSP
  unfold byteV at hcb
  have hgS := setCell_grown w' G2 (k * 256 + j) (byteV (p[j]?.getD 0 ^^^ b))
  have XC := Lib.hid (own_other O_c_k4.out O_p_k4.out (by decide) hgS)
  have XB := Lib.hid (own_other O_b_k4.out O_p_k4.out (by decide) hgS)
  have XT := Lib.hid (row_other O_p_k4.out R_T_k4.out (by decide) hgS)
  have XR := Lib.hid (row_other O_p_k4.out R_R_k4.out (by decide) hgS)
  have XG := Lib.hid (G_k4.out.grown hgS G_k4.out.size (fun k e => own_low O_p_k4.out k e))
  clear hgS
  unfold byteV at HSP XC XB XT XR XG
  go_wp2_with (first
    | ((with_reducible refine wpList_load_dk (o := ⟨some 37, _, _, _, _, _⟩) ?_ (.tmp 10) ?_ ku1.heap.size #[.slice (some ⟨G2, 0, none⟩) d.pages.length c2, cv2, bv2, .bool d.off] ?_ ?_ ?_ ?_); exact rfl; exact rfl; exact rfl; exact XT.out; exact rfl)
    | ((with_reducible refine wpList_store_dk ?_ (.tmp 8) (.tmp 37) ?_ (w.heap.size + 1) #[.slice (some ⟨G2, 0, none⟩) d.pages.length c2, cv2, bv2, .bool d.off] #[.slice none 0 0, .slice none 0 0, .slice none 0 0, .bool false] ?_ ?_ ?_ ?_ ?_ ?_ ?_); exact rfl; exact rfl; exact rfl; exact rfl; exact rfl; exact rfl; exact H4.out.2; exact XR.out; intro w6 hw6 hg6))
  refine bodyPost_ret (results_dk_two (p := 8) (q := 9) (by exact rfl) _ (.int .i64 0) (by exact rfl) (by exact rfl) (by exact rfl) hw6) rfl ?_
  exact ⟨_, rfl, ⟨_, _, _, rfl, HSP.out.aside hg6 XR.out (by decide), XC.out.aside hg6 XR.out (by decide), XB.out.aside hg6 XR.out (by decide)⟩, XG.out.grown hg6 XG.out.size (fun k e => by cases e; omega)⟩
end Go.Proofs.Ytiagmlokocpboaa
