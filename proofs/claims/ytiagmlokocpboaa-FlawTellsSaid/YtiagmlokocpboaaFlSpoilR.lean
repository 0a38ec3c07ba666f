/- FlSpoilR -/
import Derived.Test.YtiagmlokocpboaaFlSpoil
/- The document's Spoil. -/
namespace Go.Proofs.Ytiagmlokocpboaa
open Go.RowKit
set_option linter.unusedVariables false
set_option linter.unusedSimpArgs false
namespace VdM
theorem ins_lt (n : Int) : ∀ l : List Int, (∀ y ∈ l, y < n) → ins n l = l ++ [n]
  | [], _ => rfl
  | x :: l, h => by
    unfold ins
    rw [if_pos (h x (by simp)), ins_lt n l fun y hy => h y (by simp [hy])]
    rfl
theorem ins_eq (n : Int) : ∀ l : List Int, (∀ y ∈ l, y < n) → ins n (l ++ [n]) = l ++ [n]
  | [], _ => by simp [ins]
  | x :: l, h => by
    rw [List.cons_append]
    unfold ins
    rw [if_pos (h x (by simp)), ins_eq n l fun y hy => h y (by simp [hy])]
theorem ins_gt (n x : Int) (hx : n < x) : ∀ l : List Int, (∀ y ∈ l, y < n) → ins n (l ++ [x]) = l ++ [n] ++ [x]
  | [], _ => by
    show ins n [x] = _
    unfold ins
    rw [if_neg (by omega), if_neg (by omega)]
    rfl
  | z :: l, h => by
    rw [List.cons_append]
    unfold ins
    rw [if_pos (h z (by simp)), ins_gt n x hx l fun y hy => h y (by simp [hy])]
    rfl
theorem ins_behind (n x : Int) : ∀ l : List Int, (∃ y ∈ l, n ≤ y) → ins n (l ++ [x]) = ins n l ++ [x]
  | [], h => by obtain ⟨y, hy, _⟩ := h; simp at hy
  | z :: l, h => by
    rw [List.cons_append]
    unfold ins
    by_cases hz : z < n
    · rw [if_pos hz, if_pos hz, ins_behind n x l (by
        obtain ⟨y, hy, hny⟩ := h
        rcases List.mem_cons.1 hy with rfl | hy
        · omega
        · exact ⟨y, hy, hny⟩)]
      rfl
    · rw [if_neg hz, if_neg hz]
      split <;> rfl
end VdM
namespace VdM
theorem ins_len (n : Int) : ∀ l : List Int, (ins n l).length ≤ l.length + 1
  | [] => by simp [ins]
  | x :: l => by
    have := ins_len n l
    unfold ins
    split
    · simp only [List.length_cons]; omega
    · split <;> simp
end VdM
namespace FlM
/-- What has been put together of the first k bad pages. -/
def spK (l : List Int) (n : Int) (k : Nat) (p : Bool) (m : List Int) : Prop := (p = true → (∃ y ∈ l.take k, n ≤ y) ∧ m = VdM.ins n (l.take k)) ∧ (p = false → (∀ y ∈ l.take k, y < n) ∧ m = l.take k)
theorem spK_zero (l : List Int) (n : Int) : spK l n 0 false [] := ⟨fun h => by simp at h, fun _ => ⟨fun y hy => by simp at hy, rfl⟩⟩
variable {l : List Int} {n x : Int} {k : Nat} {m : List Int}
theorem spK_lt (h : spK l n k false m) (hk : l[k]? = some x) (hx : x < n) : spK l n (k + 1) false (m ++ [x]) := by
  obtain ⟨h1, h2⟩ := h.2 rfl
  subst h2
  refine ⟨fun h => (by cases h), fun _ => ⟨fun y hy => ?_, by rw [List.take_add_one, hk]; rfl⟩⟩
  rw [List.take_add_one, hk] at hy
  rcases List.mem_append.1 hy with hy | hy
  · exact h1 y hy
  · simp at hy; omega
theorem spK_eq (h : spK l n k false m) (hk : l[k]? = some n) : spK l n (k + 1) true (m ++ [n]) := by
  obtain ⟨h1, h2⟩ := h.2 rfl
  subst h2
  refine ⟨fun _ => ⟨⟨n, by rw [List.take_add_one, hk]; simp, Int.le_refl _⟩, by rw [List.take_add_one, hk]; exact (VdM.ins_eq n _ h1).symm⟩, fun h => (by cases h)⟩
theorem spK_gt (h : spK l n k false m) (hk : l[k]? = some x) (hx : n < x) : spK l n (k + 1) true (m ++ [n] ++ [x]) := by
  obtain ⟨h1, h2⟩ := h.2 rfl
  subst h2
  refine ⟨fun _ => ⟨⟨x, by rw [List.take_add_one, hk]; simp, by omega⟩, by rw [List.take_add_one, hk]; exact (VdM.ins_gt n x hx _ h1).symm⟩, fun h => (by cases h)⟩
theorem spK_on (h : spK l n k true m) (hk : l[k]? = some x) : spK l n (k + 1) true (m ++ [x]) := by
  obtain ⟨h1, h2⟩ := h.1 rfl
  subst h2
  refine ⟨fun _ => ⟨?_, by rw [List.take_add_one, hk]; exact (VdM.ins_behind n x _ h1).symm⟩, fun h => (by cases h)⟩
  obtain ⟨y, hy, hny⟩ := h1
  exact ⟨y, by rw [List.take_add_one, hk]; exact List.mem_append_left _ hy, hny⟩
theorem spK_ne (h : spK l n k true m) (hk : l[k]? = some x) (hl : l.Pairwise (· < ·)) : x ≠ n := by
  obtain ⟨⟨y, hy, hny⟩, _⟩ := h.1 rfl
  obtain ⟨i, hi, e⟩ := List.getElem_of_mem hy
  rw [List.length_take] at hi
  rw [List.getElem_take] at e
  have hkl := (List.getElem?_eq_some_iff.1 hk).1
  have := List.pairwise_iff_getElem.1 hl i k (by omega) hkl (by omega)
  have e2 := (List.getElem?_eq_some_iff.1 hk).2
  omega
theorem spK_all_true (h : spK l n l.length true m) : m = VdM.ins n l := by have := (h.1 rfl).2; rwa [List.take_length] at this
theorem spK_all_false (h : spK l n l.length false m) : m ++ [n] = VdM.ins n l := by
  obtain ⟨h1, h2⟩ := h.2 rfl
  rw [List.take_length] at h1 h2
  subst h2
  exact (VdM.ins_lt n _ h1).symm
theorem spK_len {p : Bool} (h : spK l n k p m) : m.length ≤ l.length + 1 := by
  cases p with
  | true =>
    rw [(h.1 rfl).2]
    have h1 := VdM.ins_len n (l.take k)
    rw [List.length_take] at h1
    omega
  | false =>
    rw [(h.2 rfl).2, List.length_take]
    omega
end FlM
set_option maxRecDepth 20000 in
set_option maxHeartbeats 4000000 in
theorem rspoil_any (v : Value) (d : Dk) (n : Int) (w : World) (hv : IsDisk w.heap.size w v d) (l1 : d.pages.length ≤ 1000000) (l2 : d.cache.length ≤ 1000000) (l3 : d.bad.length ≤ 800000) (hasc : d.bad.Pairwise (· < ·)) :
    Calls Try.prog 12 #[v, .int .i64 n] w fun e w' => ∃ r, e = .returned (.tuple #[r, .int .i64 (FlM.spoilE d n)]) ∧ OwnDisk w.heap.size w' r (FlM.spoilD d n) ∧ Grows w w' := by
  have L1 := Lib.hid l1; have L2 := Lib.hid l2; have L3 := Lib.hid (show d.bad.length ≤ 1000000 by omega); have L4 := Lib.hid l3
  have HAsc := Lib.hid hasc
  clear l1 l2 l3 hasc
  have HV := Lib.hid hv
  obtain ⟨pv, cv, bv, rfl, hp, hc, hb⟩ := hv
  have HP := Lib.hid hp; have HC := Lib.hid hc; have HB := Lib.hid hb
  obtain ⟨AP, cP, rfl, p1, p2, p3⟩ := hp.form
  obtain ⟨AC, cC, rfl, q1, q2, q3⟩ := hc.form
  obtain ⟨AB, cB, rfl, b1, b2, b3⟩ := hb.ints
  have HPf := Lib.hid p3; have HCf := Lib.hid q3; have HBf := Lib.hid b3
  clear hp hc hb p3 q3 b3
  unfold maxLen at p2 q2 b2
  obtain ⟨D, hD⟩ : ∃ D, D = #[Value.slice AP d.pages.length cP, .slice AC d.cache.length cC, .slice AB d.bad.length cB, .bool d.off] := ⟨_, rfl⟩
  have Ds : Hid (D.size = 4 ∧ D[0]? = some (.slice AP d.pages.length cP) ∧ D[1]? = some (.slice AC d.cache.length cC) ∧ D[2]? = some (.slice AB d.bad.length cB) ∧ D[3]? = some (.bool d.off)) := by subst hD; exact ⟨rfl, rfl, rfl, rfl, rfl⟩
  have HDe := Lib.hid hD
  rw [← hD] at HV ⊢
  clear hD
  have R1 := Lib.hid ((Row.new w 26 D).alloc (.cells #[.slice none 0 0, .slice none 0 0, .slice none 0 0, .bool false] 26))
  have R2 : Hid (Row ((w.alloc (.cells D 26)).alloc (.cells #[.slice none 0 0, .slice none 0 0, .slice none 0 0, .bool false] 26)) (w.heap.size + 1) 26 #[.slice none 0 0, .slice none 0 0, .slice none 0 0, .bool false]) := by
    have := Row.new (w.alloc (.cells D 26)) 26 #[.slice none 0 0, .slice none 0 0, .slice none 0 0, .bool false]
    rwa [World.size_alloc] at this
  have HG := Lib.hid ((Grows.alloc w (.cells D 26)).trans (Grows.alloc _ (.cells #[.slice none 0 0, .slice none 0 0, .slice none 0 0, .bool false] 26)))
  have ZW0 : Hid (((w.alloc (.cells D 26)).alloc (.cells #[.slice none 0 0, .slice none 0 0, .slice none 0 0, .bool false] 26)).heap.size = w.heap.size + 2) := by unfold Hid; simp
  have HFD : Hid (FlM.spoilD d n = if FlM.onDk d n then { d with bad := VdM.ins n d.bad } else d) := rfl
  have HFE : Hid (FlM.spoilE d n = if FlM.onDk d n then 0 else 2) := rfl
  have HOn : Hid (FlM.onDk d n = (decide (0 ≤ n) && decide (n < d.pages.length))) := rfl
  have c_D_0 : _ = some _ := (R1.out.cell 0).trans Ds.out.2.1
  by_cases hx1 : 0 ≤ n
  case neg =>
    have hn : FlM.onDk d n = false := by rw [HOn.out, decide_eq_false hx1]; rfl
    rw [HFD.out.trans (if_neg (by rw [hn]; decide)), HFE.out.trans (if_neg (by rw [hn]; decide))]
    have hx1' : n < 0 := by omega
    clear hn HFD HFE HOn
    go_enter Try.func12, Try.ntmps12
    go_wp2_with (first
      | ((with_reducible refine wpList_load_dk (o := ⟨some 10, _, _, _, _, _⟩) ?_ (.tmp 2) ?_ w.heap.size D ?_ ?_ ?_ ?_); exact rfl; exact rfl; exact rfl; exact R1.out; exact Ds.out.1)
      | (go_at_call 22; (with_reducible refine (rown4_any _ d _ (HV.out.grows HG.out) L1.out L2.out L3.out).mono ?_); rintro e ku1 ⟨r, rfl, hr, g⟩; obtain ⟨pv2, cv2, bv2, rfl, o1, o2, o3⟩ := hr; have hoc : OwnDisk w.heap.size ku1 (.agg #[pv2, cv2, bv2, .bool d.off]) d := (OwnDisk.more ⟨_, _, _, rfl, o1, o2, o3⟩ (HG.out).size); have H4 := Lib.hid (dk_one hoc.disk); clear o1 o2 o3; have Zk0 := Lib.hid (Below.size g); have R_D_k1 := Lib.hid (Row.grows R1.out g); have R_R_k1 := Lib.hid (Row.grows R2.out g); have G_k1 := Lib.hid ((HG.out).trans g); have O_o_new := Lib.hid (hoc); have c_D_0 : _ = some _ := (R_D_k1.out.cell 0).trans Ds.out.2.1; clear g)
      | ((with_reducible refine wpList_store_dk ?_ (.tmp 6) (.tmp 11) ?_ ku1.heap.size #[pv2, cv2, bv2, .bool d.off] #[.slice none 0 0, .slice none 0 0, .slice none 0 0, .bool false] ?_ ?_ ?_ ?_ ?_ ?_ ?_); exact rfl; exact rfl; exact rfl; exact rfl; exact H4.out.1; exact rfl; exact H4.out.2; exact Row.new ku1 _ _; intro ku2 hp hg; have g := grown_fresh rfl hg; have R_D_k2 := Lib.hid (Row.grows R_D_k1.out g); have R_R_k2 := Lib.hid (Row.grows R_R_k1.out g); have O_o_k2 := Lib.hid (O_o_new.out.grows g); have G_k2 := Lib.hid ((G_k1.out).trans g); have R_T_new := Lib.hid hp; have Zk1 := Lib.hid (Row.lt hp); have Zk2 := Lib.hid (Below.size g); have c_D_0 : _ = some _ := (R_D_k2.out.cell 0).trans Ds.out.2.1; clear hp hg g)
      | ((with_reducible refine wpList_load_dk (o := ⟨some 21, _, _, _, _, _⟩) ?_ (.tmp 6) ?_ ku1.heap.size #[pv2, cv2, bv2, .bool d.off] ?_ ?_ ?_ ?_); exact rfl; exact rfl; exact rfl; exact R_T_new.out; exact rfl)
      | ((with_reducible refine wpList_store_dk ?_ (.tmp 4) (.tmp 21) ?_ (w.heap.size + 1) #[pv2, cv2, bv2, .bool d.off] #[.slice none 0 0, .slice none 0 0, .slice none 0 0, .bool false] ?_ ?_ ?_ ?_ ?_ ?_ ?_); exact rfl; exact rfl; exact rfl; exact rfl; exact H4.out.1; exact rfl; exact H4.out.2; exact R_R_k2.out; intro ku3 hp hg; have R_D_k3 := Lib.hid (R_D_k2.out.grown hg (by have zW0 := ZW0.out; have zk0 := Zk0.out; have zk1 := Zk1.out; have zk2 := Zk2.out; intro e; have e := Option.some.inj e; omega)); have R_R_k3 := Lib.hid hp; have R_T_k3 := Lib.hid (R_T_new.out.grown hg (by have zW0 := ZW0.out; have zk0 := Zk0.out; have zk1 := Zk1.out; have zk2 := Zk2.out; intro e; have e := Option.some.inj e; omega)); have O_o_k3 := Lib.hid (O_o_k2.out.beside hg R_R_k2.out); have G_k3 := Lib.hid (show Grows w _ from (G_k2.out).grown hg (G_k2.out).size (by have zW0 := ZW0.out; have zk0 := Zk0.out; have zk1 := Zk1.out; have zk2 := Zk2.out; intro k e; have e := Option.some.inj e; omega)); have c_D_0 : _ = some _ := (R_D_k3.out.cell 0).trans Ds.out.2.1; clear hp hg))
    refine bodyPost_ret (results_dk_two (p := 4) (q := 5) (by exact rfl) _ (.int .i64 2) (by exact rfl) (by exact rfl) (by exact rfl) R_R_k3.out) rfl ?_
    exact ⟨_, rfl, O_o_k3.out, G_k3.out⟩
  by_cases hx2 : n < d.pages.length
  case neg =>
    have hn : FlM.onDk d n = false := by rw [HOn.out, decide_eq_false hx2, Bool.and_false]
    rw [HFD.out.trans (if_neg (by rw [hn]; decide)), HFE.out.trans (if_neg (by rw [hn]; decide))]
    have hx2' : (d.pages.length : Int) ≤ n := by omega
    have hx1' : ¬ n < 0 := by omega
    clear hn HFD HFE HOn
    go_enter Try.func12, Try.ntmps12
    go_wp2_with (first
      | ((with_reducible refine wpList_load_dk (o := ⟨some 10, _, _, _, _, _⟩) ?_ (.tmp 2) ?_ w.heap.size D ?_ ?_ ?_ ?_); exact rfl; exact rfl; exact rfl; exact R1.out; exact Ds.out.1)
      | (go_at_call 22; (with_reducible refine (rown4_any _ d _ (HV.out.grows HG.out) L1.out L2.out L3.out).mono ?_); rintro e ku1 ⟨r, rfl, hr, g⟩; obtain ⟨pv2, cv2, bv2, rfl, o1, o2, o3⟩ := hr; have hoc : OwnDisk w.heap.size ku1 (.agg #[pv2, cv2, bv2, .bool d.off]) d := (OwnDisk.more ⟨_, _, _, rfl, o1, o2, o3⟩ (HG.out).size); have H4 := Lib.hid (dk_one hoc.disk); clear o1 o2 o3; have Zk0 := Lib.hid (Below.size g); have R_D_k1 := Lib.hid (Row.grows R1.out g); have R_R_k1 := Lib.hid (Row.grows R2.out g); have G_k1 := Lib.hid ((HG.out).trans g); have O_o_new := Lib.hid (hoc); have c_D_0 : _ = some _ := (R_D_k1.out.cell 0).trans Ds.out.2.1; clear g)
      | ((with_reducible refine wpList_store_dk ?_ (.tmp 6) (.tmp 11) ?_ ku1.heap.size #[pv2, cv2, bv2, .bool d.off] #[.slice none 0 0, .slice none 0 0, .slice none 0 0, .bool false] ?_ ?_ ?_ ?_ ?_ ?_ ?_); exact rfl; exact rfl; exact rfl; exact rfl; exact H4.out.1; exact rfl; exact H4.out.2; exact Row.new ku1 _ _; intro ku2 hp hg; have g := grown_fresh rfl hg; have R_D_k2 := Lib.hid (Row.grows R_D_k1.out g); have R_R_k2 := Lib.hid (Row.grows R_R_k1.out g); have O_o_k2 := Lib.hid (O_o_new.out.grows g); have G_k2 := Lib.hid ((G_k1.out).trans g); have R_T_new := Lib.hid hp; have Zk1 := Lib.hid (Row.lt hp); have Zk2 := Lib.hid (Below.size g); have c_D_0 : _ = some _ := (R_D_k2.out.cell 0).trans Ds.out.2.1; clear hp hg g)
      | ((with_reducible refine wpList_load_dk (o := ⟨some 21, _, _, _, _, _⟩) ?_ (.tmp 6) ?_ ku1.heap.size #[pv2, cv2, bv2, .bool d.off] ?_ ?_ ?_ ?_); exact rfl; exact rfl; exact rfl; exact R_T_new.out; exact rfl)
      | ((with_reducible refine wpList_store_dk ?_ (.tmp 4) (.tmp 21) ?_ (w.heap.size + 1) #[pv2, cv2, bv2, .bool d.off] #[.slice none 0 0, .slice none 0 0, .slice none 0 0, .bool false] ?_ ?_ ?_ ?_ ?_ ?_ ?_); exact rfl; exact rfl; exact rfl; exact rfl; exact H4.out.1; exact rfl; exact H4.out.2; exact R_R_k2.out; intro ku3 hp hg; have R_D_k3 := Lib.hid (R_D_k2.out.grown hg (by have zW0 := ZW0.out; have zk0 := Zk0.out; have zk1 := Zk1.out; have zk2 := Zk2.out; intro e; have e := Option.some.inj e; omega)); have R_R_k3 := Lib.hid hp; have R_T_k3 := Lib.hid (R_T_new.out.grown hg (by have zW0 := ZW0.out; have zk0 := Zk0.out; have zk1 := Zk1.out; have zk2 := Zk2.out; intro e; have e := Option.some.inj e; omega)); have O_o_k3 := Lib.hid (O_o_k2.out.beside hg R_R_k2.out); have G_k3 := Lib.hid (show Grows w _ from (G_k2.out).grown hg (G_k2.out).size (by have zW0 := ZW0.out; have zk0 := Zk0.out; have zk1 := Zk1.out; have zk2 := Zk2.out; intro k e; have e := Option.some.inj e; omega)); have c_D_0 : _ = some _ := (R_D_k3.out.cell 0).trans Ds.out.2.1; clear hp hg))
    refine bodyPost_ret (results_dk_two (p := 4) (q := 5) (by exact rfl) _ (.int .i64 2) (by exact rfl) (by exact rfl) (by exact rfl) R_R_k3.out) rfl ?_
    exact ⟨_, rfl, O_o_k3.out, G_k3.out⟩
  have hn : FlM.onDk d n = true := by rw [HOn.out, decide_eq_true hx1, decide_eq_true hx2]; rfl
  rw [HFD.out.trans (if_pos hn), HFE.out.trans (if_pos hn)]
  have hx1' : ¬ n < 0 := by omega
  have hx2' : ¬ (d.pages.length : Int) ≤ n := by omega
  clear hn HFD HFE HOn
  go_enter Try.func12, Try.ntmps12
  go_wp2_with (first
    | ((with_reducible refine wpList_load_dk (o := ⟨some 10, _, _, _, _, _⟩) ?_ (.tmp 2) ?_ w.heap.size D ?_ ?_ ?_ ?_); exact rfl; exact rfl; exact rfl; exact R1.out; exact Ds.out.1)
    | (go_at_call 22; (with_reducible refine (rown4_any _ d _ (HV.out.grows HG.out) L1.out L2.out L3.out).mono ?_); rintro e ku1 ⟨r, rfl, hr, g⟩; obtain ⟨pv2, cv2, bv2, rfl, o1, o2, o3⟩ := hr; obtain ⟨A2, c2, rfl, _⟩ := o1.els.form; obtain ⟨A3, c3, rfl, _⟩ := o2.els.form; obtain ⟨A4, c4, rfl, e4, e5, _⟩ := o3.els.form; unfold maxLen at e5; have H4 := Lib.hid (dk_one (d := d) ⟨_, _, _, rfl, o1.els, o2.els, o3.els⟩); have op := o1.more (HG.out).size; have oc := o2.more (HG.out).size; clear o1 o2 o3; have Zk0 := Lib.hid (Below.size g); have R_D_k1 := Lib.hid (Row.grows R1.out g); have R_R_k1 := Lib.hid (Row.grows R2.out g); have G_k1 := Lib.hid ((HG.out).trans g); have O_p_new := Lib.hid (op); have c_D_0 : _ = some _ := (R_D_k1.out.cell 0).trans Ds.out.2.1; have O_c_new := Lib.hid oc; clear op oc g)
    | ((with_reducible refine wpList_store_dk ?_ (.tmp 6) (.tmp 11) ?_ ku1.heap.size #[.slice A2 d.pages.length c2, .slice A3 d.cache.length c3, .slice A4 d.bad.length c4, .bool d.off] #[.slice none 0 0, .slice none 0 0, .slice none 0 0, .bool false] ?_ ?_ ?_ ?_ ?_ ?_ ?_); exact rfl; exact rfl; exact rfl; exact rfl; exact H4.out.1; exact rfl; exact H4.out.2; exact Row.new ku1 _ _; intro ku2 hp hg; have g := grown_fresh rfl hg; have R_D_k2 := Lib.hid (Row.grows R_D_k1.out g); have R_R_k2 := Lib.hid (Row.grows R_R_k1.out g); have O_p_k2 := Lib.hid (O_p_new.out.grows g); have O_c_k2 := Lib.hid (O_c_new.out.grows g); have G_k2 := Lib.hid ((G_k1.out).trans g); have R_T_new := Lib.hid hp; have Zk1 := Lib.hid (Row.lt hp); have Zk2 := Lib.hid (Below.size g); have c_D_0 : _ = some _ := (R_D_k2.out.cell 0).trans Ds.out.2.1; clear hp hg g))
  have ZT : Hid (w.heap.size + 2 ≤ ku1.heap.size) := by have zW0 := ZW0.out; have zk0 := Zk0.out; have zk1 := Zk1.out; have zk2 := Zk2.out; unfold Hid; omega
  have I0 := Lib.hid (And.intro R_D_k2.out (And.intro R_R_k2.out (And.intro R_T_new.out (And.intro O_p_k2.out (And.intro O_c_k2.out G_k2.out)))))
  generalize ku1.heap.size = tb at *
  go_loopw [7, 8, 9] (fun o p i wr => ∃ (k : Nat) (b : Bool) (m : List Int), k ≤ d.bad.length ∧ i = .int .i64 k ∧ p = .bool b ∧ FlM.spK d.bad n k b m ∧ Own' 3 1 intE w.heap.size wr o m ∧ Row wr w.heap.size 26 D ∧ Row wr (w.heap.size + 1) 26 #[.slice none 0 0, .slice none 0 0, .slice none 0 0, .bool false] ∧ Row wr tb 26 #[.slice A2 d.pages.length c2, .slice A3 d.cache.length c3, .slice A4 d.bad.length c4, .bool d.off] ∧ Own' 40 256 pageE w.heap.size wr (.slice A2 d.pages.length c2) d.pages ∧ Own' 42 257 writeE w.heap.size wr (.slice A3 d.cache.length c3) d.cache ∧ Grows w wr) (fun _ _ i _ => d.bad.length - (intOf i).toNat)
  case atStart => exact ⟨0, false, [], Nat.zero_le _, rfl, rfl, FlM.spK_zero _ _, Own'.nothing _ _ _ _ _, I0.out⟩
  case round =>
    obtain ⟨k, b, m, hk, rfl, rfl, hsp, ho, h1, h2, h3, h4, h5, h6⟩ := hrel
    have c_D_2 : _ = some _ := (h1.cell 2).trans Ds.out.2.2.2.1
    have HSP := Lib.hid hsp; have HO := Lib.hid ho; have H1 := Lib.hid h1; have H2 := Lib.hid h2; have H3 := Lib.hid h3; have H4' := Lib.hid h4; have H5 := Lib.hid h5; have H6 := Lib.hid h6
    have HML := Lib.hid (show m.length ≤ 900000 by have := FlM.spK_len hsp; have := L4.out; omega)
    clear hsp ho h1 h2 h3 h4 h5 h6 I0
    by_cases hlt : k < d.bad.length
    · obtain ⟨gb, ob, rfl, hgb, hcA⟩ := HBf.out (by omega)
      have e1 : d.bad[k]? = some d.bad[k] := List.getElem?_eq_getElem hlt
      have CX := Lib.hid (hcA k _ e1)
      have HGB := Lib.hid hgb
      have E1 := Lib.hid e1
      have cx := (Below.cell H6.out (p := ⟨gb, ob + k, none⟩) HGB.out).trans CX.out
      have hki : (k : Int) < d.bad.length := by omega
      generalize d.bad[k] = x at *
      clear e1 hcA hgb HBf
      cases b
      · by_cases hxn : x < n
        · have hxn1 : ¬ n ≤ x := by omega
          have hxn2 : ¬ x = n := by omega
          have SPN := Lib.hid (FlM.spK_lt HSP.out E1.out hxn)
          go_wp2_with (first
            | ((with_reducible refine wpList_append_els elT_int intE_one ?_ (.tmp 51) (.tmp 57) ?_ w.heap.size (World.heap (wr)).size.succ m [x] ?_ ?_ ?_ ?_ ?_ ?_); exact rfl; exact rfl; exact HO.out.grows (Grows.alloc _ _); exact ints_of_one _ x; have := HML.out; (try simp at this); simp; unfold maxLen; omega; have := HML.out; (try simp at this); simp; omega; have := (H6.out).size; simp; omega; intro v5 ku1 ho hg _; have g := Grows.alloc (wr) (.cells #[.int .i64 x] 3); have R_D_k1 := Lib.hid (Row.grows H1.out g); have R_R_k1 := Lib.hid (Row.grows H2.out g); have R_T_k1 := Lib.hid (Row.grows H3.out g); have O_p_k1 := Lib.hid (H4'.out.grows g); have O_c_k1 := Lib.hid (H5.out.grows g); have O_o_k1 := Lib.hid (HO.out.grows g); have G_k1 := Lib.hid ((H6.out).trans g); have R_D_k2 := Lib.hid (row_other O_o_k1.out R_D_k1.out (by decide) hg); have R_R_k2 := Lib.hid (row_other O_o_k1.out R_R_k1.out (by decide) hg); have R_T_k2 := Lib.hid (row_other O_o_k1.out R_T_k1.out (by decide) hg); have O_p_k2 := Lib.hid (own_other O_p_k1.out O_o_k1.out (by decide) hg); have O_c_k2 := Lib.hid (own_other O_c_k1.out O_o_k1.out (by decide) hg); have O_o_k2 := Lib.hid ho; have G_k2 := Lib.hid (show Grows w _ from (G_k1.out).grown hg (G_k1.out).size (fun k e => own_low O_o_k1.out k e)); have c_D_2 : _ = some _ := (R_D_k2.out.cell 2).trans Ds.out.2.2.2.1; have cx := (Below.cell G_k2.out (p := ⟨gb, ob + k, none⟩) HGB.out).trans CX.out; clear g ho hg))
          go_roundw
          case rel => exact ⟨k + 1, false, _, by omega, by go_num, rfl, SPN.out, O_o_k2.out, R_D_k2.out, R_R_k2.out, R_T_k2.out, O_p_k2.out, O_c_k2.out, G_k2.out⟩
          case measure => simp [intOf]; omega
        · by_cases hxe : x = n
          · subst hxe
            have hxn1 : x ≤ x := Int.le_refl _
            have SPN := Lib.hid (FlM.spK_eq HSP.out E1.out)
            go_wp2_with (first
              | ((with_reducible refine wpList_append_els elT_int intE_one ?_ (.tmp 40) (.tmp 42) ?_ w.heap.size (World.heap (wr)).size.succ m [x] ?_ ?_ ?_ ?_ ?_ ?_); exact rfl; exact rfl; exact HO.out.grows (Grows.alloc _ _); exact ints_of_one _ x; have := HML.out; (try simp at this); simp; unfold maxLen; omega; have := HML.out; (try simp at this); simp; omega; have := (H6.out).size; simp; omega; intro v5 ku1 ho hg _; have g := Grows.alloc (wr) (.cells #[.int .i64 x] 3); have R_D_k1 := Lib.hid (Row.grows H1.out g); have R_R_k1 := Lib.hid (Row.grows H2.out g); have R_T_k1 := Lib.hid (Row.grows H3.out g); have O_p_k1 := Lib.hid (H4'.out.grows g); have O_c_k1 := Lib.hid (H5.out.grows g); have O_o_k1 := Lib.hid (HO.out.grows g); have G_k1 := Lib.hid ((H6.out).trans g); have R_D_k2 := Lib.hid (row_other O_o_k1.out R_D_k1.out (by decide) hg); have R_R_k2 := Lib.hid (row_other O_o_k1.out R_R_k1.out (by decide) hg); have R_T_k2 := Lib.hid (row_other O_o_k1.out R_T_k1.out (by decide) hg); have O_p_k2 := Lib.hid (own_other O_p_k1.out O_o_k1.out (by decide) hg); have O_c_k2 := Lib.hid (own_other O_c_k1.out O_o_k1.out (by decide) hg); have O_o_k2 := Lib.hid ho; have G_k2 := Lib.hid (show Grows w _ from (G_k1.out).grown hg (G_k1.out).size (fun k e => own_low O_o_k1.out k e)); have c_D_2 : _ = some _ := (R_D_k2.out.cell 2).trans Ds.out.2.2.2.1; have cx := (Below.cell G_k2.out (p := ⟨gb, ob + k, none⟩) HGB.out).trans CX.out; clear g ho hg))
            go_roundw
            case rel => exact ⟨k + 1, true, _, by omega, by go_num, rfl, SPN.out, O_o_k2.out, R_D_k2.out, R_R_k2.out, R_T_k2.out, O_p_k2.out, O_c_k2.out, G_k2.out⟩
            case measure => simp [intOf]; omega
          · have hxn1 : n ≤ x := by omega
            have SPN := Lib.hid (FlM.spK_gt HSP.out E1.out (show n < x by omega))
            have HML2 := Lib.hid (show (m ++ [n]).length ≤ 900000 by have := FlM.spK_len SPN.out; have := L4.out; simp at *; omega)
            go_wp2_with (first
              | ((with_reducible refine wpList_append_els elT_int intE_one ?_ (.tmp 40) (.tmp 42) ?_ w.heap.size (World.heap (wr)).size.succ m [n] ?_ ?_ ?_ ?_ ?_ ?_); exact rfl; exact rfl; exact HO.out.grows (Grows.alloc _ _); exact ints_of_one _ n; have := HML.out; (try simp at this); simp; unfold maxLen; omega; have := HML.out; (try simp at this); simp; omega; have := (H6.out).size; simp; omega; intro v5 ku1 ho hg _; have g := Grows.alloc (wr) (.cells #[.int .i64 n] 3); have R_D_k1 := Lib.hid (Row.grows H1.out g); have R_R_k1 := Lib.hid (Row.grows H2.out g); have R_T_k1 := Lib.hid (Row.grows H3.out g); have O_p_k1 := Lib.hid (H4'.out.grows g); have O_c_k1 := Lib.hid (H5.out.grows g); have O_o_k1 := Lib.hid (HO.out.grows g); have G_k1 := Lib.hid ((H6.out).trans g); have R_D_k2 := Lib.hid (row_other O_o_k1.out R_D_k1.out (by decide) hg); have R_R_k2 := Lib.hid (row_other O_o_k1.out R_R_k1.out (by decide) hg); have R_T_k2 := Lib.hid (row_other O_o_k1.out R_T_k1.out (by decide) hg); have O_p_k2 := Lib.hid (own_other O_p_k1.out O_o_k1.out (by decide) hg); have O_c_k2 := Lib.hid (own_other O_c_k1.out O_o_k1.out (by decide) hg); have O_o_k2 := Lib.hid ho; have G_k2 := Lib.hid (show Grows w _ from (G_k1.out).grown hg (G_k1.out).size (fun k e => own_low O_o_k1.out k e)); have c_D_2 : _ = some _ := (R_D_k2.out.cell 2).trans Ds.out.2.2.2.1; have cx := (Below.cell G_k2.out (p := ⟨gb, ob + k, none⟩) HGB.out).trans CX.out; clear g ho hg)
              | ((with_reducible refine wpList_append_els elT_int intE_one ?_ (.tmp 51) (.tmp 57) ?_ w.heap.size (World.heap (ku1)).size.succ (m ++ [n]) [x] ?_ ?_ ?_ ?_ ?_ ?_); exact rfl; exact rfl; exact O_o_k2.out.grows (Grows.alloc _ _); exact ints_of_one _ x; have := HML2.out; (try simp at this); simp; unfold maxLen; omega; have := HML2.out; (try simp at this); simp; omega; have := (G_k2.out).size; simp; omega; intro v5 ku2 ho hg _; have g := Grows.alloc (ku1) (.cells #[.int .i64 x] 3); have R_D_k3 := Lib.hid (Row.grows R_D_k2.out g); have R_R_k3 := Lib.hid (Row.grows R_R_k2.out g); have R_T_k3 := Lib.hid (Row.grows R_T_k2.out g); have O_p_k3 := Lib.hid (O_p_k2.out.grows g); have O_c_k3 := Lib.hid (O_c_k2.out.grows g); have O_o_k3 := Lib.hid (O_o_k2.out.grows g); have G_k3 := Lib.hid ((G_k2.out).trans g); have R_D_k4 := Lib.hid (row_other O_o_k3.out R_D_k3.out (by decide) hg); have R_R_k4 := Lib.hid (row_other O_o_k3.out R_R_k3.out (by decide) hg); have R_T_k4 := Lib.hid (row_other O_o_k3.out R_T_k3.out (by decide) hg); have O_p_k4 := Lib.hid (own_other O_p_k3.out O_o_k3.out (by decide) hg); have O_c_k4 := Lib.hid (own_other O_c_k3.out O_o_k3.out (by decide) hg); have O_o_k4 := Lib.hid ho; have G_k4 := Lib.hid (show Grows w _ from (G_k3.out).grown hg (G_k3.out).size (fun k e => own_low O_o_k3.out k e)); have c_D_2 : _ = some _ := (R_D_k4.out.cell 2).trans Ds.out.2.2.2.1; have cx := (Below.cell G_k4.out (p := ⟨gb, ob + k, none⟩) HGB.out).trans CX.out; clear g ho hg))
            go_roundw
            case rel => exact ⟨k + 1, true, _, by omega, by go_num, rfl, SPN.out, O_o_k4.out, R_D_k4.out, R_R_k4.out, R_T_k4.out, O_p_k4.out, O_c_k4.out, G_k4.out⟩
            case measure => simp [intOf]; omega
      · have hxe : ¬ x = n := FlM.spK_ne HSP.out E1.out HAsc.out
        have SPN := Lib.hid (FlM.spK_on HSP.out E1.out)
        go_wp2_with (first
          | ((with_reducible refine wpList_append_els elT_int intE_one ?_ (.tmp 51) (.tmp 57) ?_ w.heap.size (World.heap (wr)).size.succ m [x] ?_ ?_ ?_ ?_ ?_ ?_); exact rfl; exact rfl; exact HO.out.grows (Grows.alloc _ _); exact ints_of_one _ x; have := HML.out; (try simp at this); simp; unfold maxLen; omega; have := HML.out; (try simp at this); simp; omega; have := (H6.out).size; simp; omega; intro v5 ku1 ho hg _; have g := Grows.alloc (wr) (.cells #[.int .i64 x] 3); have R_D_k1 := Lib.hid (Row.grows H1.out g); have R_R_k1 := Lib.hid (Row.grows H2.out g); have R_T_k1 := Lib.hid (Row.grows H3.out g); have O_p_k1 := Lib.hid (H4'.out.grows g); have O_c_k1 := Lib.hid (H5.out.grows g); have O_o_k1 := Lib.hid (HO.out.grows g); have G_k1 := Lib.hid ((H6.out).trans g); have R_D_k2 := Lib.hid (row_other O_o_k1.out R_D_k1.out (by decide) hg); have R_R_k2 := Lib.hid (row_other O_o_k1.out R_R_k1.out (by decide) hg); have R_T_k2 := Lib.hid (row_other O_o_k1.out R_T_k1.out (by decide) hg); have O_p_k2 := Lib.hid (own_other O_p_k1.out O_o_k1.out (by decide) hg); have O_c_k2 := Lib.hid (own_other O_c_k1.out O_o_k1.out (by decide) hg); have O_o_k2 := Lib.hid ho; have G_k2 := Lib.hid (show Grows w _ from (G_k1.out).grown hg (G_k1.out).size (fun k e => own_low O_o_k1.out k e)); have c_D_2 : _ = some _ := (R_D_k2.out.cell 2).trans Ds.out.2.2.2.1; have cx := (Below.cell G_k2.out (p := ⟨gb, ob + k, none⟩) HGB.out).trans CX.out; clear g ho hg))
        go_roundw
        case rel => exact ⟨k + 1, true, _, by omega, by go_num, rfl, SPN.out, O_o_k2.out, R_D_k2.out, R_R_k2.out, R_T_k2.out, O_p_k2.out, O_c_k2.out, G_k2.out⟩
        case measure => simp [intOf]; omega
    · obtain rfl : k = d.bad.length := by omega
      clear HBf
      cases b
      · have SPN := Lib.hid (FlM.spK_all_false HSP.out)
        go_wp2_with (first
          | ((with_reducible refine wpList_append_els elT_int intE_one ?_ (.tmp 61) (.tmp 63) ?_ w.heap.size (World.heap (wr)).size.succ m [n] ?_ ?_ ?_ ?_ ?_ ?_); exact rfl; exact rfl; exact HO.out.grows (Grows.alloc _ _); exact ints_of_one _ n; have := HML.out; (try simp at this); simp; unfold maxLen; omega; have := HML.out; (try simp at this); simp; omega; have := (H6.out).size; simp; omega; intro v5 ku1 ho hg _; rw [SPN.out] at ho; obtain ⟨A6, c6, rfl, e8, e9, _⟩ := ho.els.form; unfold maxLen at e9; have g := Grows.alloc (wr) (.cells #[.int .i64 n] 3); have R_D_k1 := Lib.hid (Row.grows H1.out g); have R_R_k1 := Lib.hid (Row.grows H2.out g); have R_T_k1 := Lib.hid (Row.grows H3.out g); have O_p_k1 := Lib.hid (H4'.out.grows g); have O_c_k1 := Lib.hid (H5.out.grows g); have O_o_k1 := Lib.hid (HO.out.grows g); have G_k1 := Lib.hid ((H6.out).trans g); have R_D_k2 := Lib.hid (row_other O_o_k1.out R_D_k1.out (by decide) hg); have R_R_k2 := Lib.hid (row_other O_o_k1.out R_R_k1.out (by decide) hg); have R_T_k2 := Lib.hid (row_other O_o_k1.out R_T_k1.out (by decide) hg); have O_p_k2 := Lib.hid (own_other O_p_k1.out O_o_k1.out (by decide) hg); have O_c_k2 := Lib.hid (own_other O_c_k1.out O_o_k1.out (by decide) hg); have O_o_k2 := Lib.hid ho; have G_k2 := Lib.hid (show Grows w _ from (G_k1.out).grown hg (G_k1.out).size (fun k e => own_low O_o_k1.out k e)); clear g ho hg)
          | ((with_reducible refine wpList_store_c ?_ 24 (.tmp 66) (.tmp 65) ?_ tb 2 (.slice A6 (VdM.ins n d.bad).length c6) #[.slice A2 d.pages.length c2, .slice A3 d.cache.length c3, .slice A4 d.bad.length c4, .bool d.off] 26 ?_ ?_ ?_ ?_ ?_ ?_ ?_); exact rfl; exact rfl; exact rfl; exact rfl; exact rfl; exact one_bad; exact R_T_k2.out; exact (by simp); intro ku2 hp hg; have R_D_k3 := Lib.hid (R_D_k2.out.grown hg (by have zT := ZT.out; intro e; have e := Option.some.inj e; omega)); have R_R_k3 := Lib.hid (R_R_k2.out.grown hg (by have zT := ZT.out; intro e; have e := Option.some.inj e; omega)); have R_T_k3 := Lib.hid hp; have O_p_k3 := Lib.hid (O_p_k2.out.aside hg R_T_k2.out (by decide)); have O_c_k3 := Lib.hid (O_c_k2.out.aside hg R_T_k2.out (by decide)); have O_o_k3 := Lib.hid (O_o_k2.out.aside hg R_T_k2.out (by decide)); have G_k3 := Lib.hid (show Grows w _ from (G_k2.out).grown hg (G_k2.out).size (by have zT := ZT.out; intro k e; have e := Option.some.inj e; omega)); clear hp hg)
          | ((with_reducible refine wpList_load_dk (o := ⟨some 67, _, _, _, _, _⟩) ?_ (.tmp 6) ?_ tb #[.slice A2 d.pages.length c2, .slice A3 d.cache.length c3, .slice A6 (VdM.ins n d.bad).length c6, .bool d.off] ?_ ?_ ?_ ?_); exact rfl; exact rfl; exact rfl; exact R_T_k3.out; exact rfl)
          | ((with_reducible refine wpList_store_dk ?_ (.tmp 4) (.tmp 67) ?_ (w.heap.size + 1) #[.slice A2 d.pages.length c2, .slice A3 d.cache.length c3, .slice A6 (VdM.ins n d.bad).length c6, .bool d.off] #[.slice none 0 0, .slice none 0 0, .slice none 0 0, .bool false] ?_ ?_ ?_ ?_ ?_ ?_ ?_); exact rfl; exact rfl; exact rfl; exact rfl; exact rfl; exact rfl; exact (by simp [Value.oneCell']); exact R_R_k3.out; intro w6 hw6 hg6))
        refine bodyPost_ret (results_dk_two (p := 4) (q := 5) (by exact rfl) _ (.int .i64 0) (by exact rfl) (by exact rfl) (by exact rfl) hw6) rfl ?_
        exact ⟨_, rfl, ⟨_, _, _, rfl, O_p_k3.out.aside hg6 R_R_k3.out (by decide), O_c_k3.out.aside hg6 R_R_k3.out (by decide), O_o_k3.out.aside hg6 R_R_k3.out (by decide)⟩, (G_k3.out).grown hg6 (G_k3.out).size (fun k e => by cases e; omega)⟩
      · have SPN := FlM.spK_all_true HSP.out
        subst SPN
        obtain ⟨A6, c6, rfl, e8, e9, _⟩ := HO.out.els.form
        unfold maxLen at e9
        go_wp2_with (first
          | ((with_reducible refine wpList_store_c ?_ 24 (.tmp 66) (.tmp 65) ?_ tb 2 (.slice A6 (VdM.ins n d.bad).length c6) #[.slice A2 d.pages.length c2, .slice A3 d.cache.length c3, .slice A4 d.bad.length c4, .bool d.off] 26 ?_ ?_ ?_ ?_ ?_ ?_ ?_); exact rfl; exact rfl; exact rfl; exact rfl; exact rfl; exact one_bad; exact H3.out; exact (by simp); intro ku1 hp hg; have R_D_k1 := Lib.hid (H1.out.grown hg (by have zT := ZT.out; intro e; have e := Option.some.inj e; omega)); have R_R_k1 := Lib.hid (H2.out.grown hg (by have zT := ZT.out; intro e; have e := Option.some.inj e; omega)); have R_T_k1 := Lib.hid hp; have O_p_k1 := Lib.hid (H4'.out.aside hg H3.out (by decide)); have O_c_k1 := Lib.hid (H5.out.aside hg H3.out (by decide)); have O_o_k1 := Lib.hid (HO.out.aside hg H3.out (by decide)); have G_k1 := Lib.hid (show Grows w _ from (H6.out).grown hg (H6.out).size (by have zT := ZT.out; intro k e; have e := Option.some.inj e; omega)); clear hp hg)
          | ((with_reducible refine wpList_load_dk (o := ⟨some 67, _, _, _, _, _⟩) ?_ (.tmp 6) ?_ tb #[.slice A2 d.pages.length c2, .slice A3 d.cache.length c3, .slice A6 (VdM.ins n d.bad).length c6, .bool d.off] ?_ ?_ ?_ ?_); exact rfl; exact rfl; exact rfl; exact R_T_k1.out; exact rfl)
          | ((with_reducible refine wpList_store_dk ?_ (.tmp 4) (.tmp 67) ?_ (w.heap.size + 1) #[.slice A2 d.pages.length c2, .slice A3 d.cache.length c3, .slice A6 (VdM.ins n d.bad).length c6, .bool d.off] #[.slice none 0 0, .slice none 0 0, .slice none 0 0, .bool false] ?_ ?_ ?_ ?_ ?_ ?_ ?_); exact rfl; exact rfl; exact rfl; exact rfl; exact rfl; exact rfl; exact (by simp [Value.oneCell']); exact R_R_k1.out; intro w6 hw6 hg6))
        refine bodyPost_ret (results_dk_two (p := 4) (q := 5) (by exact rfl) _ (.int .i64 0) (by exact rfl) (by exact rfl) (by exact rfl) hw6) rfl ?_
        exact ⟨_, rfl, ⟨_, _, _, rfl, O_p_k1.out.aside hg6 R_R_k1.out (by decide), O_c_k1.out.aside hg6 R_R_k1.out (by decide), O_o_k1.out.aside hg6 R_R_k1.out (by decide)⟩, (G_k1.out).grown hg6 (G_k1.out).size (fun k e => by cases e; omega)⟩
end Go.Proofs.Ytiagmlokocpboaa
