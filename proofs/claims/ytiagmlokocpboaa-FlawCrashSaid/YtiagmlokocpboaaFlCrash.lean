/- FlCrash -/
import Derived.Test.YtiagmlokocpboaaFlIter
import Derived.Test.YtiagmlokocpboaaFlSmall
import Derived.Test.YtiagmlokocpboaaVdvFlush
import Derived.Test.YtiagmlokocpboaaBools
/- flaw.Crash. -/
namespace Go.Proofs.Ytiagmlokocpboaa
open Go.RowKit Go.Shelf
set_option linter.unusedVariables false
set_option linter.unusedSimpArgs false
attribute [local go_sem] Oper.semAt_some
theorem wide_depth {p : Prop} : Fence.wide.depth.isSome = true → p := fun h => by cases h
/-- What is no cells stays where a row is written. -/
theorem others_of_row {W W' : World} {b : Nat} {t : TypeId} {cs : Array Value} (hg : W.grownBy W' (some b)) (hr : Row W b t cs) : KeepsOthers W W' := KeepsOthers.of_grownBy hg fun j o e ho => by
  cases e
  rw [show W.heap[b]? = _ from hr] at ho
  cases ho
  rfl
theorem others_of_own {α : Type} {e : TypeId} {s : Nat} {f : α → List Value} {base : Nat} {W W' : World} {v : Value} {l : List α} (hg : W.grownBy W' v.ownBlock) (h : Own' e s f base W v l) : KeepsOthers W W' := KeepsOthers.of_grownBy hg fun j o e ho => by
  rcases h.2.2 with ⟨rfl, _⟩ | ⟨g, cap, cur, rfl, _, hh, _⟩
  · cases e
  · simp only [Value.ownBlock, Option.some.injEq] at e
    subst e
    rw [hh] at ho
    cases ho
    rfl
theorem own_far {α : Type} {e : TypeId} {s : Nat} {f : α → List Value} {base b : Nat} {W W' : World} {v : Value} {l : List α} (h : Own' e s f base W v l) (hg : W.grownBy W' (some b)) (hne : v.ownBlock ≠ some b) : Own' e s f base W' v l :=
  ⟨h.1, h.2.kept hg (.inr hne)⟩
theorem row_ne {W : World} {a b : Nat} {t u : TypeId} {cs ds : Array Value} (h : Row W a t cs) (h' : Row W b u ds) (hne : t ≠ u) : a ≠ b := by
  rintro rfl
  have := Option.some.inj (h.symm.trans h')
  injection this with _ e
  exact hne e
theorem Below.of_both {n : Nat} {w A B : World} (h : Below n w A) (h' : Below n w B) (hs : A.heap.size ≤ B.heap.size) : Below n A B :=
  ⟨h'.os.trans h.os.symm, h'.tape.trans h.tape.symm, h'.output.trans h.output.symm, hs, fun k hk => (h'.block k hk).trans (h.block k hk).symm⟩
/-- A write's page in a box, written anew. -/
theorem layAt_write (a : Int) (p q : Pg) (hp : p.length = 256) (hq : q.length = 256) : layAt (wrA (a, p)) 1 (pageE q) = wrA (a, q) := by
  apply Array.ext_getElem?
  intro i
  rw [layAt_get _ _ _ _ (by rw [pageE_len, hq, wrA_size]; dsimp only; omega), pageE_len, hq]
  unfold wrA writeE
  simp only [List.getElem?_toArray]
  cases i with
  | zero => simp
  | succ i =>
    rw [List.getElem?_cons_succ, List.getElem?_cons_succ, Nat.add_sub_cancel]
    by_cases h : i < 256
    · rw [if_pos (by omega)]; rfl
    · rw [if_neg (by omega), List.getElem?_eq_none (by simp; omega), List.getElem?_eq_none (by simp; omega)]
theorem wpListIn_store_wrpage {w : World} {ops : Array Oper} {rest : List Oper} {o : Oper} {a : Act} {Q : Exit → Act → World → Prop} {F : Fence} {nn : Nat} (hF : WideF F) (hgd : o.guard = none) (x y : Operand) (ho : o.op = .store 40 x y) (g : Nat) (n : Int) (p q : Pg) (hx : a.eval x = .pointer (some ⟨g, 1, none⟩)) (hy : a.eval y = .agg (pgA q)) (hp : p.length = 256) (hq : q.length = 256) (hr : Row w g 42 (wrA (n, p)))
    (h : ∀ w', Row w' g 42 (wrA (n, q)) → w.grownBy w' (some g) → wpListIn F nn Try.prog ops Q rest (a.put o.dst undef) w') : wpListIn F nn Try.prog ops Q (o :: rest) a w :=
  wpListIn_does hF hgd (by intro c; rw [ho]; simp) (R := fun v w' => v = undef ∧ Row w' g 42 (wrA (n, q)) ∧ w.grownBy w' (some g))
    (does_store_mid 40 x y ho g 1 (pgA q) hx hy (by
      rw [pgA_size, hq]
      intro j hj
      refine ⟨?_, hr.frozen _⟩
      rw [hr.cell, Array.getElem?_eq_getElem (by rw [wrA_size]; dsimp only; omega)]; rfl) (by rw [pgA_size, hq]; exact pg_info) (pgA_one _)
      (by
        have h1 := hr.setCells (pageE q) 1
        rw [layAt_write n p q hp hq] at h1
        unfold pgA
        rw [List.toList_toArray]
        exact ⟨rfl, h1, setCells_grown _ _ _⟩)) (by rintro v w' ⟨rfl, h1, h2⟩; exact h w' h1 h2)
theorem ownFrom_size {β : Type} (B N : Nat) : OwnFrom B (fun (_ : β) W => N ≤ W.heap.size) := fun s X Y row hs hg hr => Nat.le_trans hs hg.size
/-- What a round keeps. -/
def InvC (w : World) (N tb aG ab Bs Bp : Nat) (D T : Array Value) (S C P pgs cv bv : Value) (picks : List (BitVec 8)) (cs : List (Int × Pg)) (ps : List Pg) (pre : List (Fin cs.length)) (W : World) : Prop :=
  Own' 40 256 pageE w.heap.size W pgs (FlM.crP picks cs ps pre) ∧ Own' 42 257 writeE w.heap.size W cv [] ∧ Own' 3 1 intE w.heap.size W bv [] ∧ Row W tb 26 T ∧ Row W aG 4 (boolsA (FlM.onA picks cs ps.length pre)) ∧
  Row W ab 38 #[S] ∧ Row W Bs 23 #[C] ∧ Row W Bp 27 #[P] ∧ Row W w.heap.size 26 D ∧ Row W (w.heap.size + 1) 26 noDk ∧ Below w.heap.size w W ∧ N ≤ W.heap.size
set_option maxRecDepth 100000 in
set_option maxHeartbeats 16000000 in
theorem flcrash_in (nn : Nat) (hn : 4 ≤ nn) (v pv : Value) (d : Dk) (picks : List (BitVec 8)) (w : World) (hv : IsDisk w.heap.size w v d) (hpk : Bytes w.heap.size w pv picks) (l1 : d.pages.length ≤ 900000) (l2 : d.cache.length ≤ 900000) (l3 : d.bad.length ≤ 900000) (lp : picks.length ≤ 900000) :
    CallsIn Fence.wide nn Try.prog 14 #[v, pv] w fun e w' => ∃ r, e = .returned r ∧ OwnDisk w.heap.size w' r (FlM.crashD d picks) ∧ Grows w w' := by
  have h1n : 1 ≤ nn := by omega
  have hzw := zero_wr
  have L1 := Lib.hid l1; have L2 := Lib.hid l2; have L3 := Lib.hid l3; have LP := Lib.hid lp
  have HPK := Lib.hid hpk
  obtain ⟨PA, pcap, hpv⟩ : ∃ PA pcap, pv = .slice PA picks.length pcap := by obtain ⟨PA, pcap, e, _⟩ := hpk; exact ⟨PA, pcap, by simpa using e⟩
  subst hpv
  clear hpk l1 l2 l3 lp
  have HV := Lib.hid hv
  obtain ⟨pgv, cv, bv, rfl, hp, hc, hb⟩ := hv
  have HP := Lib.hid hp; have HC := Lib.hid hc; have HB := Lib.hid hb
  obtain ⟨AP, cP, rfl, p1, p2, p3⟩ := hp.form
  obtain ⟨AC, cC, rfl, q1, q2, q3⟩ := hc.form
  obtain ⟨AB, cB, rfl, b1, b2, b3⟩ := hb.ints
  have HPf := Lib.hid p3; have HCf := Lib.hid q3; have HBf := Lib.hid b3
  have HCl := Lib.hid hc.1
  clear hp hc hb p3 q3 b3
  unfold maxLen at p2 q2 b2
  obtain ⟨D, hD⟩ : ∃ D, D = #[Value.slice AP d.pages.length cP, .slice AC d.cache.length cC, .slice AB d.bad.length cB, .bool d.off] := ⟨_, rfl⟩
  have Ds : Hid (D.size = 4 ∧ D[0]? = some (.slice AP d.pages.length cP) ∧ D[1]? = some (.slice AC d.cache.length cC) ∧ D[2]? = some (.slice AB d.bad.length cB) ∧ D[3]? = some (.bool d.off)) := by subst hD; exact ⟨rfl, rfl, rfl, rfl, rfl⟩
  have HDe := Lib.hid hD
  rw [← hD] at HV ⊢
  clear hD
  have R1 := Lib.hid ((Row.new w 26 D).alloc (.cells #[.slice none 0 0, .slice none 0 0, .slice none 0 0, .bool false] 26))
  have R2 : Hid (Row ((w.alloc (.cells D 26)).alloc (.cells #[.slice none 0 0, .slice none 0 0, .slice none 0 0, .bool false] 26)) (w.heap.size + 1) 26 #[.slice none 0 0, .slice none 0 0, .slice none 0 0, .bool false]) := by
    have := Row.new (w.alloc (.cells D 26)) 26 #[.slice none 0 0, .slice none 0 0, .slice none 0 0, .bool false]
    rwa [World.size_alloc] at this
  have HG := Lib.hid ((Grows.alloc w (.cells D 26)).trans (Grows.alloc _ (.cells #[.slice none 0 0, .slice none 0 0, .slice none 0 0, .bool false] 26)))
  have ZW0 : Hid (((w.alloc (.cells D 26)).alloc (.cells #[.slice none 0 0, .slice none 0 0, .slice none 0 0, .bool false] 26)).heap.size = w.heap.size + 2) := by unfold Hid; simp
  have HCD : Hid (FlM.crashD d picks = ⟨FlM.crP picks d.cache d.pages (List.finRange d.cache.length), [], FlM.crB picks d.cache d.pages.length d.bad (List.finRange d.cache.length), d.off⟩) := rfl
  rw [HCD.out]
  obtain ⟨CP, hCP⟩ : ∃ CP, CP = FlM.crP picks d.cache d.pages (List.finRange d.cache.length) := ⟨_, rfl⟩
  obtain ⟨CB, hCB⟩ : ∃ CB, CB = FlM.crB picks d.cache d.pages.length d.bad (List.finRange d.cache.length) := ⟨_, rfl⟩
  rw [← hCP, ← hCB]
  have HCP := Lib.hid hCP; have HCB := Lib.hid hCB
  clear hCP hCB HCD
  have HD0 : Hid (IsDisk ((w.alloc (.cells D 26)).alloc (.cells #[.slice none 0 0, .slice none 0 0, .slice none 0 0, .bool false] 26)).heap.size ((w.alloc (.cells D 26)).alloc (.cells #[.slice none 0 0, .slice none 0 0, .slice none 0 0, .bool false] 26)) (.agg #[.slice AP d.pages.length cP, .slice none 0 0, .slice none 0 0, .bool d.off]) ⟨d.pages, [], [], d.off⟩) := ⟨_, _, _, rfl, HP.out.grows HG.out, Els.nil _ _, Els.nil _ _⟩
  have c_D_0 : _ = some _ := (R1.out.cell 0).trans Ds.out.2.1
  have c_D_3 : _ = some _ := (R1.out.cell 3).trans Ds.out.2.2.2.2
  refine callsIn_of_wp_marks Try.func14 rfl trivial ?_ rfl
  simp only [Try.ntmps14, List.size_toArray, List.length_cons, List.length_nil, Nat.reduceAdd, Nat.reduceSub, Array.replicate_succ, Array.replicate_zero, List.push_toArray, List.append_toArray, List.nil_append, List.cons_append]
  gi_wp2
  refine wpIn_wide.2 (wp_scope_straight ((wpIn_wide (n := nn)).1 ?_))
  gi_wp2_with (first
    | (refine ⟨trivial, ?_⟩; gi_at_call 20; (with_reducible refine (callsIn_wide.2 (flown_any _ ⟨d.pages, [], [], d.off⟩ _ HD0.out (by have := L1.out; simp; omega) (by simp) (by simp))).mono ?_); rintro e ku1 ⟨r, rfl, hr, g⟩; obtain ⟨pv2, cv2, bv2, rfl, o1, o2, o3⟩ := hr; obtain ⟨A2, c2, rfl, e2, e3, _⟩ := o1.els.form; obtain ⟨A3, c3, hA3, _⟩ := o2.els.form; obtain ⟨A4, c4, hA4, _⟩ := o3.els.form; have hA3 : cv2 = .slice A3 0 c3 := hA3; have hA4 : bv2 = .slice A4 0 c4 := hA4; subst hA3; subst hA4; unfold maxLen at e3; have H4 := Lib.hid (dk_one (d := ⟨d.pages, [], [], d.off⟩) ⟨_, _, _, rfl, o1.els, o2.els, o3.els⟩); have op := o1.more (HG.out).size; have oc := o2.more (HG.out).size; have ob := o3.more (HG.out).size; clear o1 o2 o3; have Zk0 := Lib.hid (Below.size g); have R_D_k1 := Lib.hid (Row.grows R1.out g); have R_R_k1 := Lib.hid (Row.grows R2.out g); have G_k1 := Lib.hid ((HG.out).trans g); have O_p_new := Lib.hid (op); have c_D_1 : _ = some _ := (R_D_k1.out.cell 1).trans Ds.out.2.2.1; have O_c_new := Lib.hid oc; have O_b_new := Lib.hid ob; clear op oc ob g)
    | ((with_reducible refine wpListIn_store_dk WideF.wide ?_ (.tmp 5) (.tmp 16) ?_ ku1.heap.size #[.slice A2 d.pages.length c2, .slice A3 0 c3, .slice A4 0 c4, .bool d.off] #[.slice none 0 0, .slice none 0 0, .slice none 0 0, .bool false] ?_ ?_ ?_ ?_ ?_ ?_ ?_); exact rfl; exact rfl; exact rfl; exact rfl; exact H4.out.1; exact rfl; exact H4.out.2; exact Row.new ku1 _ _; intro ku2 hp hg; have g := grown_fresh rfl hg; have R_D_k2 := Lib.hid (Row.grows R_D_k1.out g); have R_R_k2 := Lib.hid (Row.grows R_R_k1.out g); have O_p_k2 := Lib.hid (O_p_new.out.grows g); have O_c_k2 := Lib.hid (O_c_new.out.grows g); have O_b_k2 := Lib.hid (O_b_new.out.grows g); have G_k2 := Lib.hid ((G_k1.out).trans g); have R_T_new := Lib.hid hp; have Zk1 := Lib.hid (Row.lt hp); have Zk2 := Lib.hid (Below.size g); have c_D_1 : _ = some _ := (R_D_k2.out.cell 1).trans Ds.out.2.2.1; have c_T_0 : _ = some _ := (R_T_new.out.cell 0); clear hp hg g)
    | ((with_reducible refine wpListIn_make_bools WideF.wide ?_ (.tmp 19) (.tmp 19) ?_ d.pages.length ?_ ?_ ?_ ?_); exact rfl; exact rfl; exact rfl; exact rfl; have := L1.out; omega; intro ku3 hp g; have R_D_k3 := Lib.hid (Row.grows R_D_k2.out g); have R_R_k3 := Lib.hid (Row.grows R_R_k2.out g); have R_T_k3 := Lib.hid (Row.grows R_T_new.out g); have O_p_k3 := Lib.hid (O_p_k2.out.grows g); have O_c_k3 := Lib.hid (O_c_k2.out.grows g); have O_b_k3 := Lib.hid (O_b_k2.out.grows g); have G_k3 := Lib.hid ((G_k2.out).trans g); have R_A_new := Lib.hid hp; have Zk3 := Lib.hid (Row.lt hp); have Zk4 := Lib.hid (Below.size g); have c_D_1 : _ = some _ := (Row.cell (Row.alloc R_D_k3.out (.cells #[(.slice (some ⟨ku2.heap.size, 0, none⟩) d.pages.length d.pages.length)] 38)) 1).trans Ds.out.2.2.1; clear hp g))
  refine wpIn_label ?_
  gi_wp2_with (first
    | (refine ⟨trivial, ?_⟩; gi_at_call 29; refine (callsIn_wide.2 (wf_any _ _ _ _ _ _ _ _ _ rfl rfl)).mono ?_; rintro e w9 ⟨rfl, rfl⟩))
  rename_i Q1 K aK
  have aK := Lib.hid aK
  have VD := Lib.hid (((R_D_k3.out.alloc (.cells #[(.slice (some ⟨ku2.heap.size, 0, none⟩) d.pages.length d.pages.length)] 38)).alloc (.cells #[.slice AC d.cache.length cC] 23)).alloc (.cells #[.slice PA picks.length pcap] 27))
  have VR := Lib.hid (((R_R_k3.out.alloc (.cells #[(.slice (some ⟨ku2.heap.size, 0, none⟩) d.pages.length d.pages.length)] 38)).alloc (.cells #[.slice AC d.cache.length cC] 23)).alloc (.cells #[.slice PA picks.length pcap] 27))
  have VT := Lib.hid (((R_T_k3.out.alloc (.cells #[(.slice (some ⟨ku2.heap.size, 0, none⟩) d.pages.length d.pages.length)] 38)).alloc (.cells #[.slice AC d.cache.length cC] 23)).alloc (.cells #[.slice PA picks.length pcap] 27))
  have VA := Lib.hid (((R_A_new.out.alloc (.cells #[(.slice (some ⟨ku2.heap.size, 0, none⟩) d.pages.length d.pages.length)] 38)).alloc (.cells #[.slice AC d.cache.length cC] 23)).alloc (.cells #[.slice PA picks.length pcap] 27))
  have VP := Lib.hid (((O_p_k3.out.grows (Grows.alloc _ (.cells #[(.slice (some ⟨ku2.heap.size, 0, none⟩) d.pages.length d.pages.length)] 38))).grows (Grows.alloc _ (.cells #[.slice AC d.cache.length cC] 23))).grows (Grows.alloc _ (.cells #[.slice PA picks.length pcap] 27)))
  have VC := Lib.hid (((O_c_k3.out.grows (Grows.alloc _ (.cells #[(.slice (some ⟨ku2.heap.size, 0, none⟩) d.pages.length d.pages.length)] 38))).grows (Grows.alloc _ (.cells #[.slice AC d.cache.length cC] 23))).grows (Grows.alloc _ (.cells #[.slice PA picks.length pcap] 27)))
  have VB := Lib.hid (((O_b_k3.out.grows (Grows.alloc _ (.cells #[(.slice (some ⟨ku2.heap.size, 0, none⟩) d.pages.length d.pages.length)] 38))).grows (Grows.alloc _ (.cells #[.slice AC d.cache.length cC] 23))).grows (Grows.alloc _ (.cells #[.slice PA picks.length pcap] 27)))
  have VAB := Lib.hid (((Row.new ku3 38 #[(.slice (some ⟨ku2.heap.size, 0, none⟩) d.pages.length d.pages.length)]).alloc (.cells #[.slice AC d.cache.length cC] 23)).alloc (.cells #[.slice PA picks.length pcap] 27))
  have VS : Hid (Row (((ku3.alloc (.cells #[(.slice (some ⟨ku2.heap.size, 0, none⟩) d.pages.length d.pages.length)] 38)).alloc (.cells #[.slice AC d.cache.length cC] 23)).alloc (.cells #[.slice PA picks.length pcap] 27)) (ku3.heap.size + 1) 23 #[.slice AC d.cache.length cC]) := by
    have := (Row.new (ku3.alloc (.cells #[(.slice (some ⟨ku2.heap.size, 0, none⟩) d.pages.length d.pages.length)] 38)) 23 #[.slice AC d.cache.length cC]).alloc (.cells #[.slice PA picks.length pcap] 27)
    rwa [World.size_alloc] at this
  have VPk : Hid (Row (((ku3.alloc (.cells #[(.slice (some ⟨ku2.heap.size, 0, none⟩) d.pages.length d.pages.length)] 38)).alloc (.cells #[.slice AC d.cache.length cC] 23)).alloc (.cells #[.slice PA picks.length pcap] 27)) (ku3.heap.size + 1 + 1) 27 #[.slice PA picks.length pcap]) := by
    have := Row.new ((ku3.alloc (.cells #[(.slice (some ⟨ku2.heap.size, 0, none⟩) d.pages.length d.pages.length)] 38)).alloc (.cells #[.slice AC d.cache.length cC] 23)) 27 #[.slice PA picks.length pcap]
    rwa [World.size_alloc, World.size_alloc] at this
  have HG7 := Lib.hid (((G_k3.out.trans (Grows.alloc _ (.cells #[(.slice (some ⟨ku2.heap.size, 0, none⟩) d.pages.length d.pages.length)] 38))).trans (Grows.alloc _ (.cells #[.slice AC d.cache.length cC] 23))).trans (Grows.alloc _ (.cells #[.slice PA picks.length pcap] 27)))
  have HS7 : Hid ((((ku3.alloc (.cells #[(.slice (some ⟨ku2.heap.size, 0, none⟩) d.pages.length d.pages.length)] 38)).alloc (.cells #[.slice AC d.cache.length cC] 23)).alloc (.cells #[.slice PA picks.length pcap] 27)).heap.size = ku3.heap.size + 3) := by unfold Hid; simp
  have ZT : Hid (w.heap.size + 2 ≤ ku1.heap.size ∧ ku1.heap.size < ku2.heap.size ∧ ku2.heap.size < ku3.heap.size) := by have zW0 := ZW0.out; have zk0 := Zk0.out; have zk1 := Zk1.out; have zk2 := Zk2.out; have zk3 := Zk3.out; have zk4 := Zk4.out; unfold Hid; omega
  generalize hW7 : ((ku3.alloc (.cells #[(.slice (some ⟨ku2.heap.size, 0, none⟩) d.pages.length d.pages.length)] 38)).alloc (.cells #[.slice AC d.cache.length cC] 23)).alloc (.cells #[.slice PA picks.length pcap] 27) = w7 at *
  clear hW7
  generalize ku1.heap.size = tb at *
  generalize ku2.heap.size = aG at *
  generalize ku3.heap.size = ab at *
  obtain ⟨N, hN⟩ : ∃ N, N = w7.heap.size := ⟨_, rfl⟩
  have HN := Lib.hid hN
  have HA3 := Lib.hid (fun g (h : (Value.slice A3 0 c3).ownBlock = some g) => (own_lt VC.out g h).2)
  rw [← hN] at HA3
  clear hN
  refine wpIn_rangeFunc_ownH rfl h1n (gf := 39) (lb := #[.pointer (some ⟨ab + 1, 0, none⟩), .pointer (some ⟨ab + 1 + 1, 0, none⟩)]) rfl trivial (enters_of Try.func39 (by kernel_rfl) rfl)
    (wf_stops (nn - 1) (by omega) (ab + 1) (ab + 1 + 1) w.heap.size (.slice AC d.cache.length cC) (.slice PA picks.length pcap) d.cache picks LP.out w7 HG7.out.size (by rw [HS7.out]; omega) (by rw [HS7.out]; omega) (VS.out.cell 0) (VPk.out.cell 0) (HC.out.below HG7.out) (Sl.below HPK.out HG7.out))
    KeptW.t (KeptW.b HG7.out.size (by rw [HS7.out]; omega) (by rw [HS7.out]; omega)) (Below.refl _ _) (fun _ => rfl)
    (InvC w N tb aG ab (ab + 1) (ab + 1 + 1) D #[.slice A2 d.pages.length c2, .slice A3 0 c3, .slice A4 0 c4, .bool d.off] (.slice (some ⟨aG, 0, none⟩) d.pages.length d.pages.length) (.slice AC d.cache.length cC) (.slice PA picks.length pcap) (.slice A2 d.pages.length c2) (.slice A3 0 c3) (.slice A4 0 c4) picks d.cache d.pages) (fun _ _ _ => False) ?own (fun _ _ _ _ _ hs _ _ => hs) ?start
    (fun y a' W => ∃ Bx, N ≤ Bx ∧ Row W Bx 42 (wrA d.cache[y.val]) ∧ a' = { tmps := #[.agg D, .slice PA picks.length pcap, .pointer (some ⟨w.heap.size, 0, none⟩), undef, .pointer (some ⟨w.heap.size + 1, 0, none⟩), .pointer (some ⟨tb, 0, none⟩), .pointer (some ⟨ab, 0, none⟩), .pointer (some ⟨Bx, 0, none⟩), .int .u8 (FlM.fateI picks y.val), undef, undef, .pointer (some ⟨w.heap.size, 0, none⟩), .slice AP d.pages.length cP, .pointer (some ⟨w.heap.size, 3, none⟩), .bool d.off, .agg #[.slice AP d.pages.length cP, .slice none 0 0, .slice none 0 0, .bool d.off], .agg #[.slice A2 d.pages.length c2, .slice A3 0 c3, .slice A4 0 c4, .bool d.off], .pointer (some ⟨tb, 0, none⟩), .slice A2 d.pages.length c2, .int .i64 d.pages.length, .slice (some ⟨aG, 0, none⟩) d.pages.length d.pages.length, .pointer (some ⟨w.heap.size, 1, none⟩), .slice AC d.cache.length cC, .slice PA picks.length pcap, .func (.func 39) #[] #[.pointer (some ⟨ab + 1, 0, none⟩), .pointer (some ⟨ab + 1 + 1, 0, none⟩)], .agg (wrA d.cache[y.val]), .int .u8 (FlM.fateI picks y.val), undef, undef, undef, undef, undef, undef, undef, undef, undef, undef, undef, undef, undef, undef, undef, undef, undef, undef, undef, undef, undef, undef, undef, undef, undef, undef, undef, undef, undef, undef, undef, undef, undef, undef, undef, undef, undef, undef, undef, undef, undef, undef, undef, undef, undef, undef, undef, undef, undef, undef, undef, undef, undef, undef, undef, undef, undef, undef], defers := [] }) ?ax ?assign ?body ?done ?stop
  case own => exact OwnFrom.and (Own.from (own_stays _ _ _ _ _ _) _) (OwnFrom.and (Own.from (own_stays _ _ _ _ _ (fun _ => [])) _) (OwnFrom.and (Own.from (own_stays _ _ _ _ _ (fun _ => [])) _) (OwnFrom.and (Own.from (row_stays _ _ _) _) (OwnFrom.and (Own.from (row_varies _ _ _) _) (OwnFrom.and (Own.from (row_stays _ _ _) _) (OwnFrom.and (Own.from (row_stays _ _ _) _) (OwnFrom.and (Own.from (row_stays _ _ _) _) (OwnFrom.and (Own.from (row_stays _ _ _) _) (OwnFrom.and (Own.from (row_stays _ _ _) _) (OwnFrom.and (ownFrom_below (Nat.le_refl _) HG7.out.size) (ownFrom_size _ _)))))))))))
  case start => exact ⟨by rw [FlM.crP_nil]; exact VP.out, VC.out, VB.out, VT.out, by rw [FlM.onA_nil]; exact VA.out, VAB.out, VS.out, VPk.out, VD.out, VR.out, HG7.out, by rw [HN.out]; exact Nat.le_refl _⟩
  case ax =>
    rintro y a' s X Y row ⟨Bx, hnx, hr, he⟩ hg hrow
    exact ⟨Bx, hnx, row_stays _ _ _ () X Y row hr hg (fun r e => (hrow r e).2), he⟩
  case assign =>
    intro l pre y W K hI hK
    obtain ⟨i1, i2, i3, i4, i5, i6, i7, i8, i9, i10, i11, i12⟩ := hI
    have HXL : Hid (d.cache[y.val].2.length = 256) := by have := HCl.out _ (List.getElem_mem y.isLt); rw [writeE_len] at this; exact Nat.succ.inj this
    have hKK := Lib.hid hK
    clear hK
    gi_wp2_with (first
      | ((with_reducible refine wpListIn_store_wrrow (WideF.round _) ?_ (.tmp 7) (.tmp 25) ?_ W.heap.size d.cache[y.val] (0, VdM.blank) ?_ ?_ ?_ ?_ ?_ ?_); exact rfl; exact rfl; exact rfl; exact rfl; exact HXL.out; exact blank_len; exact Row.new W _ _; intro u1 hp1 hg1))
    have g := grown_fresh rfl hg1
    refine hKK.out _ _ ((others_of_grows g).from _) ⟨Below.mono g i11.size, KeptAt.rows i7 (Row.grows i7 g), KeptAt.rows i8 (Row.grows i8 g)⟩ ⟨i1.grows g, i2.grows g, i3.grows g, i4.grows g, i5.grows g, i6.grows g, i7.grows g, i8.grows g, i9.grows g, i10.grows g, (show Grows w W from i11).trans g, Nat.le_trans i12 g.size⟩ ⟨W.heap.size, i12, hp1, rfl⟩
  case stop =>
    rintro D0 c pre W _ _ h _
    exact h.elim
  case body =>
    rintro l pre y a' W hlW _ hI ⟨Bx, hnx, hbx, rfl⟩ hlt2
    obtain ⟨i1, i2, i3, i4, i5, i6, i7, i8, i9, i10, i11, i12⟩ := hI
    have HXL : Hid (d.cache[y.val].2.length = 256) := by have := HCl.out _ (List.getElem_mem y.isLt); rw [writeE_len] at this; exact Nat.succ.inj this
    have ZB1 : Hid (Bx ≠ tb) := row_ne hbx i4 (by decide)
    have ZB2 : Hid (Bx ≠ aG) := row_ne hbx i5 (by decide)
    have ZB3 : Hid (Bx ≠ ab) := row_ne hbx i6 (by decide)
    have ZB4 : Hid (Bx ≠ ab + 1) := row_ne hbx i7 (by decide)
    have ZB5 : Hid (Bx ≠ ab + 1 + 1) := row_ne hbx i8 (by decide)
    have ZB6 : Hid (Bx ≠ w.heap.size) := row_ne hbx i9 (by decide)
    have ZB7 : Hid (Bx ≠ w.heap.size + 1) := row_ne hbx i10 (by decide)
    have ZWs : Hid (w.heap.size + 2 ≤ tb ∧ tb < aG ∧ aG < ab) := ZT.out
    have ZNb : Hid (w.heap.size ≤ Bx) := by have := HG7.out.size; have := HN.out; unfold Hid; omega
    have HA3n : Hid ((Value.slice A3 0 c3).ownBlock ≠ some Bx) := fun h => by have := HA3.out _ h; omega
    have HPS := Lib.hid (FlM.crP_snoc picks d.cache d.pages pre y)
    have HPL := Lib.hid (FlM.crP_length picks d.cache d.pages pre)
    have HAO := Lib.hid (FlM.onA_old picks d.cache d.pages.length pre y)
    have HAL := Lib.hid (FlM.onA_length picks d.cache d.pages.length pre)
    have HFd : Hid (FlM.fateI picks y.val = (FlM.fate picks y.val : Int)) := rfl
    have hf3 := FlM.fate_lt picks y.val
    have c_X_0 : W.cell? ⟨Bx, 0, none⟩ = some (.int .i64 d.cache[y.val].1) := wr_place_at hbx
    have HAS := Lib.hid (fun n W (h : IsDisk (World.heap W).size W (.agg D) d) => flhas_any _ d n W h)
    have HOn : Hid (∀ n : Int, FlM.onDk d n = (decide (0 ≤ n) && decide (n < d.pages.length))) := fun n => rfl
    have I1 := Lib.hid i1; have I2 := Lib.hid i2; have I3 := Lib.hid i3; have I4 := Lib.hid i4; have I5 := Lib.hid i5; have I6 := Lib.hid i6; have I7 := Lib.hid i7; have I8 := Lib.hid i8; have I9 := Lib.hid i9; have I10 := Lib.hid i10; have I11 := Lib.hid (show Grows w W from i11); have I12 := Lib.hid i12; have HBX := Lib.hid hbx
    have KO0 := Lib.hid (KeepsOthers.refl W)
    clear i1 i2 i3 i4 i5 i6 i7 i8 i9 i10 i11 i12 hbx hlW
    generalize hfE : FlM.fate picks y.val = f at *
    generalize FlM.fateI picks y.val = fI at *
    generalize hxE : d.cache[y.val] = x at *
    have HAN : Hid (∀ k : Nat, x.1 = (k : Int) → FlM.lands d.pages.length f x.1 = true → FlM.onA picks d.cache d.pages.length (pre ++ [y]) = (FlM.onA picks d.cache d.pages.length pre).set k true) := fun k h1 h2 => FlM.onA_new picks d.cache d.pages.length pre y k (by rw [hxE]; exact h1) (by rw [hxE, hfE]; exact h2)
    clear hxE hfE
    unfold FlM.stepP at HPS
    rw [HPL.out] at HPS
    obtain ⟨xa, xp⟩ := x
    dsimp only at HPS HAO HAN HXL c_X_0
    unfold InvC
    obtain rfl : fI = (f : Int) := HFd.out
    clear HFd
    generalize FlM.crP picks d.cache d.pages pre = ps at *
    generalize FlM.onA picks d.cache d.pages.length pre = on1 at *
    by_cases hf0 : f = 0
    · subst hf0
      have hL : FlM.lands d.pages.length 0 xa = false := rfl
      rw [hL, if_neg (by decide)] at HPS
      have HA1 := Lib.hid (HAO.out hL)
      clear hL HAO HAN
      gi_wp2
      exact ⟨KO0.out.from _, ⟨Below.of_both I11.out I11.out (Nat.le_refl _), KeptAt.rows I7.out I7.out, KeptAt.rows I8.out I8.out⟩, by rw [HPS.out]; exact I1.out, I2.out, I3.out, I4.out, by rw [HA1.out]; exact I5.out, I6.out, I7.out, I8.out, I9.out, I10.out, I11.out, Nat.le_trans I12.out (Nat.le_refl _)⟩
    have hff : f = 1 ∨ f = 2 := by omega
    by_cases hon : FlM.onDk d xa = true
    case neg =>
      have HH := Lib.hid (HAS.out xa)
      rw [Bool.eq_false_iff.2 hon] at HH
      have hL : FlM.lands d.pages.length f xa = false := by
        rw [HOn.out] at hon
        simp only [Bool.and_eq_true, decide_eq_true_eq] at hon
        rw [Bool.eq_false_iff, Ne, FlM.lands_iff]; omega
      rw [hL, if_neg (by decide)] at HPS
      have HA1 := Lib.hid (HAO.out hL)
      clear hL HAO HAN
      rcases hff with rfl | rfl
      · gi_wp2_with (first
          | ((with_reducible refine wpListIn_load_dk ?_ (.tmp 2) ?_ w.heap.size D ?_ ?_ ?_ ?_); exact rfl; exact rfl; exact rfl; exact I9.out; exact Ds.out.1)
          | (refine ⟨trivial, wide_depth, ?_⟩; gi_at_call 26; (with_reducible refine (CallsIn.inRound _ (callsIn_wide.2 (HH.out _ (HV.out.grows I11.out)))).mono ?_); rintro e ku1 ⟨rfl, g⟩; have Zk0 := Lib.hid (Below.size g); have R_D_k1 := Lib.hid (Row.grows I9.out g); have R_R_k1 := Lib.hid (Row.grows I10.out g); have R_T_k1 := Lib.hid (Row.grows I4.out g); have R_A_k1 := Lib.hid (Row.grows I5.out g); have R_S_k1 := Lib.hid (Row.grows I6.out g); have R_C_k1 := Lib.hid (Row.grows I7.out g); have R_P_k1 := Lib.hid (Row.grows I8.out g); have R_X_k1 := Lib.hid (Row.grows HBX.out g); have O_p_k1 := Lib.hid (I1.out.grows g); have O_c_k1 := Lib.hid (I2.out.grows g); have O_b_k1 := Lib.hid (I3.out.grows g); have G_k1 := Lib.hid ((I11.out).trans g); have KO_k1 := Lib.hid ((KO0.out).trans (others_of_grows g)); have c_X_0 : _ = some _ := (R_X_k1.out.cell 0).trans (wr_cell0 (xa) xp); have c_T_0 : _ = some _ := (R_T_k1.out.cell 0); have c_S_0 : _ = some _ := (R_S_k1.out.cell 0); clear g))
        exact ⟨KO_k1.out.from _, ⟨Below.of_both I11.out G_k1.out (by have zNb := ZNb.out; have zWs := ZWs.out; have zB1 := ZB1.out; have zB2 := ZB2.out; have zB3 := ZB3.out; have zB4 := ZB4.out; have zB5 := ZB5.out; have zB6 := ZB6.out; have zB7 := ZB7.out; have zk0 := Zk0.out; omega), KeptAt.rows I7.out R_C_k1.out, KeptAt.rows I8.out R_P_k1.out⟩, by rw [HPS.out]; exact O_p_k1.out, O_c_k1.out, O_b_k1.out, R_T_k1.out, by rw [HA1.out]; exact R_A_k1.out, R_S_k1.out, R_C_k1.out, R_P_k1.out, R_D_k1.out, R_R_k1.out, G_k1.out, Nat.le_trans I12.out (by have zNb := ZNb.out; have zWs := ZWs.out; have zB1 := ZB1.out; have zB2 := ZB2.out; have zB3 := ZB3.out; have zB4 := ZB4.out; have zB5 := ZB5.out; have zB6 := ZB6.out; have zB7 := ZB7.out; have zk0 := Zk0.out; omega)⟩
      · gi_wp2_with (first
          | ((with_reducible refine wpListIn_load_dk ?_ (.tmp 2) ?_ w.heap.size D ?_ ?_ ?_ ?_); exact rfl; exact rfl; exact rfl; exact I9.out; exact Ds.out.1)
          | (refine ⟨trivial, wide_depth, ?_⟩; gi_at_call 26; (with_reducible refine (CallsIn.inRound _ (callsIn_wide.2 (HH.out _ (HV.out.grows I11.out)))).mono ?_); rintro e ku1 ⟨rfl, g⟩; have Zk0 := Lib.hid (Below.size g); have R_D_k1 := Lib.hid (Row.grows I9.out g); have R_R_k1 := Lib.hid (Row.grows I10.out g); have R_T_k1 := Lib.hid (Row.grows I4.out g); have R_A_k1 := Lib.hid (Row.grows I5.out g); have R_S_k1 := Lib.hid (Row.grows I6.out g); have R_C_k1 := Lib.hid (Row.grows I7.out g); have R_P_k1 := Lib.hid (Row.grows I8.out g); have R_X_k1 := Lib.hid (Row.grows HBX.out g); have O_p_k1 := Lib.hid (I1.out.grows g); have O_c_k1 := Lib.hid (I2.out.grows g); have O_b_k1 := Lib.hid (I3.out.grows g); have G_k1 := Lib.hid ((I11.out).trans g); have KO_k1 := Lib.hid ((KO0.out).trans (others_of_grows g)); have c_X_0 : _ = some _ := (R_X_k1.out.cell 0).trans (wr_cell0 (xa) xp); have c_T_0 : _ = some _ := (R_T_k1.out.cell 0); have c_S_0 : _ = some _ := (R_S_k1.out.cell 0); clear g))
        exact ⟨KO_k1.out.from _, ⟨Below.of_both I11.out G_k1.out (by have zNb := ZNb.out; have zWs := ZWs.out; have zB1 := ZB1.out; have zB2 := ZB2.out; have zB3 := ZB3.out; have zB4 := ZB4.out; have zB5 := ZB5.out; have zB6 := ZB6.out; have zB7 := ZB7.out; have zk0 := Zk0.out; omega), KeptAt.rows I7.out R_C_k1.out, KeptAt.rows I8.out R_P_k1.out⟩, by rw [HPS.out]; exact O_p_k1.out, O_c_k1.out, O_b_k1.out, R_T_k1.out, by rw [HA1.out]; exact R_A_k1.out, R_S_k1.out, R_C_k1.out, R_P_k1.out, R_D_k1.out, R_R_k1.out, G_k1.out, Nat.le_trans I12.out (by have zNb := ZNb.out; have zWs := ZWs.out; have zB1 := ZB1.out; have zB2 := ZB2.out; have zB3 := ZB3.out; have zB4 := ZB4.out; have zB5 := ZB5.out; have zB6 := ZB6.out; have zB7 := ZB7.out; have zk0 := Zk0.out; omega)⟩
    have HH := Lib.hid (HAS.out xa)
    rw [hon] at HH
    rw [HOn.out] at hon
    simp only [Bool.and_eq_true, decide_eq_true_eq] at hon
    have hL : FlM.lands d.pages.length f xa = true := by rw [FlM.lands_iff]; omega
    rw [hL, if_pos rfl] at HPS
    obtain ⟨q, rfl⟩ : ∃ q : Nat, xa = q := ⟨xa.toNat, by omega⟩
    have HA1 := Lib.hid (HAN.out q rfl hL)
    rw [Int.toNat_natCast] at HPS
    have hqn : q < d.pages.length := by omega
    have hqi : (q : Int) < d.pages.length := by omega
    obtain ⟨G, cG, eG, _, hG2, hGb, hGl⟩ := I1.out.at_zero (by rw [HPL.out]; omega)
    rw [HPL.out] at eG
    injection eG with eG1 eGl eG2
    subst eG1
    subst eG2
    have ZGb : Hid (w.heap.size ≤ G) := hGb
    obtain ⟨old, hold⟩ : ∃ old, ps[q]? = some old := ⟨_, List.getElem?_eq_getElem (by rw [HPL.out]; exact hqn)⟩
    have HOld := Lib.hid hold
    have HOl : Hid (old.length = 256) := by have := I1.out.1 _ (List.mem_of_getElem? hold); rwa [pageE_len] at this
    rw [hold, Option.getD_some] at HPS
    obtain ⟨ob, hob⟩ : ∃ ob, on1[q]? = some ob := ⟨_, List.getElem?_eq_getElem (by rw [HAL.out]; exact hqn)⟩
    have HOB := Lib.hid (boolsA_get on1 q ob hob)
    have HQA := Lib.hid (show q < (boolsA on1).size by rw [boolsA_size, HAL.out]; exact hqn)
    clear hold hob eGl hGb hGl hG2 hL HAO HAN HAS HOn hon
    rcases hff with rfl | rfl
    · rw [show FlM.newP 1 old xp = xp from rfl] at HPS
      gi_wp2_with (first
        | ((with_reducible refine wpListIn_load_dk ?_ (.tmp 2) ?_ w.heap.size D ?_ ?_ ?_ ?_); exact rfl; exact rfl; exact rfl; exact I9.out; exact Ds.out.1)
        | (refine ⟨trivial, wide_depth, ?_⟩; gi_at_call 26; (with_reducible refine (CallsIn.inRound _ (callsIn_wide.2 (HH.out _ (HV.out.grows I11.out)))).mono ?_); rintro e ku1 ⟨rfl, g⟩; have Zk0 := Lib.hid (Below.size g); have R_D_k1 := Lib.hid (Row.grows I9.out g); have R_R_k1 := Lib.hid (Row.grows I10.out g); have R_T_k1 := Lib.hid (Row.grows I4.out g); have R_A_k1 := Lib.hid (Row.grows I5.out g); have R_S_k1 := Lib.hid (Row.grows I6.out g); have R_C_k1 := Lib.hid (Row.grows I7.out g); have R_P_k1 := Lib.hid (Row.grows I8.out g); have R_X_k1 := Lib.hid (Row.grows HBX.out g); have O_p_k1 := Lib.hid (I1.out.grows g); have O_c_k1 := Lib.hid (I2.out.grows g); have O_b_k1 := Lib.hid (I3.out.grows g); have G_k1 := Lib.hid ((I11.out).trans g); have KO_k1 := Lib.hid ((KO0.out).trans (others_of_grows g)); have c_X_0 : _ = some _ := (R_X_k1.out.cell 0).trans (wr_cell0 ((q : Int)) xp); have c_T_0 : _ = some _ := (R_T_k1.out.cell 0); have c_S_0 : _ = some _ := (R_S_k1.out.cell 0); clear g)
        | ((with_reducible refine wpListIn_load_pg (WideF.round _) ?_ (.tmp 52) ?_ Bx 1 xp ?_ ?_ ?_ ?_); exact rfl; exact rfl; exact rfl; exact HXL.out; exact (wr_page_at R_X_k1.out))
        | ((with_reducible refine wpListIn_store_pgown (WideF.round _) ?_ (.tmp 54) (.tmp 53) ?_ G q xp ps w.heap.size c2 ?_ ?_ HPL.out hqn ?_ ?_ ?_); exact rfl; exact rfl; exact rfl; exact rfl; exact HXL.out; exact O_p_k1.out; intro ku2 ho hg; have R_D_k2 := Lib.hid (row_other O_p_k1.out R_D_k1.out (by decide) hg); have R_R_k2 := Lib.hid (row_other O_p_k1.out R_R_k1.out (by decide) hg); have R_T_k2 := Lib.hid (row_other O_p_k1.out R_T_k1.out (by decide) hg); have R_A_k2 := Lib.hid (row_other O_p_k1.out R_A_k1.out (by decide) hg); have R_S_k2 := Lib.hid (row_other O_p_k1.out R_S_k1.out (by decide) hg); have R_C_k2 := Lib.hid (row_other O_p_k1.out R_C_k1.out (by decide) hg); have R_P_k2 := Lib.hid (row_other O_p_k1.out R_P_k1.out (by decide) hg); have R_X_k2 := Lib.hid (row_other O_p_k1.out R_X_k1.out (by decide) hg); have O_p_k2 := Lib.hid ho; have O_c_k2 := Lib.hid (own_other O_c_k1.out O_p_k1.out (by decide) hg); have O_b_k2 := Lib.hid (own_other O_b_k1.out O_p_k1.out (by decide) hg); have G_k2 := Lib.hid (show Grows w _ from (G_k1.out).grown hg (G_k1.out).size (fun k e => own_low O_p_k1.out k e)); have KO_k2 := Lib.hid ((KO_k1.out).trans (others_of_own hg O_p_k1.out)); have c_X_0 : _ = some _ := (R_X_k2.out.cell 0).trans (wr_cell0 ((q : Int)) xp); have c_T_0 : _ = some _ := (R_T_k2.out.cell 0); have c_S_0 : _ = some _ := (R_S_k2.out.cell 0); have Zk1 := Lib.hid (hg.size); clear ho hg)
        | ((with_reducible refine wpListIn_store_c (WideF.round _) ?_ 4 (.tmp 58) (.const (.bool true)) ?_ aG q (.bool true) (boolsA on1) 4 ?_ ?_ ?_ ?_ ?_ ?_ ?_); exact rfl; exact rfl; exact rfl; exact rfl; exact rfl; exact one_off; exact R_A_k2.out; exact HQA.out; intro ku3 hp hg; rw [boolsA_set] at hp; have Zk2 := Lib.hid (hg.size); have R_D_k3 := Lib.hid (R_D_k2.out.grown hg (by have zNb := ZNb.out; have zWs := ZWs.out; have zB1 := ZB1.out; have zB2 := ZB2.out; have zB3 := ZB3.out; have zB4 := ZB4.out; have zB5 := ZB5.out; have zB6 := ZB6.out; have zB7 := ZB7.out; have zGb := ZGb.out; have zk0 := Zk0.out; have zk1 := Zk1.out; have zk2 := Zk2.out; intro e; have e := Option.some.inj e; omega)); have R_R_k3 := Lib.hid (R_R_k2.out.grown hg (by have zNb := ZNb.out; have zWs := ZWs.out; have zB1 := ZB1.out; have zB2 := ZB2.out; have zB3 := ZB3.out; have zB4 := ZB4.out; have zB5 := ZB5.out; have zB6 := ZB6.out; have zB7 := ZB7.out; have zGb := ZGb.out; have zk0 := Zk0.out; have zk1 := Zk1.out; have zk2 := Zk2.out; intro e; have e := Option.some.inj e; omega)); have R_T_k3 := Lib.hid (R_T_k2.out.grown hg (by have zNb := ZNb.out; have zWs := ZWs.out; have zB1 := ZB1.out; have zB2 := ZB2.out; have zB3 := ZB3.out; have zB4 := ZB4.out; have zB5 := ZB5.out; have zB6 := ZB6.out; have zB7 := ZB7.out; have zGb := ZGb.out; have zk0 := Zk0.out; have zk1 := Zk1.out; have zk2 := Zk2.out; intro e; have e := Option.some.inj e; omega)); have R_A_k3 := Lib.hid hp; have R_S_k3 := Lib.hid (R_S_k2.out.grown hg (by have zNb := ZNb.out; have zWs := ZWs.out; have zB1 := ZB1.out; have zB2 := ZB2.out; have zB3 := ZB3.out; have zB4 := ZB4.out; have zB5 := ZB5.out; have zB6 := ZB6.out; have zB7 := ZB7.out; have zGb := ZGb.out; have zk0 := Zk0.out; have zk1 := Zk1.out; have zk2 := Zk2.out; intro e; have e := Option.some.inj e; omega)); have R_C_k3 := Lib.hid (R_C_k2.out.grown hg (by have zNb := ZNb.out; have zWs := ZWs.out; have zB1 := ZB1.out; have zB2 := ZB2.out; have zB3 := ZB3.out; have zB4 := ZB4.out; have zB5 := ZB5.out; have zB6 := ZB6.out; have zB7 := ZB7.out; have zGb := ZGb.out; have zk0 := Zk0.out; have zk1 := Zk1.out; have zk2 := Zk2.out; intro e; have e := Option.some.inj e; omega)); have R_P_k3 := Lib.hid (R_P_k2.out.grown hg (by have zNb := ZNb.out; have zWs := ZWs.out; have zB1 := ZB1.out; have zB2 := ZB2.out; have zB3 := ZB3.out; have zB4 := ZB4.out; have zB5 := ZB5.out; have zB6 := ZB6.out; have zB7 := ZB7.out; have zGb := ZGb.out; have zk0 := Zk0.out; have zk1 := Zk1.out; have zk2 := Zk2.out; intro e; have e := Option.some.inj e; omega)); have O_p_k3 := Lib.hid (O_p_k2.out.aside hg R_A_k2.out (by decide)); have O_c_k3 := Lib.hid (O_c_k2.out.aside hg R_A_k2.out (by decide)); have O_b_k3 := Lib.hid (O_b_k2.out.aside hg R_A_k2.out (by decide)); have G_k3 := Lib.hid (show Grows w _ from (G_k2.out).grown hg (G_k2.out).size (by have zNb := ZNb.out; have zWs := ZWs.out; have zB1 := ZB1.out; have zB2 := ZB2.out; have zB3 := ZB3.out; have zB4 := ZB4.out; have zB5 := ZB5.out; have zB6 := ZB6.out; have zB7 := ZB7.out; have zGb := ZGb.out; have zk0 := Zk0.out; have zk1 := Zk1.out; have zk2 := Zk2.out; intro k e; have e := Option.some.inj e; omega)); have KO_k3 := Lib.hid ((KO_k2.out).trans (others_of_row hg R_A_k2.out)); clear hp hg))
      exact ⟨KO_k3.out.from _, ⟨Below.of_both I11.out G_k3.out (by have zNb := ZNb.out; have zWs := ZWs.out; have zB1 := ZB1.out; have zB2 := ZB2.out; have zB3 := ZB3.out; have zB4 := ZB4.out; have zB5 := ZB5.out; have zB6 := ZB6.out; have zB7 := ZB7.out; have zGb := ZGb.out; have zk0 := Zk0.out; have zk1 := Zk1.out; have zk2 := Zk2.out; omega), KeptAt.rows I7.out R_C_k3.out, KeptAt.rows I8.out R_P_k3.out⟩, by rw [HPS.out]; exact O_p_k3.out, O_c_k3.out, O_b_k3.out, R_T_k3.out, by rw [HA1.out]; exact R_A_k3.out, R_S_k3.out, R_C_k3.out, R_P_k3.out, R_D_k3.out, R_R_k3.out, G_k3.out, Nat.le_trans I12.out (by have zNb := ZNb.out; have zWs := ZWs.out; have zB1 := ZB1.out; have zB2 := ZB2.out; have zB3 := ZB3.out; have zB4 := ZB4.out; have zB5 := ZB5.out; have zB6 := ZB6.out; have zB7 := ZB7.out; have zGb := ZGb.out; have zk0 := Zk0.out; have zk1 := Zk1.out; have zk2 := Zk2.out; omega)⟩
    · rw [show FlM.newP 2 old xp = PackM.halves old xp from rfl] at HPS
      gi_wp2_with (first
        | ((with_reducible refine wpListIn_load_dk ?_ (.tmp 2) ?_ w.heap.size D ?_ ?_ ?_ ?_); exact rfl; exact rfl; exact rfl; exact I9.out; exact Ds.out.1)
        | (refine ⟨trivial, wide_depth, ?_⟩; gi_at_call 26; (with_reducible refine (CallsIn.inRound _ (callsIn_wide.2 (HH.out _ (HV.out.grows I11.out)))).mono ?_); rintro e ku1 ⟨rfl, g⟩; have Zk0 := Lib.hid (Below.size g); have R_D_k1 := Lib.hid (Row.grows I9.out g); have R_R_k1 := Lib.hid (Row.grows I10.out g); have R_T_k1 := Lib.hid (Row.grows I4.out g); have R_A_k1 := Lib.hid (Row.grows I5.out g); have R_S_k1 := Lib.hid (Row.grows I6.out g); have R_C_k1 := Lib.hid (Row.grows I7.out g); have R_P_k1 := Lib.hid (Row.grows I8.out g); have R_X_k1 := Lib.hid (Row.grows HBX.out g); have O_p_k1 := Lib.hid (I1.out.grows g); have O_c_k1 := Lib.hid (I2.out.grows g); have O_b_k1 := Lib.hid (I3.out.grows g); have G_k1 := Lib.hid ((I11.out).trans g); have KO_k1 := Lib.hid ((KO0.out).trans (others_of_grows g)); have c_X_0 : _ = some _ := (R_X_k1.out.cell 0).trans (wr_cell0 ((q : Int)) xp); have c_T_0 : _ = some _ := (R_T_k1.out.cell 0); have c_S_0 : _ = some _ := (R_S_k1.out.cell 0); clear g))
      have hnl := Lib.hid (PackM.halves_length old xp HOl.out HXL.out)
      obtain ⟨_, _, eA, _, _, hrx⟩ := (O_p_k1.out).els.form
      obtain ⟨gA, oA, eA2, _, hrx⟩ := hrx (by rw [HPL.out]; omega)
      injection eA with eA eAl eAc
      rw [← eA] at eA2
      injection eA2 with eA2
      injection eA2 with eg1 eg2 _
      subst eg1
      subst eg2
      have YO := Lib.hid (hrx q _ HOld.out)
      clear hrx eA eAl eAc
      rw [Nat.zero_add] at YO
      refine wpIn_region_free (WideF.round _) 10 85 (by kernel_rfl) (by kernel_rfl) (by kernel_rfl) rfl (by kernel_rfl) ?_; simp only [List.take_succ_cons, List.take_zero, List.drop_succ_cons, List.drop_zero]
      repeat (apply free_pure rfl; focus (intro vs w hg hd; have q0 := hg.cell c_T_0; have q1 := hg.cell c_X_0; (try simp [Region.binds] at hd); simp only [execOp, resolve, Option.map_some, Option.map_none, List.map_toArray, List.map_cons, List.map_nil, rho_const, rho_func]; (repeat (conv in rho _ _ _ _ (Operand.tmp _) => whnf)); (try simp only [hd]); go_simp; (repeat (conv in rho _ _ _ _ (Operand.tmp _) => whnf)); (try simp only [hd]); rfl))
      refine free_op (fun v_ _ => v_ = .agg (pgA old)) rfl (dk_mono _) (fun vs wq hg hd => by
        (try simp [Region.binds] at hd)
        refine dk_load 40 (.tmp 42) ⟨G, q * 256, none⟩ _ rfl ?_ (page_run_load HOl.out (range_grows YO.out (Grows.of_drew hg))) ⟨Grows.refl _, rfl⟩
        (conv in rho _ _ _ _ (Operand.tmp _) => whnf)
        simp [hd]) ?_
      repeat (apply free_pure rfl; focus (intro vs w hg hd; have q0 := hg.cell c_T_0; have q1 := hg.cell c_X_0; (try simp [Region.binds] at hd); simp only [execOp, resolve, Option.map_some, Option.map_none, List.map_toArray, List.map_cons, List.map_nil, rho_const, rho_func]; (repeat (conv in rho _ _ _ _ (Operand.tmp _) => whnf)); (try simp only [hd]); go_simp; (repeat (conv in rho _ _ _ _ (Operand.tmp _) => whnf)); (try simp only [hd]); rfl))
      refine free_op (fun v_ _ => v_ = .agg (pgA xp)) rfl (dk_mono _) (fun vs wq hg hd => by
        (try simp [Region.binds] at hd)
        refine dk_load 40 (.tmp 44) ⟨Bx, 1, none⟩ _ rfl ?_ (page_run_load HXL.out (range_grows (wr_page_at R_X_k1.out) (Grows.of_drew hg))) ⟨Grows.refl _, rfl⟩
        (conv in rho _ _ _ _ (Operand.tmp _) => whnf)
        simp [hd]) ?_
      refine free_op (fun v_ _ => v_ = .agg (pgA (PackM.halves old xp))) rfl (dk_mono _) (fun vs wq hg hd => by
        (try simp [Region.binds] at hd); simp only [Does]; simp only [execOp, resolve, Option.map_some, Option.map_none, List.map_toArray, List.map_cons, List.map_nil, rho_const, rho_func]; (repeat (conv in rho _ _ _ _ (Operand.tmp _) => whnf)); (try simp only [hd]); go_simp; (repeat (conv in rho _ _ _ _ (Operand.tmp _) => whnf))
        refine (halves_pg old xp HOl.out HXL.out _).mono ?_
        rintro e w2 ⟨rfl, hg2⟩
        exact ⟨rfl, hg2⟩) ?_
      repeat (apply free_pure rfl; focus (intro vs w hg hd; have q0 := hg.cell c_T_0; have q1 := hg.cell c_X_0; (try simp [Region.binds] at hd); simp only [execOp, resolve, Option.map_some, Option.map_none, List.map_toArray, List.map_cons, List.map_nil, rho_const, rho_func]; (repeat (conv in rho _ _ _ _ (Operand.tmp _) => whnf)); (try simp only [hd]); go_simp; (repeat (conv in rho _ _ _ _ (Operand.tmp _) => whnf)); (try simp only [hd]); rfl))
      intro vs w' hg hv; have h8 := hv 8 (by omega); simp at h8; have h9 := hv 9 (by omega); simp at h9; simp only [putL, dstAt, List.range, List.range.loop, if_true, List.getElem?_toArray, List.getElem?_cons_zero, List.getElem?_cons_succ, Option.bind_some, Act.put, List.setIfInBounds_toArray, List.set_cons_zero, List.set_cons_succ]
      rw [h8, h9]
      have hgW : Grows ku1 w' := Grows.of_drew hg
      have R_D_k2 := Lib.hid (Row.grows R_D_k1.out hgW)
      have R_R_k2 := Lib.hid (Row.grows R_R_k1.out hgW)
      have R_T_k2 := Lib.hid (Row.grows R_T_k1.out hgW)
      have R_A_k2 := Lib.hid (Row.grows R_A_k1.out hgW)
      have R_S_k2 := Lib.hid (Row.grows R_S_k1.out hgW)
      have R_C_k2 := Lib.hid (Row.grows R_C_k1.out hgW)
      have R_P_k2 := Lib.hid (Row.grows R_P_k1.out hgW)
      have R_X_k2 := Lib.hid (Row.grows R_X_k1.out hgW)
      have O_p_k2 := Lib.hid (O_p_k1.out.grows hgW)
      have O_c_k2 := Lib.hid (O_c_k1.out.grows hgW)
      have O_b_k2 := Lib.hid (O_b_k1.out.grows hgW)
      have G_k2 := Lib.hid ((G_k1.out).trans hgW)
      have KO_k2 := Lib.hid ((KO_k1.out).trans (others_of_grows hgW))
      have ZgW : Hid (ku1.heap.size ≤ w'.heap.size) := Below.size hgW
      clear hv h8 h9 hg c_T_0 c_X_0 c_S_0
      generalize vs 0 = z0, vs 1 = z1, vs 2 = z2, vs 3 = z3, vs 4 = z4, vs 5 = z5, vs 6 = z6, vs 7 = z7, vs 8 = z8, vs 9 = z9 at *
      have c_X_0 : _ = some _ := (R_X_k2.out.cell 0).trans (wr_cell0 ((q : Int)) xp)
      have c_T_0 : _ = some _ := (R_T_k2.out.cell 0)
      have c_S_0 : _ = some _ := (R_S_k2.out.cell 0)
      gi_wp2_with (first
        | ((with_reducible refine wpListIn_store_wrpage (WideF.round _) ?_ (.tmp 47) (.tmp 46) ?_ Bx (q : Int) xp (PackM.halves old xp) ?_ ?_ ?_ ?_ ?_ ?_); exact rfl; exact rfl; exact rfl; exact rfl; exact HXL.out; exact hnl.out; exact R_X_k2.out; intro ku2 hp hg; have Zk1 := Lib.hid (hg.size); have R_D_k3 := Lib.hid (R_D_k2.out.grown hg (by have zNb := ZNb.out; have zWs := ZWs.out; have zB1 := ZB1.out; have zB2 := ZB2.out; have zB3 := ZB3.out; have zB4 := ZB4.out; have zB5 := ZB5.out; have zB6 := ZB6.out; have zB7 := ZB7.out; have zGb := ZGb.out; have zk0 := Zk0.out; have zgW := ZgW.out; have zk1 := Zk1.out; intro e; have e := Option.some.inj e; omega)); have R_R_k3 := Lib.hid (R_R_k2.out.grown hg (by have zNb := ZNb.out; have zWs := ZWs.out; have zB1 := ZB1.out; have zB2 := ZB2.out; have zB3 := ZB3.out; have zB4 := ZB4.out; have zB5 := ZB5.out; have zB6 := ZB6.out; have zB7 := ZB7.out; have zGb := ZGb.out; have zk0 := Zk0.out; have zgW := ZgW.out; have zk1 := Zk1.out; intro e; have e := Option.some.inj e; omega)); have R_T_k3 := Lib.hid (R_T_k2.out.grown hg (by have zNb := ZNb.out; have zWs := ZWs.out; have zB1 := ZB1.out; have zB2 := ZB2.out; have zB3 := ZB3.out; have zB4 := ZB4.out; have zB5 := ZB5.out; have zB6 := ZB6.out; have zB7 := ZB7.out; have zGb := ZGb.out; have zk0 := Zk0.out; have zgW := ZgW.out; have zk1 := Zk1.out; intro e; have e := Option.some.inj e; omega)); have R_A_k3 := Lib.hid (R_A_k2.out.grown hg (by have zNb := ZNb.out; have zWs := ZWs.out; have zB1 := ZB1.out; have zB2 := ZB2.out; have zB3 := ZB3.out; have zB4 := ZB4.out; have zB5 := ZB5.out; have zB6 := ZB6.out; have zB7 := ZB7.out; have zGb := ZGb.out; have zk0 := Zk0.out; have zgW := ZgW.out; have zk1 := Zk1.out; intro e; have e := Option.some.inj e; omega)); have R_S_k3 := Lib.hid (R_S_k2.out.grown hg (by have zNb := ZNb.out; have zWs := ZWs.out; have zB1 := ZB1.out; have zB2 := ZB2.out; have zB3 := ZB3.out; have zB4 := ZB4.out; have zB5 := ZB5.out; have zB6 := ZB6.out; have zB7 := ZB7.out; have zGb := ZGb.out; have zk0 := Zk0.out; have zgW := ZgW.out; have zk1 := Zk1.out; intro e; have e := Option.some.inj e; omega)); have R_C_k3 := Lib.hid (R_C_k2.out.grown hg (by have zNb := ZNb.out; have zWs := ZWs.out; have zB1 := ZB1.out; have zB2 := ZB2.out; have zB3 := ZB3.out; have zB4 := ZB4.out; have zB5 := ZB5.out; have zB6 := ZB6.out; have zB7 := ZB7.out; have zGb := ZGb.out; have zk0 := Zk0.out; have zgW := ZgW.out; have zk1 := Zk1.out; intro e; have e := Option.some.inj e; omega)); have R_P_k3 := Lib.hid (R_P_k2.out.grown hg (by have zNb := ZNb.out; have zWs := ZWs.out; have zB1 := ZB1.out; have zB2 := ZB2.out; have zB3 := ZB3.out; have zB4 := ZB4.out; have zB5 := ZB5.out; have zB6 := ZB6.out; have zB7 := ZB7.out; have zGb := ZGb.out; have zk0 := Zk0.out; have zgW := ZgW.out; have zk1 := Zk1.out; intro e; have e := Option.some.inj e; omega)); have R_X_k3 := Lib.hid hp; have O_p_k3 := Lib.hid (O_p_k2.out.aside hg R_X_k2.out (by decide)); have O_c_k3 := Lib.hid (own_far O_c_k2.out hg HA3n.out); have O_b_k3 := Lib.hid (O_b_k2.out.aside hg R_X_k2.out (by decide)); have G_k3 := Lib.hid (show Grows w _ from (G_k2.out).grown hg (G_k2.out).size (by have zNb := ZNb.out; have zWs := ZWs.out; have zB1 := ZB1.out; have zB2 := ZB2.out; have zB3 := ZB3.out; have zB4 := ZB4.out; have zB5 := ZB5.out; have zB6 := ZB6.out; have zB7 := ZB7.out; have zGb := ZGb.out; have zk0 := Zk0.out; have zgW := ZgW.out; have zk1 := Zk1.out; intro k e; have e := Option.some.inj e; omega)); have KO_k3 := Lib.hid ((KO_k2.out).trans (others_of_row hg R_X_k2.out)); have c_T_0 : _ = some _ := (R_T_k3.out.cell 0); have c_S_0 : _ = some _ := (R_S_k3.out.cell 0); have c_X_0 : _ = some _ := (R_X_k3.out.cell 0).trans (wr_cell0 (q : Int) (PackM.halves old xp)); clear hp hg)
        | ((with_reducible refine wpListIn_load_pg (WideF.round _) ?_ (.tmp 52) ?_ Bx 1 (PackM.halves old xp) ?_ ?_ ?_ ?_); exact rfl; exact rfl; exact rfl; exact hnl.out; exact (wr_page_at R_X_k3.out))
        | ((with_reducible refine wpListIn_store_pgown (WideF.round _) ?_ (.tmp 54) (.tmp 53) ?_ G q (PackM.halves old xp) ps w.heap.size c2 ?_ ?_ HPL.out hqn ?_ ?_ ?_); exact rfl; exact rfl; exact rfl; exact rfl; exact hnl.out; exact O_p_k3.out; intro ku3 ho hg; have R_D_k4 := Lib.hid (row_other O_p_k3.out R_D_k3.out (by decide) hg); have R_R_k4 := Lib.hid (row_other O_p_k3.out R_R_k3.out (by decide) hg); have R_T_k4 := Lib.hid (row_other O_p_k3.out R_T_k3.out (by decide) hg); have R_A_k4 := Lib.hid (row_other O_p_k3.out R_A_k3.out (by decide) hg); have R_S_k4 := Lib.hid (row_other O_p_k3.out R_S_k3.out (by decide) hg); have R_C_k4 := Lib.hid (row_other O_p_k3.out R_C_k3.out (by decide) hg); have R_P_k4 := Lib.hid (row_other O_p_k3.out R_P_k3.out (by decide) hg); have R_X_k4 := Lib.hid (row_other O_p_k3.out R_X_k3.out (by decide) hg); have O_p_k4 := Lib.hid ho; have O_c_k4 := Lib.hid (own_other O_c_k3.out O_p_k3.out (by decide) hg); have O_b_k4 := Lib.hid (own_other O_b_k3.out O_p_k3.out (by decide) hg); have G_k4 := Lib.hid (show Grows w _ from (G_k3.out).grown hg (G_k3.out).size (fun k e => own_low O_p_k3.out k e)); have KO_k4 := Lib.hid ((KO_k3.out).trans (others_of_own hg O_p_k3.out)); have c_T_0 : _ = some _ := (R_T_k4.out.cell 0); have c_S_0 : _ = some _ := (R_S_k4.out.cell 0); have c_X_0 : _ = some _ := (R_X_k4.out.cell 0).trans (wr_cell0 (q : Int) (PackM.halves old xp)); have Zk2 := Lib.hid (hg.size); clear ho hg)
        | ((with_reducible refine wpListIn_store_c (WideF.round _) ?_ 4 (.tmp 58) (.const (.bool true)) ?_ aG q (.bool true) (boolsA on1) 4 ?_ ?_ ?_ ?_ ?_ ?_ ?_); exact rfl; exact rfl; exact rfl; exact rfl; exact rfl; exact one_off; exact R_A_k4.out; exact HQA.out; intro ku4 hp hg; rw [boolsA_set] at hp; have Zk3 := Lib.hid (hg.size); have R_D_k5 := Lib.hid (R_D_k4.out.grown hg (by have zNb := ZNb.out; have zWs := ZWs.out; have zB1 := ZB1.out; have zB2 := ZB2.out; have zB3 := ZB3.out; have zB4 := ZB4.out; have zB5 := ZB5.out; have zB6 := ZB6.out; have zB7 := ZB7.out; have zGb := ZGb.out; have zk0 := Zk0.out; have zgW := ZgW.out; have zk1 := Zk1.out; have zk2 := Zk2.out; have zk3 := Zk3.out; intro e; have e := Option.some.inj e; omega)); have R_R_k5 := Lib.hid (R_R_k4.out.grown hg (by have zNb := ZNb.out; have zWs := ZWs.out; have zB1 := ZB1.out; have zB2 := ZB2.out; have zB3 := ZB3.out; have zB4 := ZB4.out; have zB5 := ZB5.out; have zB6 := ZB6.out; have zB7 := ZB7.out; have zGb := ZGb.out; have zk0 := Zk0.out; have zgW := ZgW.out; have zk1 := Zk1.out; have zk2 := Zk2.out; have zk3 := Zk3.out; intro e; have e := Option.some.inj e; omega)); have R_T_k5 := Lib.hid (R_T_k4.out.grown hg (by have zNb := ZNb.out; have zWs := ZWs.out; have zB1 := ZB1.out; have zB2 := ZB2.out; have zB3 := ZB3.out; have zB4 := ZB4.out; have zB5 := ZB5.out; have zB6 := ZB6.out; have zB7 := ZB7.out; have zGb := ZGb.out; have zk0 := Zk0.out; have zgW := ZgW.out; have zk1 := Zk1.out; have zk2 := Zk2.out; have zk3 := Zk3.out; intro e; have e := Option.some.inj e; omega)); have R_A_k5 := Lib.hid hp; have R_S_k5 := Lib.hid (R_S_k4.out.grown hg (by have zNb := ZNb.out; have zWs := ZWs.out; have zB1 := ZB1.out; have zB2 := ZB2.out; have zB3 := ZB3.out; have zB4 := ZB4.out; have zB5 := ZB5.out; have zB6 := ZB6.out; have zB7 := ZB7.out; have zGb := ZGb.out; have zk0 := Zk0.out; have zgW := ZgW.out; have zk1 := Zk1.out; have zk2 := Zk2.out; have zk3 := Zk3.out; intro e; have e := Option.some.inj e; omega)); have R_C_k5 := Lib.hid (R_C_k4.out.grown hg (by have zNb := ZNb.out; have zWs := ZWs.out; have zB1 := ZB1.out; have zB2 := ZB2.out; have zB3 := ZB3.out; have zB4 := ZB4.out; have zB5 := ZB5.out; have zB6 := ZB6.out; have zB7 := ZB7.out; have zGb := ZGb.out; have zk0 := Zk0.out; have zgW := ZgW.out; have zk1 := Zk1.out; have zk2 := Zk2.out; have zk3 := Zk3.out; intro e; have e := Option.some.inj e; omega)); have R_P_k5 := Lib.hid (R_P_k4.out.grown hg (by have zNb := ZNb.out; have zWs := ZWs.out; have zB1 := ZB1.out; have zB2 := ZB2.out; have zB3 := ZB3.out; have zB4 := ZB4.out; have zB5 := ZB5.out; have zB6 := ZB6.out; have zB7 := ZB7.out; have zGb := ZGb.out; have zk0 := Zk0.out; have zgW := ZgW.out; have zk1 := Zk1.out; have zk2 := Zk2.out; have zk3 := Zk3.out; intro e; have e := Option.some.inj e; omega)); have O_p_k5 := Lib.hid (O_p_k4.out.aside hg R_A_k4.out (by decide)); have O_c_k5 := Lib.hid (O_c_k4.out.aside hg R_A_k4.out (by decide)); have O_b_k5 := Lib.hid (O_b_k4.out.aside hg R_A_k4.out (by decide)); have G_k5 := Lib.hid (show Grows w _ from (G_k4.out).grown hg (G_k4.out).size (by have zNb := ZNb.out; have zWs := ZWs.out; have zB1 := ZB1.out; have zB2 := ZB2.out; have zB3 := ZB3.out; have zB4 := ZB4.out; have zB5 := ZB5.out; have zB6 := ZB6.out; have zB7 := ZB7.out; have zGb := ZGb.out; have zk0 := Zk0.out; have zgW := ZgW.out; have zk1 := Zk1.out; have zk2 := Zk2.out; have zk3 := Zk3.out; intro k e; have e := Option.some.inj e; omega)); have KO_k5 := Lib.hid ((KO_k4.out).trans (others_of_row hg R_A_k4.out)); clear hp hg))
      exact ⟨KO_k5.out.from _, ⟨Below.of_both I11.out G_k5.out (by have zNb := ZNb.out; have zWs := ZWs.out; have zB1 := ZB1.out; have zB2 := ZB2.out; have zB3 := ZB3.out; have zB4 := ZB4.out; have zB5 := ZB5.out; have zB6 := ZB6.out; have zB7 := ZB7.out; have zGb := ZGb.out; have zk0 := Zk0.out; have zgW := ZgW.out; have zk1 := Zk1.out; have zk2 := Zk2.out; have zk3 := Zk3.out; omega), KeptAt.rows I7.out R_C_k5.out, KeptAt.rows I8.out R_P_k5.out⟩, by rw [HPS.out]; exact O_p_k5.out, O_c_k5.out, O_b_k5.out, R_T_k5.out, by rw [HA1.out]; exact R_A_k5.out, R_S_k5.out, R_C_k5.out, R_P_k5.out, R_D_k5.out, R_R_k5.out, G_k5.out, Nat.le_trans I12.out (by have zNb := ZNb.out; have zWs := ZWs.out; have zB1 := ZB1.out; have zB2 := ZB2.out; have zB3 := ZB3.out; have zB4 := ZB4.out; have zB5 := ZB5.out; have zB6 := ZB6.out; have zB7 := ZB7.out; have zGb := ZGb.out; have zk0 := Zk0.out; have zgW := ZgW.out; have zk1 := Zk1.out; have zk2 := Zk2.out; have zk3 := Zk3.out; omega)⟩
  case done =>
    rintro D0 ys W hD rfl hI hK
    obtain ⟨i1, i2, i3, i4, i5, i6, i7, i8, i9, i10, i11, i12⟩ := hI
    refine aK.out _ _ ?_
    clear aK
    rw [← HCP.out] at i1
    have a2 : _ = some _ := (i9.cell 2).trans Ds.out.2.2.2.1
    have HDD := Lib.hid hD
    gi_wp2
    gi_loopw [62] (fun i wr => ∃ (k : Nat) (bw : Value), k ≤ d.bad.length ∧ i = .int .i64 k ∧ Own' 3 1 intE w.heap.size wr bw ((d.bad.take k).filter fun b => !FlM.hit picks d.cache d.pages.length (List.finRange d.cache.length) b) ∧ Row wr tb 26 #[.slice A2 d.pages.length c2, .slice A3 0 c3, bw, .bool d.off] ∧ Own' 40 256 pageE w.heap.size wr (.slice A2 d.pages.length c2) CP ∧ Own' 42 257 writeE w.heap.size wr (.slice A3 0 c3) [] ∧ Row wr aG 4 (boolsA (FlM.onA picks d.cache d.pages.length (List.finRange d.cache.length))) ∧ Row wr ab 38 #[.slice (some ⟨aG, 0, none⟩) d.pages.length d.pages.length] ∧ Row wr w.heap.size 26 D ∧ Row wr (w.heap.size + 1) 26 #[.slice none 0 0, .slice none 0 0, .slice none 0 0, .bool false] ∧ wr.heap[D0]? = some (.deferred (some [])) ∧ Grows w wr) (fun i _ => d.bad.length - (intOf i).toNat)
    case atStart => exact ⟨0, _, Nat.zero_le _, rfl, i3, i4, i1, i2, i5, i6, i9, i10, hK, i11⟩
    case round =>
      obtain ⟨k, bw, hk, rfl, j1, j2, j3, j4, j5, j6, j7, j8, j9, j10⟩ := hrel
      have J1 := Lib.hid j1; have J2 := Lib.hid j2; have J3 := Lib.hid j3; have J4 := Lib.hid j4; have J5 := Lib.hid j5; have J6 := Lib.hid j6; have J7 := Lib.hid j7; have J8 := Lib.hid j8; have J9 := Lib.hid j9; have J10 := Lib.hid j10
      have ZWs : Hid (w.heap.size + 2 ≤ tb ∧ tb < aG ∧ aG < ab) := ZT.out
      clear j1 j2 j3 j4 j5 j6 j7 j8 j9 j10 i1 i2 i3 i4 i5 i6 i7 i8 i9 i10 i11 i12 hK hD a2
      by_cases hlt : k < d.bad.length
      · obtain ⟨gb, ob, rfl, hgb, hcA⟩ := HBf.out (by omega)
        have e1 : d.bad[k]? = some d.bad[k] := List.getElem?_eq_getElem hlt
        have cx := (Below.cell J10.out (p := ⟨gb, ob + k, none⟩) hgb).trans (hcA k _ e1)
        have hki : (k : Int) < d.bad.length := by omega
        have HFT := Lib.hid (FlM.filter_step (fun b => !FlM.hit picks d.cache d.pages.length (List.finRange d.cache.length) b) d.bad k _ e1)
        have HOff := Lib.hid (FlM.hit_off picks d.cache d.pages.length (List.finRange d.cache.length) d.bad[k])
        have HOnA := Lib.hid (fun q hq => FlM.onA_get picks d.cache d.pages.length (List.finRange d.cache.length) q hq)
        have HLN := Lib.hid (show ((d.bad.take k).filter fun b => !FlM.hit picks d.cache d.pages.length (List.finRange d.cache.length) b).length ≤ 900000 from Nat.le_trans (List.length_filter_le _ _) (by rw [List.length_take]; have := L3.out; omega))
        have HAS := Lib.hid (fun n W (h : IsDisk (World.heap W).size W (.agg D) d) => flhas_any _ d n W h)
        have HOn : Hid (∀ n : Int, FlM.onDk d n = (decide (0 ≤ n) && decide (n < d.pages.length))) := fun n => rfl
        clear e1 hcA
        generalize d.bad[k] = x at *
        obtain ⟨L, hL⟩ : ∃ L, L = (d.bad.take k).filter fun b => !FlM.hit picks d.cache d.pages.length (List.finRange d.cache.length) b := ⟨_, rfl⟩
        rw [← hL] at J1 HFT HLN
        clear hL
        by_cases hon : FlM.onDk d x = true
        case neg =>
          have HH := Lib.hid (HAS.out x)
          rw [Bool.eq_false_iff.2 hon] at HH
          have hh : FlM.hit picks d.cache d.pages.length (List.finRange d.cache.length) x = false := HOff.out (by
            rw [HOn.out] at hon
            simp only [Bool.and_eq_true, decide_eq_true_eq] at hon
            exact hon)
          rw [hh, Bool.not_false, if_pos rfl] at HFT
          clear hh HOff HOnA hon
          gi_wp2_with (first
            | ((with_reducible refine wpListIn_load_dk ?_ (.tmp 2) ?_ w.heap.size D ?_ ?_ ?_ ?_); exact rfl; exact rfl; exact rfl; exact J7.out; exact Ds.out.1)
            | (refine ⟨trivial, ?_⟩; gi_at_call 26; (with_reducible refine (callsIn_wide.2 (HH.out _ (HV.out.grows J10.out))).mono ?_); rintro e ku1 ⟨rfl, g⟩; have Zk0 := Lib.hid (Below.size g); have R_D_k1 := Lib.hid (Row.grows J7.out g); have R_R_k1 := Lib.hid (Row.grows J8.out g); have R_T_k1 := Lib.hid (Row.grows J2.out g); have R_A_k1 := Lib.hid (Row.grows J5.out g); have R_S_k1 := Lib.hid (Row.grows J6.out g); have O_p_k1 := Lib.hid (J3.out.grows g); have O_c_k1 := Lib.hid (J4.out.grows g); have O_b_k1 := Lib.hid (J1.out.grows g); have G_k1 := Lib.hid ((J10.out).trans g); have c_T_2 : _ = some _ := (R_T_k1.out.cell 2); have MK1 : Hid (ku1.heap[D0]? = some (.deferred (some []))) := (g.block D0 (Array.getElem?_eq_some_iff.1 J9.out).1).trans J9.out; clear g)
            | ((with_reducible refine wpListIn_append_els elT_int intE_one WideF.wide ?_ (.tmp 78) (.tmp 80) ?_ w.heap.size (World.heap (ku1)).size.succ L [x] ?_ ?_ ?_ ?_ ?_ ?_); exact rfl; exact rfl; exact O_b_k1.out.grows (Grows.alloc _ _); exact ints_of_one _ x; have := HLN.out; (try simp at this); simp; unfold maxLen; omega; have := HLN.out; (try simp at this); simp; omega; have := (G_k1.out).size; simp; omega; intro v5 ku2 ho hg _; have MK2 : Hid (ku2.heap[D0]? = some (.deferred (some []))) := (hg.block D0 (by have := (Array.getElem?_eq_some_iff.1 MK1.out).1; simp; omega) (own_mark_ne O_b_k1.out MK1.out)).trans ((Below.heap_alloc ku1 _ D0 (Array.getElem?_eq_some_iff.1 MK1.out).1).trans MK1.out); obtain ⟨A5, c5, rfl, _⟩ := ho.els.form; generalize (L ++ [x]).length = m5 at *; have g := Grows.alloc (ku1) (.cells #[.int .i64 x] 3); have R_D_k2 := Lib.hid (Row.grows R_D_k1.out g); have R_R_k2 := Lib.hid (Row.grows R_R_k1.out g); have R_T_k2 := Lib.hid (Row.grows R_T_k1.out g); have R_A_k2 := Lib.hid (Row.grows R_A_k1.out g); have R_S_k2 := Lib.hid (Row.grows R_S_k1.out g); have O_p_k2 := Lib.hid (O_p_k1.out.grows g); have O_c_k2 := Lib.hid (O_c_k1.out.grows g); have O_b_k2 := Lib.hid (O_b_k1.out.grows g); have G_k2 := Lib.hid ((G_k1.out).trans g); have R_D_k3 := Lib.hid (row_other O_b_k2.out R_D_k2.out (by decide) hg); have R_R_k3 := Lib.hid (row_other O_b_k2.out R_R_k2.out (by decide) hg); have R_T_k3 := Lib.hid (row_other O_b_k2.out R_T_k2.out (by decide) hg); have R_A_k3 := Lib.hid (row_other O_b_k2.out R_A_k2.out (by decide) hg); have R_S_k3 := Lib.hid (row_other O_b_k2.out R_S_k2.out (by decide) hg); have O_p_k3 := Lib.hid (own_other O_p_k2.out O_b_k2.out (by decide) hg); have O_c_k3 := Lib.hid (own_other O_c_k2.out O_b_k2.out (by decide) hg); have O_b_k3 := Lib.hid ho; have G_k3 := Lib.hid (show Grows w _ from (G_k2.out).grown hg (G_k2.out).size (fun k e => own_low O_b_k2.out k e)); have c_T_2 : _ = some _ := (R_T_k3.out.cell 2); clear g ho hg)
            | ((with_reducible refine wpListIn_store_c WideF.wide ?_ 24 (.tmp 82) (.tmp 81) ?_ tb 2 (.slice A5 m5 c5) #[.slice A2 d.pages.length c2, .slice A3 0 c3, bw, .bool d.off] 26 ?_ ?_ ?_ ?_ ?_ ?_ ?_); exact rfl; exact rfl; exact rfl; exact rfl; exact rfl; exact one_bad; exact R_T_k3.out; exact (by simp); intro ku3 hp hg; have R_D_k4 := Lib.hid (R_D_k3.out.grown hg (by have zWs := ZWs.out; have zk0 := Zk0.out; intro e; have e := Option.some.inj e; omega)); have R_R_k4 := Lib.hid (R_R_k3.out.grown hg (by have zWs := ZWs.out; have zk0 := Zk0.out; intro e; have e := Option.some.inj e; omega)); have R_T_k4 := Lib.hid hp; have R_A_k4 := Lib.hid (R_A_k3.out.grown hg (by have zWs := ZWs.out; have zk0 := Zk0.out; intro e; have e := Option.some.inj e; omega)); have R_S_k4 := Lib.hid (R_S_k3.out.grown hg (by have zWs := ZWs.out; have zk0 := Zk0.out; intro e; have e := Option.some.inj e; omega)); have O_p_k4 := Lib.hid (O_p_k3.out.aside hg R_T_k3.out (by decide)); have O_c_k4 := Lib.hid (O_c_k3.out.aside hg R_T_k3.out (by decide)); have O_b_k4 := Lib.hid (O_b_k3.out.aside hg R_T_k3.out (by decide)); have G_k4 := Lib.hid (show Grows w _ from (G_k3.out).grown hg (G_k3.out).size (by have zWs := ZWs.out; have zk0 := Zk0.out; intro k e; have e := Option.some.inj e; omega)); have MK3 : Hid (ku3.heap[D0]? = some (.deferred (some []))) := (hg.block D0 (Array.getElem?_eq_some_iff.1 MK2.out).1 (by intro e; have e := Option.some.inj e; have := HDD.out; have := HS7.out; have zWs := ZWs.out; omega)).trans MK2.out; clear hp hg))
          go_roundw
          case rel => exact ⟨k + 1, _, by omega, by go_num, by rw [HFT.out]; exact O_b_k4.out, R_T_k4.out, O_p_k4.out, O_c_k4.out, R_A_k4.out, R_S_k4.out, R_D_k4.out, R_R_k4.out, MK3.out, G_k4.out⟩
          case measure => simp [intOf]; omega
        have HH := Lib.hid (HAS.out x)
        rw [hon] at HH
        rw [HOn.out] at hon
        simp only [Bool.and_eq_true, decide_eq_true_eq] at hon
        obtain ⟨q, rfl⟩ : ∃ q : Nat, x = q := ⟨x.toNat, by omega⟩
        have hqn : q < d.pages.length := by omega
        have hqi : (q : Int) < d.pages.length := by omega
        have HOA := Lib.hid (boolsA_get _ q _ (HOnA.out q hqn))
        obtain ⟨t, ht⟩ : ∃ t : Bool, t = FlM.hit picks d.cache d.pages.length (List.finRange d.cache.length) q := ⟨_, rfl⟩
        rw [← ht] at HOA HFT
        clear ht HOff HOnA hon
        cases t
        · rw [Bool.not_false, if_pos rfl] at HFT
          gi_wp2_with (first
            | ((with_reducible refine wpListIn_load_dk ?_ (.tmp 2) ?_ w.heap.size D ?_ ?_ ?_ ?_); exact rfl; exact rfl; exact rfl; exact J7.out; exact Ds.out.1)
            | (refine ⟨trivial, ?_⟩; gi_at_call 26; (with_reducible refine (callsIn_wide.2 (HH.out _ (HV.out.grows J10.out))).mono ?_); rintro e ku1 ⟨rfl, g⟩; have Zk0 := Lib.hid (Below.size g); have R_D_k1 := Lib.hid (Row.grows J7.out g); have R_R_k1 := Lib.hid (Row.grows J8.out g); have R_T_k1 := Lib.hid (Row.grows J2.out g); have R_A_k1 := Lib.hid (Row.grows J5.out g); have R_S_k1 := Lib.hid (Row.grows J6.out g); have O_p_k1 := Lib.hid (J3.out.grows g); have O_c_k1 := Lib.hid (J4.out.grows g); have O_b_k1 := Lib.hid (J1.out.grows g); have G_k1 := Lib.hid ((J10.out).trans g); have c_S_0 : _ = some _ := (R_S_k1.out.cell 0); have c_T_2 : _ = some _ := (R_T_k1.out.cell 2); have MK1 : Hid (ku1.heap[D0]? = some (.deferred (some []))) := (g.block D0 (Array.getElem?_eq_some_iff.1 J9.out).1).trans J9.out; have c_A_q : _ = some _ := (R_A_k1.out.cell q).trans HOA.out)
            | ((with_reducible refine wpListIn_append_els elT_int intE_one WideF.wide ?_ (.tmp 78) (.tmp 80) ?_ w.heap.size (World.heap (ku1)).size.succ L [(q : Int)] ?_ ?_ ?_ ?_ ?_ ?_); exact rfl; exact rfl; exact O_b_k1.out.grows (Grows.alloc _ _); exact ints_of_one _ (q : Int); have := HLN.out; (try simp at this); simp; unfold maxLen; omega; have := HLN.out; (try simp at this); simp; omega; have := (G_k1.out).size; simp; omega; intro v5 ku2 ho hg _; have MK2 : Hid (ku2.heap[D0]? = some (.deferred (some []))) := (hg.block D0 (by have := (Array.getElem?_eq_some_iff.1 MK1.out).1; simp; omega) (own_mark_ne O_b_k1.out MK1.out)).trans ((Below.heap_alloc ku1 _ D0 (Array.getElem?_eq_some_iff.1 MK1.out).1).trans MK1.out); obtain ⟨A5, c5, rfl, _⟩ := ho.els.form; generalize (L ++ [(q : Int)]).length = m5 at *; have g := Grows.alloc (ku1) (.cells #[.int .i64 (q : Int)] 3); have R_D_k2 := Lib.hid (Row.grows R_D_k1.out g); have R_R_k2 := Lib.hid (Row.grows R_R_k1.out g); have R_T_k2 := Lib.hid (Row.grows R_T_k1.out g); have R_A_k2 := Lib.hid (Row.grows R_A_k1.out g); have R_S_k2 := Lib.hid (Row.grows R_S_k1.out g); have O_p_k2 := Lib.hid (O_p_k1.out.grows g); have O_c_k2 := Lib.hid (O_c_k1.out.grows g); have O_b_k2 := Lib.hid (O_b_k1.out.grows g); have G_k2 := Lib.hid ((G_k1.out).trans g); have R_D_k3 := Lib.hid (row_other O_b_k2.out R_D_k2.out (by decide) hg); have R_R_k3 := Lib.hid (row_other O_b_k2.out R_R_k2.out (by decide) hg); have R_T_k3 := Lib.hid (row_other O_b_k2.out R_T_k2.out (by decide) hg); have R_A_k3 := Lib.hid (row_other O_b_k2.out R_A_k2.out (by decide) hg); have R_S_k3 := Lib.hid (row_other O_b_k2.out R_S_k2.out (by decide) hg); have O_p_k3 := Lib.hid (own_other O_p_k2.out O_b_k2.out (by decide) hg); have O_c_k3 := Lib.hid (own_other O_c_k2.out O_b_k2.out (by decide) hg); have O_b_k3 := Lib.hid ho; have G_k3 := Lib.hid (show Grows w _ from (G_k2.out).grown hg (G_k2.out).size (fun k e => own_low O_b_k2.out k e)); have c_S_0 : _ = some _ := (R_S_k3.out.cell 0); have c_T_2 : _ = some _ := (R_T_k3.out.cell 2); clear g ho hg)
            | ((with_reducible refine wpListIn_store_c WideF.wide ?_ 24 (.tmp 82) (.tmp 81) ?_ tb 2 (.slice A5 m5 c5) #[.slice A2 d.pages.length c2, .slice A3 0 c3, bw, .bool d.off] 26 ?_ ?_ ?_ ?_ ?_ ?_ ?_); exact rfl; exact rfl; exact rfl; exact rfl; exact rfl; exact one_bad; exact R_T_k3.out; exact (by simp); intro ku3 hp hg; have R_D_k4 := Lib.hid (R_D_k3.out.grown hg (by have zWs := ZWs.out; have zk0 := Zk0.out; intro e; have e := Option.some.inj e; omega)); have R_R_k4 := Lib.hid (R_R_k3.out.grown hg (by have zWs := ZWs.out; have zk0 := Zk0.out; intro e; have e := Option.some.inj e; omega)); have R_T_k4 := Lib.hid hp; have R_A_k4 := Lib.hid (R_A_k3.out.grown hg (by have zWs := ZWs.out; have zk0 := Zk0.out; intro e; have e := Option.some.inj e; omega)); have R_S_k4 := Lib.hid (R_S_k3.out.grown hg (by have zWs := ZWs.out; have zk0 := Zk0.out; intro e; have e := Option.some.inj e; omega)); have O_p_k4 := Lib.hid (O_p_k3.out.aside hg R_T_k3.out (by decide)); have O_c_k4 := Lib.hid (O_c_k3.out.aside hg R_T_k3.out (by decide)); have O_b_k4 := Lib.hid (O_b_k3.out.aside hg R_T_k3.out (by decide)); have G_k4 := Lib.hid (show Grows w _ from (G_k3.out).grown hg (G_k3.out).size (by have zWs := ZWs.out; have zk0 := Zk0.out; intro k e; have e := Option.some.inj e; omega)); have MK3 : Hid (ku3.heap[D0]? = some (.deferred (some []))) := (hg.block D0 (Array.getElem?_eq_some_iff.1 MK2.out).1 (by intro e; have e := Option.some.inj e; have := HDD.out; have := HS7.out; have zWs := ZWs.out; omega)).trans MK2.out; clear hp hg))
          go_roundw
          case rel => exact ⟨k + 1, _, by omega, by go_num, by rw [HFT.out]; exact O_b_k4.out, R_T_k4.out, O_p_k4.out, O_c_k4.out, R_A_k4.out, R_S_k4.out, R_D_k4.out, R_R_k4.out, MK3.out, G_k4.out⟩
          case measure => simp [intOf]; omega
        · rw [Bool.not_true, if_neg (by decide), List.append_nil] at HFT
          gi_wp2_with (first
            | ((with_reducible refine wpListIn_load_dk ?_ (.tmp 2) ?_ w.heap.size D ?_ ?_ ?_ ?_); exact rfl; exact rfl; exact rfl; exact J7.out; exact Ds.out.1)
            | (refine ⟨trivial, ?_⟩; gi_at_call 26; (with_reducible refine (callsIn_wide.2 (HH.out _ (HV.out.grows J10.out))).mono ?_); rintro e ku1 ⟨rfl, g⟩; have Zk0 := Lib.hid (Below.size g); have R_D_k1 := Lib.hid (Row.grows J7.out g); have R_R_k1 := Lib.hid (Row.grows J8.out g); have R_T_k1 := Lib.hid (Row.grows J2.out g); have R_A_k1 := Lib.hid (Row.grows J5.out g); have R_S_k1 := Lib.hid (Row.grows J6.out g); have O_p_k1 := Lib.hid (J3.out.grows g); have O_c_k1 := Lib.hid (J4.out.grows g); have O_b_k1 := Lib.hid (J1.out.grows g); have G_k1 := Lib.hid ((J10.out).trans g); have c_S_0 : _ = some _ := (R_S_k1.out.cell 0); have MK1 : Hid (ku1.heap[D0]? = some (.deferred (some []))) := (g.block D0 (Array.getElem?_eq_some_iff.1 J9.out).1).trans J9.out; clear g; have c_A_q : _ = some _ := (R_A_k1.out.cell q).trans HOA.out))
          go_roundw
          case rel => exact ⟨k + 1, bw, by omega, by go_num, by rw [HFT.out]; exact O_b_k1.out, R_T_k1.out, O_p_k1.out, O_c_k1.out, R_A_k1.out, R_S_k1.out, R_D_k1.out, R_R_k1.out, MK1.out, G_k1.out⟩
          case measure => simp [intOf]; omega
      · obtain rfl : k = d.bad.length := by omega
        have HFin : Own' 3 1 intE w.heap.size wr bw CB := by have := J1.out; rw [List.take_length] at this; rw [HCB.out]; exact this
        have HFin := Lib.hid HFin
        obtain ⟨A6, c6, rfl, e6, e7, _⟩ := HFin.out.els.form
        unfold maxLen at e7
        clear J1 HBf
        gi_wp2_with (first
          | ((with_reducible refine wpListIn_load_dk ?_ (.tmp 5) ?_ tb #[.slice A2 d.pages.length c2, .slice A3 0 c3, .slice A6 CB.length c6, .bool d.off] ?_ ?_ ?_ ?_); exact rfl; exact rfl; exact rfl; exact J2.out; exact rfl)
          | ((with_reducible refine wpListIn_store_dk WideF.wide ?_ (.tmp 4) (.tmp 84) ?_ (w.heap.size + 1) #[.slice A2 d.pages.length c2, .slice A3 0 c3, .slice A6 CB.length c6, .bool d.off] #[.slice none 0 0, .slice none 0 0, .slice none 0 0, .bool false] ?_ ?_ ?_ ?_ ?_ ?_ ?_); exact rfl; exact rfl; exact rfl; exact rfl; exact rfl; exact rfl; exact (by simp [Value.oneCell']); exact J8.out; intro w6 hw6 hg6))
        have hK2 : w6.heap[D0]? = some (.deferred (some [])) := (hg6.block D0 (Array.getElem?_eq_some_iff.1 J9.out).1 (by intro e; have e := Option.some.inj e; have := HDD.out; have := HS7.out; have zWs := ZWs.out; omega)).trans J9.out
        have hBw : Grows w w6 := J10.out.grown hg6 J10.out.size (fun k e => by cases e; omega)
        refine ⟨by simp, .inl ⟨_, _, rfl, run_takeDeferred hK2, ?_⟩⟩
        refine ⟨_, results_dk (p := 4) (by exact rfl) _ (by exact rfl) (by exact rfl) (hw6.kept_put hK2 _), _, rfl, ⟨_, _, _, rfl, own_put (J3.out.aside hg6 J8.out (by decide)) hK2 _, own_put (J4.out.aside hg6 J8.out (by decide)) hK2 _, own_put (HFin.out.aside hg6 J8.out (by decide)) hK2 _⟩, ?_⟩
        exact Below.trans hBw (Grows.put_mark hBw hK2 (by have := HDD.out; have := HS7.out; have zWs := ZWs.out; omega))
theorem flcrash_any (v pv : Value) (d : Dk) (picks : List (BitVec 8)) (w : World) (hv : IsDisk w.heap.size w v d) (hpk : Bytes w.heap.size w pv picks) (l1 : d.pages.length ≤ 900000) (l2 : d.cache.length ≤ 900000) (l3 : d.bad.length ≤ 900000) (lp : picks.length ≤ 900000) :
    Calls Try.prog 14 #[v, pv] w fun e w' => ∃ r, e = .returned r ∧ OwnDisk w.heap.size w' r (FlM.crashD d picks) ∧ Grows w w' := callsIn_wide.1 (flcrash_in 4 (Nat.le_refl _) v pv d picks w hv hpk l1 l2 l3 lp)
end Go.Proofs.Ytiagmlokocpboaa
