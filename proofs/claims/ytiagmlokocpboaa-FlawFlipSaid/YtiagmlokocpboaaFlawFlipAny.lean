/- FlawFlipAny -/
import Derived.Test.YtiagmlokocpboaaFlBadM
import Derived.Test.YtiagmlokocpboaaFlOwn
import Derived.Test.YtiagmlokocpboaaVdRead
/- FlawFlip: flipped twice by the same a disk is as it was; a byte alone is another one. -/
namespace Go.Proofs.Ytiagmlokocpboaa
open Go.RowKit
set_option linter.unusedVariables false
set_option linter.unusedSimpArgs false
attribute [local go_sem] bits_xor_b
theorem one_u8 : (Try.prog.info? 5).map (·.size) = some 1 := by kernel_rfl
theorem pg_set (p : Pg) (j : Nat) (x : BitVec 8) : (pgA p).setIfInBounds j (.int .u8 (bI x)) = pgA (p.set j x) := by
  apply Array.ext'
  rw [Array.toList_setIfInBounds]
  unfold pgA pageE
  rw [List.map_set]
  rfl
theorem pg_cell (p : Pg) (j : Nat) (x : BitVec 8) (h : p[j]? = some x) : (pgA p)[j]? = some (.int .u8 (bI x)) := by
  unfold pgA pageE
  rw [List.getElem?_toArray, List.getElem?_map, h]
  rfl
theorem range_low {B : Nat} {w W : World} {b o : Nat} {cs : List Value} (g : Below B w W) (hb : b < B) (h : w.rangeAt b o cs) : W.rangeAt b o cs := fun j v hv => (Below.cell g (p := ⟨b, o + j, none⟩) hb).trans (h j v hv)
set_option maxRecDepth 100000 in
set_option maxHeartbeats 16000000 in
theorem flawFlip_any (v : Value) (d : Dk) (n o : Int) (b : BitVec 8) (w : World) (hv : IsDisk w.heap.size w v d) (bn1 : -9223372036854775808 ≤ n) (bn2 : n ≤ 9223372036854775807) (bo1 : -9223372036854775808 ≤ o) (bo2 : o ≤ 9223372036854775807) :
    Calls Try.prog 5 #[v, .int .i64 n, .int .i64 o, .int .u8 (bI b)] w fun e w' => e = .returned (.bool true) ∧ Below w.heap.size w w' := by
  have hzp := zero_pg
  have HV := Lib.hid hv
  obtain ⟨pv, cv, bv, rfl, hp, hc, hb⟩ := hv
  have HP := Lib.hid hp; have HC := Lib.hid hc; have HB := Lib.hid hb
  obtain ⟨AP, cP, rfl, p1, p2, p3⟩ := hp.form
  obtain ⟨AC, cC, rfl, q1, q2, q3⟩ := hc.form
  obtain ⟨AB, cB, rfl, b1, b2, b3⟩ := hb.ints
  have HPf := Lib.hid p3; have HCf := Lib.hid q3; have HBf := Lib.hid b3
  clear hp hc hb p3 q3 b3
  unfold maxLen at p2 q2 b2
  obtain ⟨D, hD⟩ : ∃ D, D = #[Value.slice AP d.pages.length cP, .slice AC d.cache.length cC, .slice AB d.bad.length cB, .bool d.off] := ⟨_, rfl⟩
  have Ds : Hid (D.size = 4 ∧ D[0]? = some (.slice AP d.pages.length cP) ∧ D[1]? = some (.slice AC d.cache.length cC) ∧ D[2]? = some (.slice AB d.bad.length cB) ∧ D[3]? = some (.bool d.off)) := by subst hD; exact ⟨rfl, rfl, rfl, rfl, rfl⟩
  have HDe := Lib.hid hD
  rw [← hD] at HV ⊢
  clear hD
  have R1 := Lib.hid (Row.new w 26 D)
  have HG := Lib.hid (Grows.alloc w (.cells D 26))
  have ZW0 : Hid ((w.alloc (.cells D 26)).heap.size = w.heap.size + 1) := by unfold Hid; simp
  have HGr := Lib.hid (fun W (h : IsDisk (World.heap W).size W (.agg D) d) => rgreat4_any _ d W h)
  by_cases hg : FlM.great d = true
  · rw [hg] at HGr
    clear hg
    go_enter Try.func5, Try.ntmps5
    go_wp2_with (first
      | ((with_reducible refine wpList_load_dk (o := ⟨some 22, _, _, _, _, _⟩) ?_ (.tmp 4) ?_ w.heap.size D ?_ ?_ ?_ ?_); exact rfl; exact rfl; exact rfl; exact R1.out; exact Ds.out.1)
      | (go_at_call 7; (with_reducible refine (HGr.out _ (HV.out.grows HG.out)).mono ?_); rintro e ku1 ⟨rfl, g⟩; have Zk0 := Lib.hid (Below.size g); have R_D_k1 := Lib.hid (Row.grows R1.out g); have G_k1 := Lib.hid ((HG.out).trans g); clear g)
      | (go_at_call 8; (with_reducible refine (wakes4_any _).mono ?_); rintro e ku2 ⟨rfl, g⟩; have Zk1 := Lib.hid (Below.size g); have R_D_k2 := Lib.hid (Row.grows R_D_k1.out g); have G_k2 := Lib.hid ((G_k1.out).trans g); clear g))
    go_ret
    exact ⟨rfl, G_k2.out⟩
  rw [Bool.eq_false_iff.2 hg] at HGr
  have hgp := FlM.great_not (Bool.eq_false_iff.2 hg)
  clear hg
  by_cases hz : d.pages.length = 0
  · have hzi : (d.pages.length : Int) = 0 := by omega
    clear hgp hz
    go_enter Try.func5, Try.ntmps5
    go_wp2_with (first
      | ((with_reducible refine wpList_load_dk (o := ⟨some 22, _, _, _, _, _⟩) ?_ (.tmp 4) ?_ w.heap.size D ?_ ?_ ?_ ?_); exact rfl; exact rfl; exact rfl; exact R1.out; exact Ds.out.1)
      | (go_at_call 7; (with_reducible refine (HGr.out _ (HV.out.grows HG.out)).mono ?_); rintro e ku1 ⟨rfl, g⟩; have Zk0 := Lib.hid (Below.size g); have R_D_k1 := Lib.hid (Row.grows R1.out g); have G_k1 := Lib.hid ((HG.out).trans g); have c_D_0 : _ = some _ := (R_D_k1.out.cell 0).trans Ds.out.2.1; clear g)
      | (go_at_call 8; (with_reducible refine (wakes4_any _).mono ?_); rintro e ku2 ⟨rfl, g⟩; have Zk1 := Lib.hid (Below.size g); have R_D_k2 := Lib.hid (Row.grows R_D_k1.out g); have G_k2 := Lib.hid ((G_k1.out).trans g); have c_D_0 : _ = some _ := (R_D_k2.out.cell 0).trans Ds.out.2.1; clear g))
    go_ret
    exact ⟨rfl, G_k2.out⟩
  have HLN : Hid (0 < d.pages.length ∧ d.pages.length ≤ 256) := ⟨by omega, hgp.2.1⟩
  have l1 : d.pages.length ≤ 1000000 := by omega
  have l2 : d.cache.length ≤ 1000000 := by omega
  have l3 : d.bad.length ≤ 1000000 := by omega
  have hnz : ¬ ((d.pages.length : Int) = 0) := by omega
  have HPNE : Hid (¬ d.pages = []) := fun e => hnz (by rw [e]; rfl)
  obtain ⟨⟨ta, tb⟩, k, hk, e2⟩ := into' n d.pages.length (by omega)
  have hw1 : IntKind.i64.wrap (n.tmod d.pages.length + d.pages.length) = n.tmod d.pages.length + d.pages.length := IntWalk.i64_in _ (by omega)
  have hw2 : (n.tmod d.pages.length + d.pages.length).tmod d.pages.length = k := by rw [Int.tmod_eq_emod_of_nonneg (by omega)]; exact e2
  have hw3 : n.tmod d.pages.length % (d.pages.length : Int) = k := by rw [← e2]; simp
  have hI := into' o 256 (by omega)
  have h256c : ((256 : Nat) : Int) = 256 := rfl
  rw [h256c] at hI
  obtain ⟨⟨oa, ob⟩, j, hj, f2⟩ := hI
  clear h256c
  have ho1 : IntKind.i64.wrap (o.tmod 256 + 256) = o.tmod 256 + 256 := IntWalk.i64_in _ (by omega)
  have ho2 : (o.tmod 256 + 256).tmod 256 = j := by rw [Int.tmod_eq_emod_of_nonneg (by omega)]; exact f2
  have ho3 : o.tmod 256 % 256 = j := by rw [← f2]; simp
  obtain ⟨pk, hpk⟩ : ∃ pk, d.pages[k]? = some pk := ⟨_, List.getElem?_eq_getElem hk⟩
  have hP1 := HP.out.1
  have hpl : pk.length = 256 := by
    have := hP1 _ (List.mem_of_getElem? hpk)
    simpa [pageE] using this
  obtain ⟨y, hy⟩ : ∃ y, pk[j]? = some y := ⟨_, List.getElem?_eq_getElem (by omega)⟩
  obtain ⟨gP, oP, rfl, hgP, hxP⟩ := HPf.out (by omega)
  obtain ⟨dA, hdA⟩ : ∃ dA, dA = FlM.flipD d k j b := ⟨_, rfl⟩
  obtain ⟨qk, hqk⟩ : ∃ qk, qk = FlM.flipP pk j b := ⟨_, rfl⟩
  have hql : qk.length = 256 := by rw [hqk, FlM.flipP_length]; exact hpl
  have hqs : pk.set j (y ^^^ b) = qk := by rw [hqk]; unfold FlM.flipP; rw [hy]; rfl
  have hA : dA = { d with pages := d.pages.set k qk } := by rw [hdA, hqk]; exact FlM.flipD_ok b hpk hj
  have hT : FlM.flipD dA k j b = d := by rw [hdA]; exact FlM.flip_twice b hpk hpl hj
  have hAl : dA.pages.length = d.pages.length := by rw [hA]; simp
  have hAc : dA.cache.length = d.cache.length := by rw [hA]
  have hAb : dA.bad.length = d.bad.length := by rw [hA]
  have hAk : dA.pages[k]? = some qk := by rw [hA]; exact List.getElem?_set_self hk
  have hAq : ∀ q : Nat, q ≠ k → dA.pages[q]? = d.pages[q]? := fun q hq => by rw [hA]; exact List.getElem?_set_ne (by omega)
  have F1 := Lib.hid (fun W (h : IsDisk (World.heap W).size W (.agg D) d) => flflip_any _ d k j b W h l1 l2 l3)
  rw [FlM.flipE_ok hk hj, ← hdA] at F1
  have F2 := Lib.hid (fun W (v : Value) (h : IsDisk (World.heap W).size W v dA) => flflip_any v dA k j b W h (by omega) (by omega) (by omega))
  rw [FlM.flipE_ok (by omega) hj, hT] at F2
  have F3 := Lib.hid (fun W (h : IsDisk (World.heap W).size W (.agg D) d) => flflip_any _ d d.pages.length 0 b W h l1 l2 l3)
  rw [FlM.flipE_wrong] at F3
  have F4 := Lib.hid (fun W (h : IsDisk (World.heap W).size W (.agg D) d) => flflip_any _ d k 256 b W h l1 l2 l3)
  rw [FlM.flipE_beside] at F4
  have F5 := Lib.hid (fun W (h : IsDisk (World.heap W).size W (.agg D) d) => flflip_any _ d (-1) 0 b W h l1 l2 l3)
  rw [FlM.flipE_below] at F5
  have O1 := Lib.hid (fun W (h : IsDisk (World.heap W).size W (.agg D) d) => rown4_any _ d W h l1 l2 l3)
  generalize FlM.flipD d d.pages.length 0 b = d3 at *
  generalize FlM.flipD d k 256 b = d4 at *
  generalize FlM.flipD d (-1) 0 b = d5 at *
  have HXP := Lib.hid hxP; have HPLk := Lib.hid hpl; have HQL := Lib.hid hql; have HAL := Lib.hid hAl; have HAK := Lib.hid hAk; have HAQ := Lib.hid hAq; have HPKe := Lib.hid hpk; have HYe := Lib.hid hy; have HQS := Lib.hid hqs; have HP1 := Lib.hid hP1
  have hki : (k : Int) < d.pages.length := by omega
  have hji : (j : Int) < 256 := by omega
  clear hxP hpl hql hAl hAk hAq hpk hy hqs hP1 hgp hz l1 l2 l3 e2 f2 hdA hqk hA hT hAc hAb
  go_enter Try.func5, Try.ntmps5
  go_wp2_with (first
    | ((with_reducible refine wpList_load_dk (o := ⟨some 22, _, _, _, _, _⟩) ?_ (.tmp 4) ?_ w.heap.size D ?_ ?_ ?_ ?_); exact rfl; exact rfl; exact rfl; exact R1.out; exact Ds.out.1)
    | (go_at_call 7; (with_reducible refine (HGr.out _ (HV.out.grows HG.out)).mono ?_); rintro e ku1 ⟨rfl, g⟩; have Zk0 := Lib.hid (Below.size g); have R_D_k1 := Lib.hid (Row.grows R1.out g); have G_k1 := Lib.hid ((HG.out).trans g); have c_D_0 : _ = some _ := (R_D_k1.out.cell 0).trans Ds.out.2.1; clear g))
  refine wp_region_free 13 177 (by kernel_rfl) (by kernel_rfl) rfl (by kernel_rfl) ?_; simp only [List.take_succ_cons, List.take_zero, List.drop_succ_cons, List.drop_zero]
  repeat (apply free_pure rfl; focus (intro vs w hg hd; have q0 := hg.cell c_D_0; (try simp [Region.binds] at hd); simp only [execOp, resolve, Option.map_some, Option.map_none, List.map_toArray, List.map_cons, List.map_nil, rho_const, rho_func]; (repeat (conv in rho _ _ _ _ (Operand.tmp _) => whnf)); (try simp only [hd]); go_simp; (repeat (conv in rho _ _ _ _ (Operand.tmp _) => whnf)); (try simp only [hd]); rfl))
  refine free_op (fun v_ _ => v_ = .int .i64 (n.tmod d.pages.length)) rfl (dk_mono _) (fun vs wq hg hd => by
    (try simp [Region.binds] at hd); simp only [Does]; simp only [execOp, resolve, Option.map_some, Option.map_none, List.map_toArray, List.map_cons, List.map_nil, rho_const, rho_func]; (repeat (conv in rho _ _ _ _ (Operand.tmp _) => whnf)); (try simp only [hd]); go_simp; (repeat (conv in rho _ _ _ _ (Operand.tmp _) => whnf))
    simp only [if_neg HPNE.out]
    exact ⟨Grows.refl _, by first | rfl | trivial⟩) ?_
  repeat (apply free_pure rfl; focus (intro vs w hg hd; have q0 := hg.cell c_D_0; (try simp [Region.binds] at hd); simp only [execOp, resolve, Option.map_some, Option.map_none, List.map_toArray, List.map_cons, List.map_nil, rho_const, rho_func]; (repeat (conv in rho _ _ _ _ (Operand.tmp _) => whnf)); (try simp only [hd]); go_simp; (repeat (conv in rho _ _ _ _ (Operand.tmp _) => whnf)); (try simp only [hd]); rfl))
  refine free_op (fun v_ _ => v_ = .int .i64 (k : Int)) rfl (dk_mono _) (fun vs wq hg hd => by
    (try simp [Region.binds] at hd); simp only [Does]; simp only [execOp, resolve, Option.map_some, Option.map_none, List.map_toArray, List.map_cons, List.map_nil, rho_const, rho_func]; (repeat (conv in rho _ _ _ _ (Operand.tmp _) => whnf)); (try simp only [hd]); go_simp; (repeat (conv in rho _ _ _ _ (Operand.tmp _) => whnf))
    simp only [if_neg HPNE.out]
    exact ⟨Grows.refl _, by first | rw [hw2] | simp [hw2] | simp [hw3]⟩) ?_
  intro vs w' hg hv; have h12 := hv 12 (by omega); simp at h12; simp only [putL, dstAt, List.range, List.range.loop, if_true, List.getElem?_toArray, List.getElem?_cons_zero, List.getElem?_cons_succ, Option.bind_some, Act.put, List.setIfInBounds_toArray, List.set_cons_zero, List.set_cons_succ]
  rw [h12]
  have hgW : Grows ku1 w' := Grows.of_drew hg
  have R_D_k2 := Lib.hid (Row.grows R_D_k1.out hgW)
  have G_k2 := Lib.hid ((G_k1.out).trans hgW)
  have Zk1 := Lib.hid (Below.size hgW)
  clear hv h12 hg c_D_0 ta tb hw1 hw2 hw3 hnz
  generalize vs 0 = z0, vs 1 = z1, vs 2 = z2, vs 3 = z3, vs 4 = z4, vs 5 = z5, vs 6 = z6, vs 7 = z7, vs 8 = z8, vs 9 = z9, vs 10 = z10, vs 11 = z11, vs 12 = z12 at *
  go_wp2_with (first
    | ((with_reducible refine wpList_load_dk (o := ⟨some 48, _, _, _, _, _⟩) ?_ (.tmp 4) ?_ w.heap.size D ?_ ?_ ?_ ?_); exact rfl; exact rfl; exact rfl; exact R_D_k2.out; exact Ds.out.1)
    | (go_at_call 22; (with_reducible refine (O1.out _ (HV.out.grows G_k2.out)).mono ?_); rintro e ku2 ⟨r, rfl, hr, g⟩; obtain ⟨pvO, cvO, bvO, rfl, o1, o2, o3⟩ := hr; have hoc : OwnDisk w.heap.size ku2 (.agg #[pvO, cvO, bvO, .bool d.off]) d := (OwnDisk.more ⟨_, _, _, rfl, o1, o2, o3⟩ (G_k2.out).size); have H4O := Lib.hid (dk_one hoc.disk); clear o1 o2 o3; have Zk2 := Lib.hid (Below.size g); have R_D_k3 := Lib.hid (Row.grows R_D_k2.out g); have G_k3 := Lib.hid ((G_k2.out).trans g); have O_oO_new := Lib.hid (hoc); clear g)
    | ((with_reducible refine wpList_store_dk ?_ (.tmp 9) (.tmp 49) ?_ ku2.heap.size #[pvO, cvO, bvO, .bool d.off] #[.slice none 0 0, .slice none 0 0, .slice none 0 0, .bool false] ?_ ?_ ?_ ?_ ?_ ?_ ?_); exact rfl; exact rfl; exact rfl; exact rfl; exact H4O.out.1; exact rfl; exact H4O.out.2; exact Row.new ku2 _ _; intro ku3 hp hg; have g := grown_fresh rfl hg; have R_D_k4 := Lib.hid (Row.grows R_D_k3.out g); have O_oO_k4 := Lib.hid (O_oO_new.out.grows g); have G_k4 := Lib.hid ((G_k3.out).trans g); have R_O_new := Lib.hid hp; have Zk3 := Lib.hid (Row.lt hp); have Zk4 := Lib.hid (Below.size g); clear hp hg g)
    | ((with_reducible refine wpList_load_dk (o := ⟨some 51, _, _, _, _, _⟩) ?_ (.tmp 4) ?_ w.heap.size D ?_ ?_ ?_ ?_); exact rfl; exact rfl; exact rfl; exact R_D_k4.out; exact Ds.out.1)
    | (go_at_call 9; (with_reducible refine (F1.out _ (HV.out.grows G_k4.out)).mono ?_); rintro e ku4 ⟨r, rfl, hr, g⟩; obtain ⟨pvA, cvA, bvA, rfl, o1, o2, o3⟩ := hr; obtain ⟨GA, cpA, hpv, _, _, _, _⟩ := o1.at_zero (by rw [HAL.out]; exact HLN.out.1); rw [HAL.out] at hpv; subst hpv; have hoc : OwnDisk w.heap.size ku4 (.agg #[.slice (some ⟨GA, 0, none⟩) d.pages.length cpA, cvA, bvA, .bool dA.off]) dA := (OwnDisk.more ⟨_, _, _, rfl, o1, o2, o3⟩ (G_k4.out).size); have H4A := Lib.hid (dk_one hoc.disk); clear o1 o2 o3; have Zk5 := Lib.hid (Below.size g); have R_D_k5 := Lib.hid (Row.grows R_D_k4.out g); have R_O_k5 := Lib.hid (Row.grows R_O_new.out g); have O_oO_k5 := Lib.hid (O_oO_k4.out.grows g); have G_k5 := Lib.hid ((G_k4.out).trans g); have O_oA_new := Lib.hid (hoc); clear g)
    | ((with_reducible refine wpList_store_dk ?_ (.tmp 10) (.tmp 56) ?_ ku4.heap.size #[.slice (some ⟨GA, 0, none⟩) d.pages.length cpA, cvA, bvA, .bool dA.off] #[.slice none 0 0, .slice none 0 0, .slice none 0 0, .bool false] ?_ ?_ ?_ ?_ ?_ ?_ ?_); exact rfl; exact rfl; exact rfl; exact rfl; exact H4A.out.1; exact rfl; exact H4A.out.2; exact Row.new ku4 _ _; intro ku5 hp hg; have g := grown_fresh rfl hg; have R_D_k6 := Lib.hid (Row.grows R_D_k5.out g); have R_O_k6 := Lib.hid (Row.grows R_O_k5.out g); have O_oO_k6 := Lib.hid (O_oO_k5.out.grows g); have O_oA_k6 := Lib.hid (O_oA_new.out.grows g); have G_k6 := Lib.hid ((G_k5.out).trans g); have R_A_new := Lib.hid hp; have Zk6 := Lib.hid (Row.lt hp); have Zk7 := Lib.hid (Below.size g); clear hp hg g)
    | ((with_reducible refine wpList_load_dk (o := ⟨some 59, _, _, _, _, _⟩) ?_ (.tmp 10) ?_ ku4.heap.size #[.slice (some ⟨GA, 0, none⟩) d.pages.length cpA, cvA, bvA, .bool dA.off] ?_ ?_ ?_ ?_); exact rfl; exact rfl; exact rfl; exact R_A_new.out; exact rfl)
    | (go_at_call 9; (with_reducible refine (F2.out _ _ O_oA_k6.out.disk).mono ?_); rintro e ku6 ⟨r, rfl, hr, g⟩; obtain ⟨pvB, cvB, bvB, rfl, o1, o2, o3⟩ := hr; have hoc : OwnDisk w.heap.size ku6 (.agg #[pvB, cvB, bvB, .bool d.off]) d := (OwnDisk.more ⟨_, _, _, rfl, o1, o2, o3⟩ (G_k6.out).size); have H4B := Lib.hid (dk_one hoc.disk); clear o1 o2 o3; have Zk8 := Lib.hid (Below.size g); have R_D_k7 := Lib.hid (Row.grows R_D_k6.out g); have R_O_k7 := Lib.hid (Row.grows R_O_k6.out g); have R_A_k7 := Lib.hid (Row.grows R_A_new.out g); have O_oO_k7 := Lib.hid (O_oO_k6.out.grows g); have O_oA_k7 := Lib.hid (O_oA_k6.out.grows g); have G_k7 := Lib.hid ((G_k6.out).trans g); have O_oB_new := Lib.hid (hoc); clear g)
    | ((with_reducible refine wpList_store_dk ?_ (.tmp 12) (.tmp 64) ?_ ku6.heap.size #[pvB, cvB, bvB, .bool d.off] #[.slice none 0 0, .slice none 0 0, .slice none 0 0, .bool false] ?_ ?_ ?_ ?_ ?_ ?_ ?_); exact rfl; exact rfl; exact rfl; exact rfl; exact H4B.out.1; exact rfl; exact H4B.out.2; exact Row.new ku6 _ _; intro ku7 hp hg; have g := grown_fresh rfl hg; have R_D_k8 := Lib.hid (Row.grows R_D_k7.out g); have R_O_k8 := Lib.hid (Row.grows R_O_k7.out g); have R_A_k8 := Lib.hid (Row.grows R_A_k7.out g); have O_oO_k8 := Lib.hid (O_oO_k7.out.grows g); have O_oA_k8 := Lib.hid (O_oA_k7.out.grows g); have O_oB_k8 := Lib.hid (O_oB_new.out.grows g); have G_k8 := Lib.hid ((G_k7.out).trans g); have R_B_new := Lib.hid hp; have Zk9 := Lib.hid (Row.lt hp); have Zk10 := Lib.hid (Below.size g); clear hp hg g)
    | ((with_reducible refine wpList_loadG_dk (o := ⟨some 73, _, _, _, _, _⟩) ?_ (.tmp 12) ?_ ku6.heap.size #[pvB, cvB, bvB, .bool d.off] ?_ ?_ ?_ ?_); exact rfl; exact rfl; exact rfl; exact R_B_new.out; exact H4B.out.1)
    | ((with_reducible refine wpList_loadG_dk (o := ⟨some 74, _, _, _, _, _⟩) ?_ (.tmp 4) ?_ w.heap.size D ?_ ?_ ?_ ?_); exact rfl; exact rfl; exact rfl; exact R_D_k8.out; exact Ds.out.1)
    | (go_at_call 13; (with_reducible refine (same_true (O_oB_k8.out.disk) (HV.out.grows G_k8.out)).mono ?_); rintro e ku8 ⟨rfl, g⟩; have Zk11 := Lib.hid (Below.size g); have R_D_k9 := Lib.hid (Row.grows R_D_k8.out g); have R_O_k9 := Lib.hid (Row.grows R_O_k8.out g); have R_A_k9 := Lib.hid (Row.grows R_A_k8.out g); have R_B_k9 := Lib.hid (Row.grows R_B_new.out g); have O_oO_k9 := Lib.hid (O_oO_k8.out.grows g); have O_oA_k9 := Lib.hid (O_oA_k8.out.grows g); have O_oB_k9 := Lib.hid (O_oB_k8.out.grows g); have G_k9 := Lib.hid ((G_k8.out).trans g); clear g)
    | ((with_reducible refine wpList_loadG_dk (o := ⟨some 79, _, _, _, _, _⟩) ?_ (.tmp 4) ?_ w.heap.size D ?_ ?_ ?_ ?_); exact rfl; exact rfl; exact rfl; exact R_D_k9.out; exact Ds.out.1)
    | ((with_reducible refine wpList_loadG_dk (o := ⟨some 80, _, _, _, _, _⟩) ?_ (.tmp 9) ?_ ku2.heap.size #[pvO, cvO, bvO, .bool d.off] ?_ ?_ ?_ ?_); exact rfl; exact rfl; exact rfl; exact R_O_k9.out; exact H4O.out.1)
    | (go_at_call 13; (with_reducible refine (same_true (HV.out.grows G_k9.out) (O_oO_k9.out.disk)).mono ?_); rintro e ku9 ⟨rfl, g⟩; have Zk12 := Lib.hid (Below.size g); have R_D_k10 := Lib.hid (Row.grows R_D_k9.out g); have R_O_k10 := Lib.hid (Row.grows R_O_k9.out g); have R_A_k10 := Lib.hid (Row.grows R_A_k9.out g); have R_B_k10 := Lib.hid (Row.grows R_B_k9.out g); have O_oO_k10 := Lib.hid (O_oO_k9.out.grows g); have O_oA_k10 := Lib.hid (O_oA_k9.out.grows g); have O_oB_k10 := Lib.hid (O_oB_k9.out.grows g); have G_k10 := Lib.hid ((G_k9.out).trans g); have c_D_0 : _ = some _ := (R_D_k10.out.cell 0).trans Ds.out.2.1; have c_A_0 : _ = some _ := (R_A_k10.out.cell 0); clear g)
    | ((with_reducible refine wpList_load_pg (op := ⟨some 97, _, _, _, _, _⟩) ?_ (.tmp 96) ?_ gP (oP + k * 256) pk ?_ ?_ ?_ ?_); exact rfl; exact rfl; exact rfl; exact HPLk.out; exact (range_low (G_k10.out) hgP (HXP.out k pk HPKe.out)))
    | ((with_reducible refine wpList_store_pgrow ?_ (.tmp 14) (.tmp 97) ?_ ku9.heap.size pk VdM.blank ?_ ?_ ?_ ?_ ?_ ?_); exact rfl; exact rfl; exact rfl; exact rfl; exact HPLk.out; exact blank_len; exact Row.new ku9 _ _; intro ku10 hp hg; have g := grown_fresh rfl hg; have R_D_k11 := Lib.hid (Row.grows R_D_k10.out g); have R_O_k11 := Lib.hid (Row.grows R_O_k10.out g); have R_A_k11 := Lib.hid (Row.grows R_A_k10.out g); have R_B_k11 := Lib.hid (Row.grows R_B_k10.out g); have O_oO_k11 := Lib.hid (O_oO_k10.out.grows g); have O_oA_k11 := Lib.hid (O_oA_k10.out.grows g); have O_oB_k11 := Lib.hid (O_oB_k10.out.grows g); have G_k11 := Lib.hid ((G_k10.out).trans g); have R_One_new := Lib.hid hp; have Zk13 := Lib.hid (Row.lt hp); have Zk14 := Lib.hid (Below.size g); have c_D_0 : _ = some _ := (R_D_k11.out.cell 0).trans Ds.out.2.1; have c_A_0 : _ = some _ := (R_A_k11.out.cell 0); have cOne : _ = some _ := (hp.cell j).trans (pg_cell pk j y HYe.out); have KG := Lib.hid g; clear hp hg g)
    | ((with_reducible refine wpList_store_c ?_ 5 (.tmp 104) (.tmp 103) ?_ ku9.heap.size j (.int .u8 (bI (y ^^^ b))) (pgA pk) 40 ?_ ?_ ?_ ?_ ?_ ?_ ?_); exact rfl; exact rfl; exact rfl; exact rfl; exact rfl; exact one_u8; exact R_One_new.out; exact (by rw [pgA_size, HPLk.out]; omega); intro ku11 hp hg; rw [pg_set, HQS.out] at hp; have HPA := Lib.hid (fun (q : Nat) x hq => IsDisk.page_at (IsDisk.below O_oA_k10.out.disk (KG.out.grown hg KG.out.size (by have zW0 := ZW0.out; have zk0 := Zk0.out; have zk1 := Zk1.out; have zk2 := Zk2.out; have zk3 := Zk3.out; have zk4 := Zk4.out; have zk5 := Zk5.out; have zk6 := Zk6.out; have zk7 := Zk7.out; have zk8 := Zk8.out; have zk9 := Zk9.out; have zk10 := Zk10.out; have zk11 := Zk11.out; have zk12 := Zk12.out; have zk13 := Zk13.out; have zk14 := Zk14.out; intro k e; have e := Option.some.inj e; omega))) q x hq); have R_D_k12 := Lib.hid (R_D_k11.out.grown hg (by have zW0 := ZW0.out; have zk0 := Zk0.out; have zk1 := Zk1.out; have zk2 := Zk2.out; have zk3 := Zk3.out; have zk4 := Zk4.out; have zk5 := Zk5.out; have zk6 := Zk6.out; have zk7 := Zk7.out; have zk8 := Zk8.out; have zk9 := Zk9.out; have zk10 := Zk10.out; have zk11 := Zk11.out; have zk12 := Zk12.out; have zk13 := Zk13.out; have zk14 := Zk14.out; intro e; have e := Option.some.inj e; omega)); have R_A_k12 := Lib.hid (R_A_k11.out.grown hg (by have zW0 := ZW0.out; have zk0 := Zk0.out; have zk1 := Zk1.out; have zk2 := Zk2.out; have zk3 := Zk3.out; have zk4 := Zk4.out; have zk5 := Zk5.out; have zk6 := Zk6.out; have zk7 := Zk7.out; have zk8 := Zk8.out; have zk9 := Zk9.out; have zk10 := Zk10.out; have zk11 := Zk11.out; have zk12 := Zk12.out; have zk13 := Zk13.out; have zk14 := Zk14.out; intro e; have e := Option.some.inj e; omega)); have R_One_k12 := Lib.hid hp; have G_k12 := Lib.hid (show Grows w _ from (G_k11.out).grown hg (G_k11.out).size (by have zW0 := ZW0.out; have zk0 := Zk0.out; have zk1 := Zk1.out; have zk2 := Zk2.out; have zk3 := Zk3.out; have zk4 := Zk4.out; have zk5 := Zk5.out; have zk6 := Zk6.out; have zk7 := Zk7.out; have zk8 := Zk8.out; have zk9 := Zk9.out; have zk10 := Zk10.out; have zk11 := Zk11.out; have zk12 := Zk12.out; have zk13 := Zk13.out; have zk14 := Zk14.out; intro k e; have e := Option.some.inj e; omega)); clear hp hg))
  clear c_D_0 c_A_0 cOne
  go_loopw [15] (fun i wr => ∃ q : Nat, q ≤ d.pages.length ∧ i = .int .i64 q ∧ Grows ku11 wr) (fun i _ => d.pages.length - (intOf i).toNat)
  case atStart => exact ⟨0, Nat.zero_le _, rfl, Grows.refl _⟩
  case round =>
    obtain ⟨q, hq2, rfl, hgr⟩ := hrel
    have HGR := Lib.hid hgr
    have R_D_m1 := Lib.hid (Row.grows R_D_k12.out hgr)
    have R_A_m1 := Lib.hid (Row.grows R_A_k12.out hgr)
    have R_One_m1 := Lib.hid (Row.grows R_One_k12.out hgr)
    have G_m1 := Lib.hid ((G_k12.out).trans hgr)
    clear hgr
    have c_D_0 : _ = some _ := (R_D_m1.out.cell 0).trans Ds.out.2.1
    have h256 : d.pages.length ≤ 256 := HLN.out.2
    by_cases hlt : q < d.pages.length
    · have hlti : (q : Int) < d.pages.length := by omega
      have c_A_0 : _ = some _ := R_A_m1.out.cell 0
      obtain ⟨pq, hpq⟩ : ∃ pq, d.pages[q]? = some pq := ⟨_, List.getElem?_eq_getElem hlt⟩
      have HPQ : Hid (pq.length = 256) := by
        have := HP1.out _ (List.mem_of_getElem? hpq)
        simpa [Hid, pageE] using this
      have hrD := Lib.hid (range_low (G_m1.out) hgP (HXP.out q pq hpq))
      by_cases hqk : q = k
      · subst hqk
        obtain rfl : pq = pk := by have := HPKe.out; rw [hpq] at this; exact Option.some.inj this
        have hrA := Lib.hid (range_grows (HPA.out q qk HAK.out) HGR.out)
        clear hpq
        go_wp2
        refine wp_region_free 30 177 (by kernel_rfl) (by kernel_rfl) rfl (by kernel_rfl) ?_; simp only [List.take_succ_cons, List.take_zero, List.drop_succ_cons, List.drop_zero]
        repeat (apply free_pure rfl; focus (intro vs w hg hd;  (try simp [Region.binds] at hd); simp only [execOp, resolve, Option.map_some, Option.map_none, List.map_toArray, List.map_cons, List.map_nil, rho_const, rho_func]; (repeat (conv in rho _ _ _ _ (Operand.tmp _) => whnf)); (try simp only [hd]); go_simp; (repeat (conv in rho _ _ _ _ (Operand.tmp _) => whnf)); (try simp only [hd]); rfl))
        refine free_passed (fun vs wq hg hd => by
          simp [Region.binds] at hd
          simp [Region.wanted, yieldR]
          (repeat (conv in rho _ _ _ _ (Operand.tmp _) => whnf))
          simp [hd]) ?_
        refine free_passed (fun vs wq hg hd => by
          simp [Region.binds] at hd
          simp [Region.wanted, yieldR]
          (repeat (conv in rho _ _ _ _ (Operand.tmp _) => whnf))
          simp [hd]) ?_
        refine free_passed (fun vs wq hg hd => by
          simp [Region.binds] at hd
          simp [Region.wanted, yieldR]
          (repeat (conv in rho _ _ _ _ (Operand.tmp _) => whnf))
          simp [hd]) ?_
        refine free_passed (fun vs wq hg hd => by
          simp [Region.binds] at hd
          simp [Region.wanted, yieldR]
          (repeat (conv in rho _ _ _ _ (Operand.tmp _) => whnf))
          simp [hd]) ?_
        refine free_passed (fun vs wq hg hd => by
          simp [Region.binds] at hd
          simp [Region.wanted, yieldR]
          (repeat (conv in rho _ _ _ _ (Operand.tmp _) => whnf))
          simp [hd]) ?_
        refine free_passed (fun vs wq hg hd => by
          simp [Region.binds] at hd
          simp [Region.wanted, yieldR]
          (repeat (conv in rho _ _ _ _ (Operand.tmp _) => whnf))
          simp [hd]) ?_
        refine free_passed (fun vs wq hg hd => by
          simp [Region.binds] at hd
          simp [Region.wanted, yieldR]
          (repeat (conv in rho _ _ _ _ (Operand.tmp _) => whnf))
          simp [hd]) ?_
        refine free_passed (fun vs wq hg hd => by
          simp [Region.binds] at hd
          simp [Region.wanted, yieldR]
          (repeat (conv in rho _ _ _ _ (Operand.tmp _) => whnf))
          simp [hd]) ?_
        refine free_passed (fun vs wq hg hd => by
          simp [Region.binds] at hd
          simp [Region.wanted, yieldR]
          (repeat (conv in rho _ _ _ _ (Operand.tmp _) => whnf))
          simp [hd]) ?_
        refine free_passed (fun vs wq hg hd => by
          simp [Region.binds] at hd
          simp [Region.wanted, yieldR]
          (repeat (conv in rho _ _ _ _ (Operand.tmp _) => whnf))
          simp [hd]) ?_
        refine free_passed (fun vs wq hg hd => by
          simp [Region.binds] at hd
          simp [Region.wanted, yieldR]
          (repeat (conv in rho _ _ _ _ (Operand.tmp _) => whnf))
          simp [hd]) ?_
        repeat (apply free_pure rfl; focus (intro vs w hg hd;  (try simp [Region.binds] at hd); simp only [execOp, resolve, Option.map_some, Option.map_none, List.map_toArray, List.map_cons, List.map_nil, rho_const, rho_func]; (repeat (conv in rho _ _ _ _ (Operand.tmp _) => whnf)); (try simp only [hd]); go_simp; (repeat (conv in rho _ _ _ _ (Operand.tmp _) => whnf)); (try simp only [hd]); rfl))
        refine free_guarded (fun v_ _ => v_ = .int .i64 q) (val_mono _) (fun vs wq hg hd => by
          simp [Region.binds] at hd
          refine ⟨?_, ?_⟩
          · simp [Region.wanted, yieldR]
            (repeat (conv in rho _ _ _ _ (Operand.tmp _) => whnf))
            simp [hd]
          · simp only [Does]
            simp only [execOp, resolve, Option.map_some, Option.map_none, List.map_toArray, List.map_cons, List.map_nil, rho_const, rho_func]
            (repeat (conv in rho _ _ _ _ (Operand.tmp _) => whnf))
            (try simp only [hd])
            go_simp
            (repeat (conv in rho _ _ _ _ (Operand.tmp _) => whnf))
            exact Grows.refl _) ?_
        refine free_guarded (fun v_ _ => v_ = .int .i64 q) (val_mono _) (fun vs wq hg hd => by
          simp [Region.binds] at hd
          refine ⟨?_, ?_⟩
          · simp [Region.wanted, yieldR]
            (repeat (conv in rho _ _ _ _ (Operand.tmp _) => whnf))
            simp [hd]
          · simp only [Does]
            simp only [execOp, resolve, Option.map_some, Option.map_none, List.map_toArray, List.map_cons, List.map_nil, rho_const, rho_func]
            (repeat (conv in rho _ _ _ _ (Operand.tmp _) => whnf))
            (try simp only [hd])
            go_simp
            (repeat (conv in rho _ _ _ _ (Operand.tmp _) => whnf))
            exact Grows.refl _) ?_
        refine free_guarded (fun v_ _ => v_ = .bool true) (val_mono _) (fun vs wq hg hd => by
          simp [Region.binds] at hd
          refine ⟨?_, ?_⟩
          · simp [Region.wanted, yieldR]
            (repeat (conv in rho _ _ _ _ (Operand.tmp _) => whnf))
            simp [hd]
          · simp only [Does]
            simp only [execOp, resolve, Option.map_some, Option.map_none, List.map_toArray, List.map_cons, List.map_nil, rho_const, rho_func]
            (repeat (conv in rho _ _ _ _ (Operand.tmp _) => whnf))
            (try simp only [hd])
            go_simp
            (repeat (conv in rho _ _ _ _ (Operand.tmp _) => whnf))
            exact Grows.refl _) ?_
        refine free_guarded (fun v_ _ => v_ = .bool true) (val_mono _) (fun vs wq hg hd => by
          simp [Region.binds] at hd
          refine ⟨?_, ?_⟩
          · simp [Region.wanted, yieldR]
            (repeat (conv in rho _ _ _ _ (Operand.tmp _) => whnf))
            simp [hd]
          · simp only [Does]
            simp only [execOp, resolve, Option.map_some, Option.map_none, List.map_toArray, List.map_cons, List.map_nil, rho_const, rho_func]
            (repeat (conv in rho _ _ _ _ (Operand.tmp _) => whnf))
            (try simp only [hd])
            go_simp
            (repeat (conv in rho _ _ _ _ (Operand.tmp _) => whnf))
            exact Grows.refl _) ?_
        refine free_guarded (fun v_ _ => v_ = .pointer (some ⟨ku4.heap.size, 0, none⟩)) (val_mono _) (fun vs wq hg hd => by
          simp [Region.binds] at hd
          refine ⟨?_, ?_⟩
          · simp [Region.wanted, yieldR]
            (repeat (conv in rho _ _ _ _ (Operand.tmp _) => whnf))
            simp [hd]
          · simp only [Does]
            simp only [execOp, resolve, Option.map_some, Option.map_none, List.map_toArray, List.map_cons, List.map_nil, rho_const, rho_func]
            (repeat (conv in rho _ _ _ _ (Operand.tmp _) => whnf))
            (try simp only [hd])
            go_simp
            (repeat (conv in rho _ _ _ _ (Operand.tmp _) => whnf))
            exact Grows.refl _) ?_
        refine free_guarded (fun v_ _ => v_ = .slice (some ⟨GA, 0, none⟩) d.pages.length cpA) (val_mono _) (fun vs wq hg hd => by
          simp [Region.binds] at hd
          refine ⟨?_, ?_⟩
          · simp [Region.wanted, yieldR]
            (repeat (conv in rho _ _ _ _ (Operand.tmp _) => whnf))
            simp [hd]
          · simp only [Does]
            simp only [execOp, resolve, Option.map_some, Option.map_none, List.map_toArray, List.map_cons, List.map_nil, rho_const, rho_func]
            (repeat (conv in rho _ _ _ _ (Operand.tmp _) => whnf))
            (try simp only [hd])
            have q0 := hg.cell c_A_0
            go_simp
            (repeat (conv in rho _ _ _ _ (Operand.tmp _) => whnf))
            exact Grows.refl _) ?_
        refine free_guarded (fun v_ _ => v_ = .int .i64 q) (val_mono _) (fun vs wq hg hd => by
          simp [Region.binds] at hd
          refine ⟨?_, ?_⟩
          · simp [Region.wanted, yieldR]
            (repeat (conv in rho _ _ _ _ (Operand.tmp _) => whnf))
            simp [hd]
          · simp only [Does]
            simp only [execOp, resolve, Option.map_some, Option.map_none, List.map_toArray, List.map_cons, List.map_nil, rho_const, rho_func]
            (repeat (conv in rho _ _ _ _ (Operand.tmp _) => whnf))
            (try simp only [hd])
            go_simp
            (repeat (conv in rho _ _ _ _ (Operand.tmp _) => whnf))
            exact Grows.refl _) ?_
        refine free_guarded (fun v_ _ => v_ = .pointer (some ⟨GA, q * 256, none⟩)) (val_mono _) (fun vs wq hg hd => by
          simp [Region.binds] at hd
          refine ⟨?_, ?_⟩
          · simp [Region.wanted, yieldR]
            (repeat (conv in rho _ _ _ _ (Operand.tmp _) => whnf))
            simp [hd]
          · simp only [Does]
            simp only [execOp, resolve, Option.map_some, Option.map_none, List.map_toArray, List.map_cons, List.map_nil, rho_const, rho_func]
            (repeat (conv in rho _ _ _ _ (Operand.tmp _) => whnf))
            (try simp only [hd])
            go_simp
            (repeat (conv in rho _ _ _ _ (Operand.tmp _) => whnf))
            exact Grows.refl _) ?_
        refine free_guarded (fun v_ _ => v_ = .agg (pgA qk)) (val_mono _) (fun vs wq hg hd => by
          simp [Region.binds] at hd
          refine ⟨?_, ?_⟩
          · simp [Region.wanted, yieldR]
            (repeat (conv in rho _ _ _ _ (Operand.tmp _) => whnf))
            simp [hd]
          · exact does_load 40 (.tmp 136) ⟨GA, q * 256, none⟩ _ rfl (by first | rfl | ((conv => lhs; whnf); simp [hd])) (page_run_load HQL.out (range_grows (hrA.out) (Grows.of_drew hg))) ⟨Grows.refl _, rfl⟩) ?_
        refine free_guarded (fun v_ _ => v_ = .agg (pgA qk)) (val_mono _) (fun vs wq hg hd => by
          simp [Region.binds] at hd
          refine ⟨?_, ?_⟩
          · simp [Region.wanted, yieldR]
            (repeat (conv in rho _ _ _ _ (Operand.tmp _) => whnf))
            simp [hd]
          · exact does_load 40 (.tmp 14) ⟨ku9.heap.size, 0, none⟩ _ rfl (by first | rfl | (conv => lhs; whnf)) (pg_run_load_row HQL.out (Row.grows R_One_m1.out (Grows.of_drew hg))) ⟨Grows.refl _, rfl⟩) ?_
        refine free_guarded (fun v_ _ => v_ = .bool false) (val_mono _) (fun vs wq hg hd => by
          simp [Region.binds] at hd
          refine ⟨?_, ?_⟩
          · simp [Region.wanted, yieldR]
            (repeat (conv in rho _ _ _ _ (Operand.tmp _) => whnf))
            simp [hd]
          · simp only [Does]
            simp only [execOp, resolve, Option.map_some, Option.map_none, List.map_toArray, List.map_cons, List.map_nil, rho_const, rho_func]
            (repeat (conv in rho _ _ _ _ (Operand.tmp _) => whnf))
            (try simp only [hd])
            have heq := page_eq_run qk qk HQL.out HQL.out wq
            go_simp
            (repeat (conv in rho _ _ _ _ (Operand.tmp _) => whnf))
            exact Grows.refl _) ?_
        refine free_guarded (fun v_ _ => v_ = .bool false) (val_mono _) (fun vs wq hg hd => by
          simp [Region.binds] at hd
          refine ⟨?_, ?_⟩
          · simp [Region.wanted, yieldR]
            (repeat (conv in rho _ _ _ _ (Operand.tmp _) => whnf))
            simp [hd]
          · simp only [Does]
            simp only [execOp, resolve, Option.map_some, Option.map_none, List.map_toArray, List.map_cons, List.map_nil, rho_const, rho_func]
            (repeat (conv in rho _ _ _ _ (Operand.tmp _) => whnf))
            (try simp only [hd])
            go_simp
            (repeat (conv in rho _ _ _ _ (Operand.tmp _) => whnf))
            first | exact Grows.refl _ | (refine ⟨Grows.refl _, ?_⟩; simp [hd])) ?_
        repeat (apply free_pure rfl; focus (intro vs w hg hd;  (try simp [Region.binds] at hd); simp only [execOp, resolve, Option.map_some, Option.map_none, List.map_toArray, List.map_cons, List.map_nil, rho_const, rho_func]; (repeat (conv in rho _ _ _ _ (Operand.tmp _) => whnf)); (try simp only [hd]); go_simp; (repeat (conv in rho _ _ _ _ (Operand.tmp _) => whnf)); (try simp only [hd]); rfl))
        intro vs w' hg hv; have h29 := hv 29 (by omega); simp at h29; simp only [putL, dstAt, List.range, List.range.loop, if_true, List.getElem?_toArray, List.getElem?_cons_zero, List.getElem?_cons_succ, Option.bind_some, Act.put, List.setIfInBounds_toArray, List.set_cons_zero, List.set_cons_succ]
        rw [h29]
        have HGN := Lib.hid (show Grows wr w' from Grows.of_drew hg)
        clear hv h29 hg c_D_0 c_A_0
        generalize vs 0 = z0, vs 1 = z1, vs 2 = z2, vs 3 = z3, vs 4 = z4, vs 5 = z5, vs 6 = z6, vs 7 = z7, vs 8 = z8, vs 9 = z9, vs 10 = z10, vs 11 = z11, vs 12 = z12, vs 13 = z13, vs 14 = z14, vs 15 = z15, vs 16 = z16, vs 17 = z17, vs 18 = z18, vs 19 = z19, vs 20 = z20, vs 21 = z21, vs 22 = z22, vs 23 = z23, vs 24 = z24, vs 25 = z25, vs 26 = z26, vs 27 = z27, vs 28 = z28, vs 29 = z29 at *
        go_wp2
        go_roundw
        case rel => exact ⟨q + 1, by omega, by go_num, HGR.out.trans HGN.out⟩
        case measure => simp [intOf]; omega
      · have hqi : ¬ ((q : Int) = k) := by omega
        have hrA := Lib.hid (range_grows (HPA.out q pq ((HAQ.out q hqk).trans hpq)) HGR.out)
        clear hpq
        go_wp2
        refine wp_region_free 30 177 (by kernel_rfl) (by kernel_rfl) rfl (by kernel_rfl) ?_; simp only [List.take_succ_cons, List.take_zero, List.drop_succ_cons, List.drop_zero]
        repeat (apply free_pure rfl; focus (intro vs w hg hd;  (try simp [Region.binds] at hd); simp only [execOp, resolve, Option.map_some, Option.map_none, List.map_toArray, List.map_cons, List.map_nil, rho_const, rho_func]; (repeat (conv in rho _ _ _ _ (Operand.tmp _) => whnf)); (try simp only [hd]); go_simp; (repeat (conv in rho _ _ _ _ (Operand.tmp _) => whnf)); (try simp only [hd]); rfl))
        refine free_guarded (fun v_ _ => v_ = .pointer (some ⟨ku4.heap.size, 0, none⟩)) (val_mono _) (fun vs wq hg hd => by
          simp [Region.binds] at hd
          refine ⟨?_, ?_⟩
          · simp [Region.wanted, yieldR]
            (repeat (conv in rho _ _ _ _ (Operand.tmp _) => whnf))
            first | (simp [hd]; done) | (simp [hd]; omega)
          · simp only [Does]
            simp only [execOp, resolve, Option.map_some, Option.map_none, List.map_toArray, List.map_cons, List.map_nil, rho_const, rho_func]
            (repeat (conv in rho _ _ _ _ (Operand.tmp _) => whnf))
            (try simp only [hd])
            go_simp
            (repeat (conv in rho _ _ _ _ (Operand.tmp _) => whnf))
            exact Grows.refl _) ?_
        refine free_guarded (fun v_ _ => v_ = .slice (some ⟨GA, 0, none⟩) d.pages.length cpA) (val_mono _) (fun vs wq hg hd => by
          simp [Region.binds] at hd
          refine ⟨?_, ?_⟩
          · simp [Region.wanted, yieldR]
            (repeat (conv in rho _ _ _ _ (Operand.tmp _) => whnf))
            first | (simp [hd]; done) | (simp [hd]; omega)
          · simp only [Does]
            simp only [execOp, resolve, Option.map_some, Option.map_none, List.map_toArray, List.map_cons, List.map_nil, rho_const, rho_func]
            (repeat (conv in rho _ _ _ _ (Operand.tmp _) => whnf))
            (try simp only [hd])
            have q0 := hg.cell c_A_0
            go_simp
            (repeat (conv in rho _ _ _ _ (Operand.tmp _) => whnf))
            exact Grows.refl _) ?_
        refine free_guarded (fun v_ _ => v_ = .int .i64 q) (val_mono _) (fun vs wq hg hd => by
          simp [Region.binds] at hd
          refine ⟨?_, ?_⟩
          · simp [Region.wanted, yieldR]
            (repeat (conv in rho _ _ _ _ (Operand.tmp _) => whnf))
            first | (simp [hd]; done) | (simp [hd]; omega)
          · simp only [Does]
            simp only [execOp, resolve, Option.map_some, Option.map_none, List.map_toArray, List.map_cons, List.map_nil, rho_const, rho_func]
            (repeat (conv in rho _ _ _ _ (Operand.tmp _) => whnf))
            (try simp only [hd])
            go_simp
            (repeat (conv in rho _ _ _ _ (Operand.tmp _) => whnf))
            exact Grows.refl _) ?_
        refine free_guarded (fun v_ _ => v_ = .pointer (some ⟨GA, q * 256, none⟩)) (val_mono _) (fun vs wq hg hd => by
          simp [Region.binds] at hd
          refine ⟨?_, ?_⟩
          · simp [Region.wanted, yieldR]
            (repeat (conv in rho _ _ _ _ (Operand.tmp _) => whnf))
            first | (simp [hd]; done) | (simp [hd]; omega)
          · simp only [Does]
            simp only [execOp, resolve, Option.map_some, Option.map_none, List.map_toArray, List.map_cons, List.map_nil, rho_const, rho_func]
            (repeat (conv in rho _ _ _ _ (Operand.tmp _) => whnf))
            (try simp only [hd])
            go_simp
            (repeat (conv in rho _ _ _ _ (Operand.tmp _) => whnf))
            exact Grows.refl _) ?_
        refine free_guarded (fun v_ _ => v_ = .agg (pgA pq)) (val_mono _) (fun vs wq hg hd => by
          simp [Region.binds] at hd
          refine ⟨?_, ?_⟩
          · simp [Region.wanted, yieldR]
            (repeat (conv in rho _ _ _ _ (Operand.tmp _) => whnf))
            first | (simp [hd]; done) | (simp [hd]; omega)
          · exact does_load 40 (.tmp 119) ⟨GA, q * 256, none⟩ _ rfl (by first | rfl | ((conv => lhs; whnf); simp [hd])) (page_run_load HPQ.out (range_grows (hrA.out) (Grows.of_drew hg))) ⟨Grows.refl _, rfl⟩) ?_
        refine free_guarded (fun v_ _ => v_ = .pointer (some ⟨w.heap.size, 0, none⟩)) (val_mono _) (fun vs wq hg hd => by
          simp [Region.binds] at hd
          refine ⟨?_, ?_⟩
          · simp [Region.wanted, yieldR]
            (repeat (conv in rho _ _ _ _ (Operand.tmp _) => whnf))
            first | (simp [hd]; done) | (simp [hd]; omega)
          · simp only [Does]
            simp only [execOp, resolve, Option.map_some, Option.map_none, List.map_toArray, List.map_cons, List.map_nil, rho_const, rho_func]
            (repeat (conv in rho _ _ _ _ (Operand.tmp _) => whnf))
            (try simp only [hd])
            go_simp
            (repeat (conv in rho _ _ _ _ (Operand.tmp _) => whnf))
            exact Grows.refl _) ?_
        refine free_guarded (fun v_ _ => v_ = .slice (some ⟨gP, oP, none⟩) d.pages.length cP) (val_mono _) (fun vs wq hg hd => by
          simp [Region.binds] at hd
          refine ⟨?_, ?_⟩
          · simp [Region.wanted, yieldR]
            (repeat (conv in rho _ _ _ _ (Operand.tmp _) => whnf))
            first | (simp [hd]; done) | (simp [hd]; omega)
          · simp only [Does]
            simp only [execOp, resolve, Option.map_some, Option.map_none, List.map_toArray, List.map_cons, List.map_nil, rho_const, rho_func]
            (repeat (conv in rho _ _ _ _ (Operand.tmp _) => whnf))
            (try simp only [hd])
            have q0 := hg.cell c_D_0
            go_simp
            (repeat (conv in rho _ _ _ _ (Operand.tmp _) => whnf))
            exact Grows.refl _) ?_
        refine free_guarded (fun v_ _ => v_ = .int .i64 q) (val_mono _) (fun vs wq hg hd => by
          simp [Region.binds] at hd
          refine ⟨?_, ?_⟩
          · simp [Region.wanted, yieldR]
            (repeat (conv in rho _ _ _ _ (Operand.tmp _) => whnf))
            first | (simp [hd]; done) | (simp [hd]; omega)
          · simp only [Does]
            simp only [execOp, resolve, Option.map_some, Option.map_none, List.map_toArray, List.map_cons, List.map_nil, rho_const, rho_func]
            (repeat (conv in rho _ _ _ _ (Operand.tmp _) => whnf))
            (try simp only [hd])
            go_simp
            (repeat (conv in rho _ _ _ _ (Operand.tmp _) => whnf))
            exact Grows.refl _) ?_
        refine free_guarded (fun v_ _ => v_ = .pointer (some ⟨gP, oP + q * 256, none⟩)) (val_mono _) (fun vs wq hg hd => by
          simp [Region.binds] at hd
          refine ⟨?_, ?_⟩
          · simp [Region.wanted, yieldR]
            (repeat (conv in rho _ _ _ _ (Operand.tmp _) => whnf))
            first | (simp [hd]; done) | (simp [hd]; omega)
          · simp only [Does]
            simp only [execOp, resolve, Option.map_some, Option.map_none, List.map_toArray, List.map_cons, List.map_nil, rho_const, rho_func]
            (repeat (conv in rho _ _ _ _ (Operand.tmp _) => whnf))
            (try simp only [hd])
            go_simp
            (repeat (conv in rho _ _ _ _ (Operand.tmp _) => whnf))
            exact Grows.refl _) ?_
        refine free_guarded (fun v_ _ => v_ = .agg (pgA pq)) (val_mono _) (fun vs wq hg hd => by
          simp [Region.binds] at hd
          refine ⟨?_, ?_⟩
          · simp [Region.wanted, yieldR]
            (repeat (conv in rho _ _ _ _ (Operand.tmp _) => whnf))
            first | (simp [hd]; done) | (simp [hd]; omega)
          · exact does_load 40 (.tmp 124) ⟨gP, oP + q * 256, none⟩ _ rfl (by first | rfl | ((conv => lhs; whnf); simp [hd])) (page_run_load HPQ.out (range_grows hrD.out (Grows.of_drew hg))) ⟨Grows.refl _, rfl⟩) ?_
        refine free_guarded (fun v_ _ => v_ = .bool false) (val_mono _) (fun vs wq hg hd => by
          simp [Region.binds] at hd
          refine ⟨?_, ?_⟩
          · simp [Region.wanted, yieldR]
            (repeat (conv in rho _ _ _ _ (Operand.tmp _) => whnf))
            first | (simp [hd]; done) | (simp [hd]; omega)
          · simp only [Does]
            simp only [execOp, resolve, Option.map_some, Option.map_none, List.map_toArray, List.map_cons, List.map_nil, rho_const, rho_func]
            (repeat (conv in rho _ _ _ _ (Operand.tmp _) => whnf))
            (try simp only [hd])
            have heq := page_eq_run pq pq HPQ.out HPQ.out wq
            go_simp
            (repeat (conv in rho _ _ _ _ (Operand.tmp _) => whnf))
            exact Grows.refl _) ?_
        repeat (apply free_pure rfl; focus (intro vs w hg hd;  (try simp [Region.binds] at hd); simp only [execOp, resolve, Option.map_some, Option.map_none, List.map_toArray, List.map_cons, List.map_nil, rho_const, rho_func]; (repeat (conv in rho _ _ _ _ (Operand.tmp _) => whnf)); (try simp only [hd]); go_simp; (repeat (conv in rho _ _ _ _ (Operand.tmp _) => whnf)); (try simp only [hd]); rfl))
        refine free_guarded (fun v_ _ => v_ = .int .i64 q) (val_mono _) (fun vs wq hg hd => by
          simp [Region.binds] at hd
          refine ⟨?_, ?_⟩
          · simp [Region.wanted, yieldR]
            (repeat (conv in rho _ _ _ _ (Operand.tmp _) => whnf))
            first | (simp [hd]; done) | (simp [hd]; omega)
          · simp only [Does]
            simp only [execOp, resolve, Option.map_some, Option.map_none, List.map_toArray, List.map_cons, List.map_nil, rho_const, rho_func]
            (repeat (conv in rho _ _ _ _ (Operand.tmp _) => whnf))
            (try simp only [hd])
            go_simp
            (repeat (conv in rho _ _ _ _ (Operand.tmp _) => whnf))
            exact Grows.refl _) ?_
        refine free_guarded (fun v_ _ => v_ = .int .i64 k) (val_mono _) (fun vs wq hg hd => by
          simp [Region.binds] at hd
          refine ⟨?_, ?_⟩
          · simp [Region.wanted, yieldR]
            (repeat (conv in rho _ _ _ _ (Operand.tmp _) => whnf))
            first | (simp [hd]; done) | (simp [hd]; omega)
          · simp only [Does]
            simp only [execOp, resolve, Option.map_some, Option.map_none, List.map_toArray, List.map_cons, List.map_nil, rho_const, rho_func]
            (repeat (conv in rho _ _ _ _ (Operand.tmp _) => whnf))
            (try simp only [hd])
            go_simp
            (repeat (conv in rho _ _ _ _ (Operand.tmp _) => whnf))
            exact Grows.refl _) ?_
        refine free_guarded (fun v_ _ => v_ = .bool false) (val_mono _) (fun vs wq hg hd => by
          simp [Region.binds] at hd
          refine ⟨?_, ?_⟩
          · simp [Region.wanted, yieldR]
            (repeat (conv in rho _ _ _ _ (Operand.tmp _) => whnf))
            first | (simp [hd]; done) | (simp [hd]; omega)
          · simp only [Does]
            simp only [execOp, resolve, Option.map_some, Option.map_none, List.map_toArray, List.map_cons, List.map_nil, rho_const, rho_func]
            (repeat (conv in rho _ _ _ _ (Operand.tmp _) => whnf))
            (try simp only [hd])
            go_simp
            (repeat (conv in rho _ _ _ _ (Operand.tmp _) => whnf))
            exact Grows.refl _) ?_
        refine free_guarded (fun v_ _ => v_ = .bool false) (val_mono _) (fun vs wq hg hd => by
          simp [Region.binds] at hd
          refine ⟨?_, ?_⟩
          · simp [Region.wanted, yieldR]
            (repeat (conv in rho _ _ _ _ (Operand.tmp _) => whnf))
            first | (simp [hd]; done) | (simp [hd]; omega)
          · simp only [Does]
            simp only [execOp, resolve, Option.map_some, Option.map_none, List.map_toArray, List.map_cons, List.map_nil, rho_const, rho_func]
            (repeat (conv in rho _ _ _ _ (Operand.tmp _) => whnf))
            (try simp only [hd])
            go_simp
            (repeat (conv in rho _ _ _ _ (Operand.tmp _) => whnf))
            exact Grows.refl _) ?_
        refine free_passed (fun vs wq hg hd => by
          simp [Region.binds] at hd
          simp [Region.wanted, yieldR]
          (repeat (conv in rho _ _ _ _ (Operand.tmp _) => whnf))
          first | (simp [hd]; done) | (simp [hd]; omega)) ?_
        refine free_passed (fun vs wq hg hd => by
          simp [Region.binds] at hd
          simp [Region.wanted, yieldR]
          (repeat (conv in rho _ _ _ _ (Operand.tmp _) => whnf))
          first | (simp [hd]; done) | (simp [hd]; omega)) ?_
        refine free_passed (fun vs wq hg hd => by
          simp [Region.binds] at hd
          simp [Region.wanted, yieldR]
          (repeat (conv in rho _ _ _ _ (Operand.tmp _) => whnf))
          first | (simp [hd]; done) | (simp [hd]; omega)) ?_
        refine free_passed (fun vs wq hg hd => by
          simp [Region.binds] at hd
          simp [Region.wanted, yieldR]
          (repeat (conv in rho _ _ _ _ (Operand.tmp _) => whnf))
          first | (simp [hd]; done) | (simp [hd]; omega)) ?_
        refine free_passed (fun vs wq hg hd => by
          simp [Region.binds] at hd
          simp [Region.wanted, yieldR]
          (repeat (conv in rho _ _ _ _ (Operand.tmp _) => whnf))
          first | (simp [hd]; done) | (simp [hd]; omega)) ?_
        refine free_passed (fun vs wq hg hd => by
          simp [Region.binds] at hd
          simp [Region.wanted, yieldR]
          (repeat (conv in rho _ _ _ _ (Operand.tmp _) => whnf))
          first | (simp [hd]; done) | (simp [hd]; omega)) ?_
        refine free_passed (fun vs wq hg hd => by
          simp [Region.binds] at hd
          simp [Region.wanted, yieldR]
          (repeat (conv in rho _ _ _ _ (Operand.tmp _) => whnf))
          first | (simp [hd]; done) | (simp [hd]; omega)) ?_
        refine free_guarded (fun v_ _ => v_ = .bool false) (val_mono _) (fun vs wq hg hd => by
          simp [Region.binds] at hd
          refine ⟨?_, ?_⟩
          · simp [Region.wanted, yieldR]
            (repeat (conv in rho _ _ _ _ (Operand.tmp _) => whnf))
            first | (simp [hd]; done) | (simp [hd]; omega)
          · simp only [Does]
            simp only [execOp, resolve, Option.map_some, Option.map_none, List.map_toArray, List.map_cons, List.map_nil, rho_const, rho_func]
            (repeat (conv in rho _ _ _ _ (Operand.tmp _) => whnf))
            (try simp only [hd])
            go_simp
            (repeat (conv in rho _ _ _ _ (Operand.tmp _) => whnf))
            exact Grows.refl _) ?_
        repeat (apply free_pure rfl; focus (intro vs w hg hd;  (try simp [Region.binds] at hd); simp only [execOp, resolve, Option.map_some, Option.map_none, List.map_toArray, List.map_cons, List.map_nil, rho_const, rho_func]; (repeat (conv in rho _ _ _ _ (Operand.tmp _) => whnf)); (try simp only [hd]); go_simp; (repeat (conv in rho _ _ _ _ (Operand.tmp _) => whnf)); (try simp only [hd]); rfl))
        intro vs w' hg hv; have h29 := hv 29 (by omega); simp at h29; simp only [putL, dstAt, List.range, List.range.loop, if_true, List.getElem?_toArray, List.getElem?_cons_zero, List.getElem?_cons_succ, Option.bind_some, Act.put, List.setIfInBounds_toArray, List.set_cons_zero, List.set_cons_succ]
        rw [h29]
        have HGN := Lib.hid (show Grows wr w' from Grows.of_drew hg)
        clear hv h29 hg c_D_0 c_A_0
        generalize vs 0 = z0, vs 1 = z1, vs 2 = z2, vs 3 = z3, vs 4 = z4, vs 5 = z5, vs 6 = z6, vs 7 = z7, vs 8 = z8, vs 9 = z9, vs 10 = z10, vs 11 = z11, vs 12 = z12, vs 13 = z13, vs 14 = z14, vs 15 = z15, vs 16 = z16, vs 17 = z17, vs 18 = z18, vs 19 = z19, vs 20 = z20, vs 21 = z21, vs 22 = z22, vs 23 = z23, vs 24 = z24, vs 25 = z25, vs 26 = z26, vs 27 = z27, vs 28 = z28, vs 29 = z29 at *
        go_wp2
        go_roundw
        case rel => exact ⟨q + 1, by omega, by go_num, HGR.out.trans HGN.out⟩
        case measure => simp [intOf]; omega
    · have hlti : ¬ (q : Int) < d.pages.length := by omega
      go_wp2_with (first
        | ((with_reducible refine wpList_load_dk (o := ⟨some 143, _, _, _, _, _⟩) ?_ (.tmp 4) ?_ w.heap.size D ?_ ?_ ?_ ?_); exact rfl; exact rfl; exact rfl; exact R_D_m1.out; exact Ds.out.1)
        | (go_at_call 9; (with_reducible refine (F3.out _ (HV.out.grows G_m1.out)).mono ?_); rintro e mu1 ⟨r, rfl, hr, g⟩; obtain ⟨pvX, cvX, bvX, rfl, o1, o2, o3⟩ := hr; have hoc : OwnDisk w.heap.size mu1 (.agg #[pvX, cvX, bvX, .bool d3.off]) d3 := (OwnDisk.more ⟨_, _, _, rfl, o1, o2, o3⟩ (G_m1.out).size); have H4X := Lib.hid (dk_one hoc.disk); clear o1 o2 o3; clear hoc; have Zm15 := Lib.hid (Below.size g); have R_D_m2 := Lib.hid (Row.grows R_D_m1.out g); have G_m2 := Lib.hid ((G_m1.out).trans g); clear g)
        | ((with_reducible refine wpList_store_dk ?_ (.tmp 16) (.tmp 149) ?_ mu1.heap.size #[pvX, cvX, bvX, .bool d3.off] #[.slice none 0 0, .slice none 0 0, .slice none 0 0, .bool false] ?_ ?_ ?_ ?_ ?_ ?_ ?_); exact rfl; exact rfl; exact rfl; exact rfl; exact H4X.out.1; exact rfl; exact H4X.out.2; exact Row.new mu1 _ _; intro mu2 hp hg; have g := grown_fresh rfl hg; have R_D_m3 := Lib.hid (Row.grows R_D_m2.out g); have G_m3 := Lib.hid ((G_m2.out).trans g); have R_X_new := Lib.hid hp; have Zm16 := Lib.hid (Row.lt hp); have Zm17 := Lib.hid (Below.size g); clear hp hg g)
        | ((with_reducible refine wpList_load_dk (o := ⟨some 152, _, _, _, _, _⟩) ?_ (.tmp 4) ?_ w.heap.size D ?_ ?_ ?_ ?_); exact rfl; exact rfl; exact rfl; exact R_D_m3.out; exact Ds.out.1)
        | (go_at_call 9; (with_reducible refine (F4.out _ (HV.out.grows G_m3.out)).mono ?_); rintro e mu3 ⟨r, rfl, hr, g⟩; obtain ⟨pvY, cvY, bvY, rfl, o1, o2, o3⟩ := hr; have hoc : OwnDisk w.heap.size mu3 (.agg #[pvY, cvY, bvY, .bool d4.off]) d4 := (OwnDisk.more ⟨_, _, _, rfl, o1, o2, o3⟩ (G_m3.out).size); have H4Y := Lib.hid (dk_one hoc.disk); clear o1 o2 o3; clear hoc; have Zm18 := Lib.hid (Below.size g); have R_D_m4 := Lib.hid (Row.grows R_D_m3.out g); have R_X_m4 := Lib.hid (Row.grows R_X_new.out g); have G_m4 := Lib.hid ((G_m3.out).trans g); clear g)
        | ((with_reducible refine wpList_store_dk ?_ (.tmp 18) (.tmp 156) ?_ mu3.heap.size #[pvY, cvY, bvY, .bool d4.off] #[.slice none 0 0, .slice none 0 0, .slice none 0 0, .bool false] ?_ ?_ ?_ ?_ ?_ ?_ ?_); exact rfl; exact rfl; exact rfl; exact rfl; exact H4Y.out.1; exact rfl; exact H4Y.out.2; exact Row.new mu3 _ _; intro mu4 hp hg; have g := grown_fresh rfl hg; have R_D_m5 := Lib.hid (Row.grows R_D_m4.out g); have R_X_m5 := Lib.hid (Row.grows R_X_m4.out g); have G_m5 := Lib.hid ((G_m4.out).trans g); have R_Y_new := Lib.hid hp; have Zm19 := Lib.hid (Row.lt hp); have Zm20 := Lib.hid (Below.size g); clear hp hg g)
        | ((with_reducible refine wpList_load_dk (o := ⟨some 159, _, _, _, _, _⟩) ?_ (.tmp 4) ?_ w.heap.size D ?_ ?_ ?_ ?_); exact rfl; exact rfl; exact rfl; exact R_D_m5.out; exact Ds.out.1)
        | (go_at_call 9; (with_reducible refine (F5.out _ (HV.out.grows G_m5.out)).mono ?_); rintro e mu5 ⟨r, rfl, hr, g⟩; obtain ⟨pvZ, cvZ, bvZ, rfl, o1, o2, o3⟩ := hr; have hoc : OwnDisk w.heap.size mu5 (.agg #[pvZ, cvZ, bvZ, .bool d5.off]) d5 := (OwnDisk.more ⟨_, _, _, rfl, o1, o2, o3⟩ (G_m5.out).size); have H4Z := Lib.hid (dk_one hoc.disk); clear o1 o2 o3; clear hoc; have Zm21 := Lib.hid (Below.size g); have R_D_m6 := Lib.hid (Row.grows R_D_m5.out g); have R_X_m6 := Lib.hid (Row.grows R_X_m5.out g); have R_Y_m6 := Lib.hid (Row.grows R_Y_new.out g); have G_m6 := Lib.hid ((G_m5.out).trans g); clear g)
        | ((with_reducible refine wpList_store_dk ?_ (.tmp 20) (.tmp 162) ?_ mu5.heap.size #[pvZ, cvZ, bvZ, .bool d5.off] #[.slice none 0 0, .slice none 0 0, .slice none 0 0, .bool false] ?_ ?_ ?_ ?_ ?_ ?_ ?_); exact rfl; exact rfl; exact rfl; exact rfl; exact H4Z.out.1; exact rfl; exact H4Z.out.2; exact Row.new mu5 _ _; intro mu6 hp hg; have g := grown_fresh rfl hg; have R_D_m7 := Lib.hid (Row.grows R_D_m6.out g); have R_X_m7 := Lib.hid (Row.grows R_X_m6.out g); have R_Y_m7 := Lib.hid (Row.grows R_Y_m6.out g); have G_m7 := Lib.hid ((G_m6.out).trans g); have R_Z_new := Lib.hid hp; have Zm22 := Lib.hid (Row.lt hp); have Zm23 := Lib.hid (Below.size g); clear hp hg g)
        | (go_at_call 8; (with_reducible refine (wakes4_any _).mono ?_); rintro e mu7 ⟨rfl, g⟩; have Zm24 := Lib.hid (Below.size g); have R_D_m8 := Lib.hid (Row.grows R_D_m7.out g); have R_X_m8 := Lib.hid (Row.grows R_X_m7.out g); have R_Y_m8 := Lib.hid (Row.grows R_Y_m7.out g); have R_Z_m8 := Lib.hid (Row.grows R_Z_new.out g); have G_m8 := Lib.hid ((G_m7.out).trans g); clear g))
      go_ret
      exact ⟨rfl, G_m8.out⟩
end Go.Proofs.Ytiagmlokocpboaa
