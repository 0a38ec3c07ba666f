/- VdevOff: a disk that is detached is neither read, written nor flushed, and stays; a full cache takes no more. -/
import Derived.Test.YtfcghkmhcfgfkaaVdLaws
namespace Go.Proofs.Ytfcghkmhcfgfkaa
open Go.RowKit
set_option linter.unusedVariables false
set_option linter.unusedSimpArgs false
/-- A disk of one's own stays where a disk's own block is written. -/
theorem OwnDisk.beside {base : Nat} {w w' : World} {v : Value} {d : Dk} (h : OwnDisk base w v d) {j : Nat} (hg : w.grownBy w' (some j)) {cs : Array Value} (hr : Row w j 26 cs) : OwnDisk base w' v d := by
  obtain ⟨pv, cv, bv, h0, h1, h2, h3⟩ := h
  exact ⟨pv, cv, bv, h0, h1.aside hg hr (by decide), h2.aside hg hr (by decide), h3.aside hg hr (by decide)⟩
theorem OwnDisk.form {base : Nat} {w : World} {D : Array Value} {d : Dk} (h : OwnDisk base w (.agg D) d) : ∃ pv cv bv, D = #[pv, cv, bv, .bool d.off] ∧ Own' 28 256 pageE base w pv d.pages ∧ Own' 47 257 writeE base w cv d.cache ∧ Own' 3 1 intE base w bv d.bad := by
  obtain ⟨pv, cv, bv, h0, h1, h2, h3⟩ := h
  simp only [Value.agg.injEq] at h0
  exact ⟨pv, cv, bv, h0, h1, h2, h3⟩
/-- While the cache is filled. -/
def InvO (w : World) (t12 base : Nat) (D : Array Value) (p : Pg) (d : Dk) (pv bv : Value) (c : List (Int × Pg)) (cv : Value) (W : World) : Prop :=
  Row W t12 26 #[pv, cv, bv, .bool false] ∧ Own' 47 257 writeE base W cv c ∧ Own' 28 256 pageE base W pv d.pages ∧ Own' 3 1 intE base W bv d.bad ∧ c.length ≤ 2000 ∧ VdM.mayC d.pages.length c = true ∧
  Row W w.heap.size 26 D ∧ Row W (w.heap.size + 1) 28 (pgA p) ∧ Below w.heap.size w W ∧ base ≤ W.heap.size
def measO (t12 : Nat) (W : World) : Nat := match W.cell? ⟨t12, 1, none⟩ with
  | some (.slice _ n _) => 2000 - n
  | _ => 0
set_option maxRecDepth 20000 in
set_option maxHeartbeats 8000000 in
theorem vdevOff_any (v : Value) (d : Dk) (p : Pg) (w : World) (hv : IsDisk w.heap.size w v d) (hp : p.length = 256) :
    Calls Try.prog 6 #[v, .agg (pgA p)] w fun e w' => e = .returned (.bool true) ∧ Below w.heap.size w w' := by
  have HV := Lib.hid hv; have HPl := Lib.hid hp
  obtain ⟨pv, cv, bv, rfl, hpp, hcc, hbb⟩ := hv
  obtain ⟨A, cap, rfl, q1, q2, _⟩ := hpp.form
  clear hpp hcc hbb hp
  unfold maxLen at q2
  obtain ⟨D, hD⟩ : ∃ D, D = #[Value.slice A d.pages.length cap, cv, bv, .bool d.off] := ⟨_, rfl⟩
  have Ds : Hid (D.size = 4 ∧ D[0]? = some (.slice A d.pages.length cap)) := by subst hD; exact ⟨rfl, rfl⟩
  rw [← hD] at HV ⊢
  clear hD
  have L0 : Hid (Live [(w.heap.size, 26, D), (w.heap.size + 1, 28, pgA p)] [w] ((w.alloc (.cells D 26)).alloc (.cells (pgA p) 28))) := by
    have h0 : Live [] [w] w := ⟨fun i r h => by simp at h, fun i c h => by
      cases i with
      | zero => cases h; exact Below.refl _ _
      | succ i => simp at h⟩
    have h1 := (h0.grows (Grows.alloc w (.cells D 26))).push (Row.new w 26 D)
    have h2 := (h1.grows (Grows.alloc _ (.cells (pgA p) 28))).push (Row.new _ 28 (pgA p))
    rw [World.size_alloc] at h2
    exact h2
  have HGr : Hid _ := Lib.hid (great_one (L0.out.disk 0 rfl HV.out) Ds.out.1)
  have HMy : Hid (∀ W, IsDisk W.heap.size W (.agg D) d → Calls Try.prog 16 #[.agg D] W fun e w' => e = .returned (.bool (VdM.may d)) ∧ Grows W w') := fun W h => rmay_any _ d W h
  rw [World.size_alloc, World.size_alloc] at HGr
  by_cases hg : VdM.great d = true
  · rw [hg] at HGr
    clear hg
    go_enter Try.func6, Try.ntmps6
    go_wp2_with (first
      | ((with_reducible refine wpList_load_dk (o := ⟨some 14, _, _, _, _, _⟩) ?_ (.tmp 2) ?_ w.heap.size D ?_ ?_ ?_ ?_); exact rfl; exact rfl; exact rfl; exact L0.out.row 0 _ rfl; exact Ds.out.1)
      | ((with_reducible refine wpList_slice_dk (o := ⟨some 15, _, _, _, _, _⟩) ?_ (.tmp 14) ?_ D ?_ ?_ ?_); exact rfl; exact rfl; exact rfl; exact Ds.out.1)
      | (go_at_call 8; refine HGr.out.mono ?_; rintro e u1 ⟨rfl, g⟩; have Z1 : Hid (w.heap.size + 2 < u1.heap.size) := (by have := Below.size g; simp at this; unfold Hid; omega); have L1 := Lib.hid ((L0.out.grows (Grows.alloc _ _)).grows g); clear g)
      | (go_at_call 9; refine (wakes_any _).mono ?_; rintro e u3 ⟨rfl, g⟩; have LE := Lib.hid (L1.out.grows g); clear g))
    go_ret
    exact ⟨rfl, LE.out.below 0 w rfl⟩
  rw [Bool.eq_false_iff.2 hg] at HGr
  have hgp := VdM.great_parts (Bool.eq_false_iff.2 hg)
  clear hg
  by_cases hm : VdM.may d = true
  case neg =>
    rw [Bool.eq_false_iff.2 hm] at HMy
    clear hm hgp
    go_enter Try.func6, Try.ntmps6
    go_wp2_with (first
      | ((with_reducible refine wpList_load_dk (o := ⟨some 14, _, _, _, _, _⟩) ?_ (.tmp 2) ?_ w.heap.size D ?_ ?_ ?_ ?_); exact rfl; exact rfl; exact rfl; exact L0.out.row 0 _ rfl; exact Ds.out.1)
      | ((with_reducible refine wpList_slice_dk (o := ⟨some 15, _, _, _, _, _⟩) ?_ (.tmp 14) ?_ D ?_ ?_ ?_); exact rfl; exact rfl; exact rfl; exact Ds.out.1)
      | (go_at_call 8; refine HGr.out.mono ?_; rintro e u1 ⟨rfl, g⟩; have Z1 : Hid (w.heap.size + 2 < u1.heap.size) := (by have := Below.size g; simp at this; unfold Hid; omega); have L1 := Lib.hid ((L0.out.grows (Grows.alloc _ _)).grows g); clear g)
      | ((with_reducible refine wpList_loadG_dk (o := ⟨some 18, _, _, _, _, _⟩) ?_ (.tmp 2) ?_ w.heap.size D ?_ ?_ ?_ ?_); exact rfl; exact rfl; exact rfl; exact L1.out.row 0 _ rfl; exact Ds.out.1)
      | (go_at_call 16; refine (HMy.out _ (L1.out.disk 0 rfl HV.out)).mono ?_; rintro e u2 ⟨rfl, g⟩; have Z2 := Lib.hid (Below.size g); have L2 := Lib.hid (L1.out.grows g); clear g)
      | (go_at_call 9; refine (wakes_any _).mono ?_; rintro e u3 ⟨rfl, g⟩; have LE := Lib.hid (L2.out.grows g); clear g))
    go_ret
    exact ⟨rfl, LE.out.below 0 w rfl⟩
  rw [hm] at HMy
  have hmp := VdM.may_parts hm
  obtain ⟨dO, hdO⟩ : ∃ dO : Dk, dO = ⟨d.pages, [], d.bad, true⟩ := ⟨_, rfl⟩
  have mO : VdM.may dO = true := by rw [hdO]; exact VdM.may_of hmp.1 hmp.2.1 (by simp) (fun _ => rfl) (by simp [VdM.mayC]) hmp.2.2.2.2.2
  have nO : dO.pages.length = d.pages.length := by rw [hdO]
  have aO : VdM.atE dO 0 = 30 := by unfold VdM.atE; rw [if_pos ⟨mO, by omega, by rw [nO]; have := hmp.1; omega⟩]; rw [hdO]; rfl
  have aN : VdM.atE dO (d.pages.length : Int) = 2 := by unfold VdM.atE; rw [if_neg (by rw [nO]; omega)]
  have aM : VdM.atE dO (-1) = 2 := by unfold VdM.atE; rw [if_neg (by omega)]
  have RO := Lib.hid (fun W (v : Value) (h : IsDisk (World.heap W).size W v dO) => vread_any v dO 0 W h)
  have RN := Lib.hid (fun W (v : Value) (h : IsDisk (World.heap W).size W v dO) => vread_any v dO d.pages.length W h)
  have eO : VdM.readE dO 0 = 30 ∧ VdM.readP dO 0 = VdM.blank := by unfold VdM.readE VdM.readP; rw [aO]; exact ⟨rfl, rfl⟩
  have eN : VdM.readE dO (d.pages.length : Int) = 2 ∧ VdM.readP dO (d.pages.length : Int) = VdM.blank := by unfold VdM.readE VdM.readP; rw [aN]; exact ⟨rfl, rfl⟩
  rw [eO.1, eO.2] at RO
  rw [eN.1, eN.2] at RN
  have cO : dO.cache.length = 0 := by rw [hdO]; rfl
  have bO : dO.bad.length = d.bad.length := by rw [hdO]
  have WO := Lib.hid (fun W (v : Value) (h : IsDisk (World.heap W).size W v dO) => vwrite_any v dO 0 p W HPl.out h (by rw [nO]; have := hgp.1; omega) (by rw [cO]; omega) (by rw [bO]; have := hgp.2.2; omega))
  have wO : VdM.writeErr dO 0 = 30 ∧ VdM.writeD dO 0 p = dO := by
    have h : VdM.writeErr dO 0 = 30 := by unfold VdM.writeErr; rw [aO, if_neg (by omega)]
    exact ⟨h, by unfold VdM.writeD; rw [h]; rfl⟩
  rw [wO.1, wO.2] at WO
  have WM := Lib.hid (fun W (v : Value) (h : IsDisk (World.heap W).size W v dO) => vwrite_any v dO (-1) p W HPl.out h (by rw [nO]; have := hgp.1; omega) (by rw [cO]; omega) (by rw [bO]; have := hgp.2.2; omega))
  have wM : VdM.writeErr dO (-1) = 2 ∧ VdM.writeD dO (-1) p = dO := by
    have h : VdM.writeErr dO (-1) = 2 := by unfold VdM.writeErr; rw [aM, if_neg (by omega)]
    exact ⟨h, by unfold VdM.writeD; rw [h]; rfl⟩
  rw [wM.1, wM.2] at WM
  have FO := Lib.hid (fun W (v : Value) (h : IsDisk (World.heap W).size W v dO) => vflush_any v dO W h (by rw [nO]; have := hgp.1; omega) (by rw [cO]; omega) (by rw [bO]; have := hgp.2.2; omega))
  have fO : VdM.flushD dO = dO := by unfold VdM.flushD; rw [aO]; rfl
  rw [aO, fO] at FO
  have SO : Hid (∀ (W : World) (D1 D2 : Array Value), IsDisk W.heap.size W (.agg D1) dO → IsDisk W.heap.size W (.agg D2) dO → Calls Try.prog 14 #[.agg D1, .agg D2] W fun e w' => e = .returned (.bool true) ∧ Grows W w') := fun W D1 D2 h1 h2 => by
    have := same_any h1 h2
    rwa [decide_eq_true rfl] at this
  have CP := Lib.hid (fun W (v : Value) (h : IsDisk (World.heap W).size W v d) => rcopy_any v d W h (by have := hgp.1; omega) (by have := hgp.2.1; omega) (by have := hgp.2.2; omega))
  have HdO : Hid (dO = ⟨d.pages, [], d.bad, true⟩) := hdO
  have HOO : Hid (dO.off = true) := by rw [hdO]; rfl
  have HNO := Lib.hid nO
  have HMP := Lib.hid hmp
  have HGP := Lib.hid hgp
  clear mO nO aO aN aM eO eN cO bO wO wM fO hdO hmp hgp hm
  go_enter Try.func6, Try.ntmps6
  go_wp2_with (first
    | ((with_reducible refine wpList_load_dk (o := ⟨some 14, _, _, _, _, _⟩) ?_ (.tmp 2) ?_ w.heap.size D ?_ ?_ ?_ ?_); exact rfl; exact rfl; exact rfl; exact L0.out.row 0 _ rfl; exact Ds.out.1)
    | ((with_reducible refine wpList_slice_dk (o := ⟨some 15, _, _, _, _, _⟩) ?_ (.tmp 14) ?_ D ?_ ?_ ?_); exact rfl; exact rfl; exact rfl; exact Ds.out.1)
    | (go_at_call 8; refine HGr.out.mono ?_; rintro e u1 ⟨rfl, g⟩; have Z1 : Hid (w.heap.size + 2 < u1.heap.size) := (by have := Below.size g; simp at this; unfold Hid; omega); have L1 := Lib.hid ((L0.out.grows (Grows.alloc _ _)).grows g); clear g)
    | ((with_reducible refine wpList_loadG_dk (o := ⟨some 18, _, _, _, _, _⟩) ?_ (.tmp 2) ?_ w.heap.size D ?_ ?_ ?_ ?_); exact rfl; exact rfl; exact rfl; exact L1.out.row 0 _ rfl; exact Ds.out.1)
    | (go_at_call 16; refine (HMy.out _ (L1.out.disk 0 rfl HV.out)).mono ?_; rintro e u2 ⟨rfl, g⟩; have Z2 := Lib.hid (Below.size g); have L2 := Lib.hid (L1.out.grows g); clear g)
    | ((with_reducible refine wpList_load_dk (o := ⟨some 23, _, _, _, _, _⟩) ?_ (.tmp 2) ?_ w.heap.size D ?_ ?_ ?_ ?_); exact rfl; exact rfl; exact rfl; exact L2.out.row 0 _ rfl; exact Ds.out.1)
    | (go_at_call 27; (with_reducible refine (CP.out _ _ (L2.out.disk 0 rfl HV.out)).mono ?_); rintro e u3 ⟨r, rfl, hr, g⟩; obtain ⟨pvC, cvC, bvC, rfl, oc1, oc2, oc3⟩ := hr; obtain ⟨AC, capC, rfl, _⟩ := oc1.els.form; obtain ⟨BC, cbC, rfl, _⟩ := oc3.els.form; obtain ⟨CC, ccC, rfl, _⟩ := oc2.els.form; have hoc : OwnDisk u2.heap.size u3 (.agg #[.slice AC d.pages.length capC, .slice CC d.cache.length ccC, .slice BC d.bad.length cbC, .bool d.off]) d := ⟨_, _, _, rfl, oc1, oc2, oc3⟩; have H4C := Lib.hid (dk_one hoc.disk); clear oc1 oc2 oc3; have Z3 := Lib.hid (Below.size g); have L3 := Lib.hid (L2.out.grows g); have OC_3 := Lib.hid hoc; clear g)
    | ((with_reducible refine wpList_store_dk ?_ (.tmp 5) (.tmp 24) ?_ u3.heap.size #[.slice AC d.pages.length capC, .slice CC d.cache.length ccC, .slice BC d.bad.length cbC, .bool d.off] #[.slice none 0 0, .slice none 0 0, .slice none 0 0, .bool false] ?_ ?_ ?_ ?_ ?_ ?_ ?_); exact rfl; exact rfl; exact rfl; exact rfl; exact H4C.out.1; exact rfl; exact H4C.out.2; exact Row.new u3 _ _; intro u4 hp hg; have g := grown_fresh rfl hg; have Z4 := Lib.hid (Row.lt hp); have L4 := Lib.hid (L3.out.grows g); have OC_4 := Lib.hid (OC_3.out.grows g); have L5 := Lib.hid (L4.out.push hp); have OC_5 := OC_4; have f1 := L5.out.cell 2 rfl 1; have ff1 := L5.out.frozen 2 rfl 1; have x1 := (L5.out.row 2 _ rfl); have L6 := Lib.hid (L5.out.store (setCell_grown _ u3.heap.size 1 (.slice none 0 0)) (Row.set x1 1 (.slice none 0 0)) 2 (by have z1 := Z1.out; have z2 := Z2.out; have z3 := Z3.out; have z4 := Z4.out; intro k r hk hki; match k, hk, hki with | 0, hk, _ => (cases hk; simp only; omega) | 1, hk, _ => (cases hk; simp only; omega) | 2, _, h => exact absurd rfl h | _ + 3, hk, _ => simp at hk) (by have z1 := Z1.out; have z2 := Z2.out; have z3 := Z3.out; have z4 := Z4.out; intro c hc; simp at hc; rcases hc with rfl <;> omega)); have f3 := L6.out.cell 2 rfl 3; have ff3 := L6.out.frozen 2 rfl 3; have x3 := (L6.out.row 2 _ rfl); have L7 := Lib.hid (L6.out.store (setCell_grown _ u3.heap.size 3 (.bool true)) (Row.set x3 3 (.bool true)) 2 (by have z1 := Z1.out; have z2 := Z2.out; have z3 := Z3.out; have z4 := Z4.out; intro k r hk hki; match k, hk, hki with | 0, hk, _ => (cases hk; simp only; omega) | 1, hk, _ => (cases hk; simp only; omega) | 2, _, h => exact absurd rfl h | _ + 3, hk, _ => simp at hk) (by have z1 := Z1.out; have z2 := Z2.out; have z3 := Z3.out; have z4 := Z4.out; intro c hc; simp at hc; rcases hc with rfl <;> omega)); have L8 : Hid (Live [(w.heap.size, 26, D), (w.heap.size + 1, 28, pgA p), (u3.heap.size, 26, #[.slice AC d.pages.length capC, .slice none 0 0, .slice BC d.bad.length cbC, .bool true])] [w] ((u4.setCell ⟨u3.heap.size, 1, none⟩ (.slice none 0 0)).setCell ⟨u3.heap.size, 3, none⟩ (.bool true))) := L7.out; have hob := (OC_5.out.beside (setCell_grown _ u3.heap.size 1 (.slice none 0 0)) x1).beside (setCell_grown _ u3.heap.size 3 (.bool true)) x3; have OO_8 : Hid (OwnDisk u2.heap.size ((u4.setCell ⟨u3.heap.size, 1, none⟩ (.slice none 0 0)).setCell ⟨u3.heap.size, 3, none⟩ (.bool true)) (.agg #[.slice AC d.pages.length capC, .slice none 0 0, .slice BC d.bad.length cbC, .bool true]) dO) := (by obtain ⟨y1, y2, y3, y4, y5, y6, y7⟩ := hob; simp only [Value.agg.injEq, Array.mk.injEq, List.cons.injEq, and_true] at y4; obtain ⟨rfl, rfl, rfl⟩ := y4; rw [HdO.out]; exact ⟨_, _, _, rfl, y5, Own'.nil _ _ _ _ _, y7⟩); have H4O := Lib.hid (dk_one OO_8.out.disk); clear hob x1 x3; have Z90 : Hid (((u4.setCell ⟨u3.heap.size, 1, none⟩ (.slice none 0 0)).setCell ⟨u3.heap.size, 3, none⟩ (.bool true)).heap.size = u4.heap.size) := (by unfold Hid; simp); clear hp hg g)
    | ((with_reducible refine wpList_load_dk (o := ⟨some 28, _, _, _, _, _⟩) ?_ (.tmp 5) ?_ u3.heap.size #[.slice AC d.pages.length capC, .slice none 0 0, .slice BC d.bad.length cbC, .bool true] ?_ ?_ ?_ ?_); exact rfl; exact rfl; exact rfl; exact L8.out.row 2 _ rfl; exact rfl)
    | (go_at_call 12; (with_reducible refine (RO.out _ _ OO_8.out.disk).mono ?_); rintro e u5 ⟨rfl, g⟩; have Z5 := Lib.hid (Below.size g); have L9 := Lib.hid (L8.out.grows g); have OO_9 := Lib.hid (OO_8.out.grows g); clear g)
    | ((with_reducible refine wpList_store_pgrow ?_ (.tmp 6) (.tmp 30) ?_ u5.heap.size VdM.blank VdM.blank ?_ ?_ ?_ ?_ ?_ ?_); exact rfl; exact rfl; exact rfl; exact rfl; exact blank_len; exact blank_len; exact Row.new u5 _ _; intro u6 hp hg; have g := grown_fresh rfl hg; have Z6 := Lib.hid (Row.lt hp); have L10 := Lib.hid (L9.out.grows g); have OO_10 := Lib.hid (OO_9.out.grows g); have L11 := Lib.hid (L10.out.push hp); have OO_11 := OO_10; clear hp hg g)
    | ((with_reducible refine wpList_load_dk (o := ⟨some 33, _, _, _, _, _⟩) ?_ (.tmp 5) ?_ u3.heap.size #[.slice AC d.pages.length capC, .slice none 0 0, .slice BC d.bad.length cbC, .bool true] ?_ ?_ ?_ ?_); exact rfl; exact rfl; exact rfl; exact L11.out.row 2 _ rfl; exact rfl)
    | ((with_reducible refine wpList_load_pgrow (o := ⟨some 34, _, _, _, _, _⟩) ?_ (.tmp 3) ?_ (w.heap.size + 1) p ?_ ?_ ?_ ?_); exact rfl; exact rfl; exact rfl; exact HPl.out; exact L11.out.row 1 _ rfl)
    | (go_at_call 22; (with_reducible refine (WO.out _ _ OO_11.out.disk).mono ?_); rintro e u7 ⟨r, rfl, hr, g⟩; obtain ⟨pvA, cvA, bvA, rfl, oa1, oa2, oa3⟩ := hr; rw [HOO.out]; have hoA : OwnDisk u6.heap.size u7 (.agg #[pvA, cvA, bvA, .bool true]) dO := ⟨_, _, _, by rw [HOO.out], oa1, oa2, oa3⟩; have H4A := Lib.hid (dk_one hoA.disk); clear oa1 oa2 oa3; have Z7 := Lib.hid (Below.size g); have L12 := Lib.hid (L11.out.grows g); have OO_12 := Lib.hid (OO_11.out.grows g); have OA_12 := Lib.hid hoA; clear g)
    | ((with_reducible refine wpList_store_dk ?_ (.tmp 8) (.tmp 36) ?_ u7.heap.size #[pvA, cvA, bvA, .bool true] #[.slice none 0 0, .slice none 0 0, .slice none 0 0, .bool false] ?_ ?_ ?_ ?_ ?_ ?_ ?_); exact rfl; exact rfl; exact rfl; exact rfl; exact H4A.out.1; exact rfl; exact H4A.out.2; exact Row.new u7 _ _; intro u8 hp hg; have g := grown_fresh rfl hg; have Z8 := Lib.hid (Row.lt hp); have L13 := Lib.hid (L12.out.grows g); have OO_13 := Lib.hid (OO_12.out.grows g); have OA_13 := Lib.hid (OA_12.out.grows g); have L14 := Lib.hid (L13.out.push hp); have OO_14 := OO_13; have OA_14 := OA_13; clear hp hg g)
    | ((with_reducible refine wpList_load_dk (o := ⟨some 39, _, _, _, _, _⟩) ?_ (.tmp 5) ?_ u3.heap.size #[.slice AC d.pages.length capC, .slice none 0 0, .slice BC d.bad.length cbC, .bool true] ?_ ?_ ?_ ?_); exact rfl; exact rfl; exact rfl; exact L14.out.row 2 _ rfl; exact rfl)
    | (go_at_call 24; (with_reducible refine (FO.out _ _ OO_14.out.disk).mono ?_); rintro e u9 ⟨r, rfl, hr, g⟩; obtain ⟨pvB, cvB, bvB, rfl, oa1, oa2, oa3⟩ := hr; rw [HOO.out]; have hoB : OwnDisk u8.heap.size u9 (.agg #[pvB, cvB, bvB, .bool true]) dO := ⟨_, _, _, by rw [HOO.out], oa1, oa2, oa3⟩; have H4B := Lib.hid (dk_one hoB.disk); clear oa1 oa2 oa3; have Z9 := Lib.hid (Below.size g); have L15 := Lib.hid (L14.out.grows g); have OO_15 := Lib.hid (OO_14.out.grows g); have OA_15 := Lib.hid (OA_14.out.grows g); have OB_15 := Lib.hid hoB; clear g)
    | ((with_reducible refine wpList_store_dk ?_ (.tmp 10) (.tmp 41) ?_ u9.heap.size #[pvB, cvB, bvB, .bool true] #[.slice none 0 0, .slice none 0 0, .slice none 0 0, .bool false] ?_ ?_ ?_ ?_ ?_ ?_ ?_); exact rfl; exact rfl; exact rfl; exact rfl; exact H4B.out.1; exact rfl; exact H4B.out.2; exact Row.new u9 _ _; intro u10 hp hg; have g := grown_fresh rfl hg; have Z10 := Lib.hid (Row.lt hp); have L16 := Lib.hid (L15.out.grows g); have OO_16 := Lib.hid (OO_15.out.grows g); have OA_16 := Lib.hid (OA_15.out.grows g); have OB_16 := Lib.hid (OB_15.out.grows g); have L17 := Lib.hid (L16.out.push hp); have OO_17 := OO_16; have OA_17 := OA_16; have OB_17 := OB_16; clear hp hg g)
    | ((with_reducible refine wpList_loadG_dk (o := ⟨some 54, _, _, _, _, _⟩) ?_ (.tmp 8) ?_ u7.heap.size #[pvA, cvA, bvA, .bool true] ?_ ?_ ?_ ?_); exact rfl; exact rfl; exact rfl; exact L17.out.row 4 _ rfl; exact rfl)
    | ((with_reducible refine wpList_loadG_dk (o := ⟨some 55, _, _, _, _, _⟩) ?_ (.tmp 5) ?_ u3.heap.size #[.slice AC d.pages.length capC, .slice none 0 0, .slice BC d.bad.length cbC, .bool true] ?_ ?_ ?_ ?_); exact rfl; exact rfl; exact rfl; exact L17.out.row 2 _ rfl; exact rfl)
    | (go_at_call 14; (with_reducible refine (SO.out _ _ _ OA_17.out.disk OO_17.out.disk).mono ?_); rintro e u11 ⟨rfl, g⟩; have Z11 := Lib.hid (Below.size g); have L18 := Lib.hid (L17.out.grows g); have OO_18 := Lib.hid (OO_17.out.grows g); have OA_18 := Lib.hid (OA_17.out.grows g); have OB_18 := Lib.hid (OB_17.out.grows g); clear g)
    | ((with_reducible refine wpList_loadG_dk (o := ⟨some 60, _, _, _, _, _⟩) ?_ (.tmp 10) ?_ u9.heap.size #[pvB, cvB, bvB, .bool true] ?_ ?_ ?_ ?_); exact rfl; exact rfl; exact rfl; exact L18.out.row 5 _ rfl; exact rfl)
    | ((with_reducible refine wpList_loadG_dk (o := ⟨some 61, _, _, _, _, _⟩) ?_ (.tmp 5) ?_ u3.heap.size #[.slice AC d.pages.length capC, .slice none 0 0, .slice BC d.bad.length cbC, .bool true] ?_ ?_ ?_ ?_); exact rfl; exact rfl; exact rfl; exact L18.out.row 2 _ rfl; exact rfl)
    | (go_at_call 14; (with_reducible refine (SO.out _ _ _ OB_18.out.disk OO_18.out.disk).mono ?_); rintro e u12 ⟨rfl, g⟩; have Z12 := Lib.hid (Below.size g); have L19 := Lib.hid (L18.out.grows g); have OO_19 := Lib.hid (OO_18.out.grows g); have OA_19 := Lib.hid (OA_18.out.grows g); have OB_19 := Lib.hid (OB_18.out.grows g); have f0 := L19.out.cell 2 rfl 0; clear g)
    | ((with_reducible refine wpList_load_dk (o := ⟨some 66, _, _, _, _, _⟩) ?_ (.tmp 5) ?_ u3.heap.size #[.slice AC d.pages.length capC, .slice none 0 0, .slice BC d.bad.length cbC, .bool true] ?_ ?_ ?_ ?_); exact rfl; exact rfl; exact rfl; exact L19.out.row 2 _ rfl; exact rfl)
    | (go_at_call 12; (with_reducible refine (RN.out _ _ OO_19.out.disk).mono ?_); rintro e u13 ⟨rfl, g⟩; have Z13 := Lib.hid (Below.size g); have L20 := Lib.hid (L19.out.grows g); have OO_20 := Lib.hid (OO_19.out.grows g); clear g)
    | ((with_reducible refine wpList_load_dk (o := ⟨some 74, _, _, _, _, _⟩) ?_ (.tmp 5) ?_ u3.heap.size #[.slice AC d.pages.length capC, .slice none 0 0, .slice BC d.bad.length cbC, .bool true] ?_ ?_ ?_ ?_); exact rfl; exact rfl; exact rfl; exact L20.out.row 2 _ rfl; exact rfl)
    | ((with_reducible refine wpList_load_pgrow (o := ⟨some 75, _, _, _, _, _⟩) ?_ (.tmp 3) ?_ (w.heap.size + 1) p ?_ ?_ ?_ ?_); exact rfl; exact rfl; exact rfl; exact HPl.out; exact L20.out.row 1 _ rfl)
    | (go_at_call 22; (with_reducible refine (WM.out _ _ OO_20.out.disk).mono ?_); rintro e u14 ⟨r, rfl, hr, g⟩; clear hr; have Z14 := Lib.hid (Below.size g); have L21 := Lib.hid (L20.out.grows g); have OO_21 := Lib.hid (OO_20.out.grows g); clear g)
    | ((with_reducible refine wpList_load_dk (o := ⟨some 85, _, _, _, _, _⟩) ?_ (.tmp 2) ?_ w.heap.size D ?_ ?_ ?_ ?_); exact rfl; exact rfl; exact rfl; exact L21.out.row 0 _ rfl; exact Ds.out.1)
    | (go_at_call 27; (with_reducible refine (CP.out _ _ (L21.out.disk 0 rfl HV.out)).mono ?_); rintro e u15 ⟨r, rfl, hr, g⟩; obtain ⟨pvE, cvE, bvE, rfl, oc1, oc2, oc3⟩ := hr; obtain ⟨AE, capE, rfl, _⟩ := oc1.els.form; obtain ⟨BE, cbE, rfl, _⟩ := oc3.els.form; obtain ⟨CE, ccE, rfl, _⟩ := oc2.els.form; have hoe : OwnDisk u14.heap.size u15 (.agg #[.slice AE d.pages.length capE, .slice CE d.cache.length ccE, .slice BE d.bad.length cbE, .bool d.off]) d := ⟨_, _, _, rfl, oc1, oc2, oc3⟩; have H4E := Lib.hid (dk_one hoe.disk); clear oc1 oc2 oc3; have Z15 := Lib.hid (Below.size g); have L22 := Lib.hid (L21.out.grows g); have OE_22 := Lib.hid hoe; clear g)
    | ((with_reducible refine wpList_store_dk ?_ (.tmp 12) (.tmp 86) ?_ u15.heap.size #[.slice AE d.pages.length capE, .slice CE d.cache.length ccE, .slice BE d.bad.length cbE, .bool d.off] #[.slice none 0 0, .slice none 0 0, .slice none 0 0, .bool false] ?_ ?_ ?_ ?_ ?_ ?_ ?_); exact rfl; exact rfl; exact rfl; exact rfl; exact H4E.out.1; exact rfl; exact H4E.out.2; exact Row.new u15 _ _; intro u16 hp hg; have g := grown_fresh rfl hg; have Z16 := Lib.hid (Row.lt hp); have L23 := Lib.hid (L22.out.grows g); have OE_23 := Lib.hid (OE_22.out.grows g); have L24 := Lib.hid (L23.out.push hp); have OE_24 := OE_23; have g3 := L24.out.cell 6 rfl 3; have gf3 := L24.out.frozen 6 rfl 3; clear hp hg g))
  clear f1 ff1 f3 ff3 f0
  have XR := Lib.hid (L24.out.row 6 _ rfl)
  have X0 := Lib.hid ((L24.out.row 0 _ rfl).far (p := ⟨u15.heap.size, 3, none⟩) (by have z1 := Z1.out; have z2 := Z2.out; have z3 := Z3.out; have z4 := Z4.out; have z90 := Z90.out; have z5 := Z5.out; have z6 := Z6.out; have z7 := Z7.out; have z8 := Z8.out; have z9 := Z9.out; have z10 := Z10.out; have z11 := Z11.out; have z12 := Z12.out; have z13 := Z13.out; have z14 := Z14.out; have z15 := Z15.out; have z16 := Z16.out; simp; omega) (.bool false))
  have X1 := Lib.hid ((L24.out.row 1 _ rfl).far (p := ⟨u15.heap.size, 3, none⟩) (by have z1 := Z1.out; have z2 := Z2.out; have z3 := Z3.out; have z4 := Z4.out; have z90 := Z90.out; have z5 := Z5.out; have z6 := Z6.out; have z7 := Z7.out; have z8 := Z8.out; have z9 := Z9.out; have z10 := Z10.out; have z11 := Z11.out; have z12 := Z12.out; have z13 := Z13.out; have z14 := Z14.out; have z15 := Z15.out; have z16 := Z16.out; simp; omega) (.bool false))
  have XB := Lib.hid ((L24.out.below 0 w rfl).setCell (p := ⟨u15.heap.size, 3, none⟩) (by have z1 := Z1.out; have z2 := Z2.out; have z3 := Z3.out; have z4 := Z4.out; have z90 := Z90.out; have z5 := Z5.out; have z6 := Z6.out; have z7 := Z7.out; have z8 := Z8.out; have z9 := Z9.out; have z10 := Z10.out; have z11 := Z11.out; have z12 := Z12.out; have z13 := Z13.out; have z14 := Z14.out; have z15 := Z15.out; have z16 := Z16.out; simp; omega) (.bool false))
  have XO := Lib.hid (OE_24.out.beside (setCell_grown _ u15.heap.size 3 (.bool false)) XR.out)
  have XS : Hid (u14.heap.size ≤ (u16.setCell ⟨u15.heap.size, 3, none⟩ (.bool false)).heap.size) := by have z1 := Z1.out; have z2 := Z2.out; have z3 := Z3.out; have z4 := Z4.out; have z90 := Z90.out; have z5 := Z5.out; have z6 := Z6.out; have z7 := Z7.out; have z8 := Z8.out; have z9 := Z9.out; have z10 := Z10.out; have z11 := Z11.out; have z12 := Z12.out; have z13 := Z13.out; have z14 := Z14.out; have z15 := Z15.out; have z16 := Z16.out; unfold Hid; simp; omega
  have XR2 : Hid (Row (u16.setCell ⟨u15.heap.size, 3, none⟩ (.bool false)) u15.heap.size 26 #[.slice AE d.pages.length capE, .slice CE d.cache.length ccE, .slice BE d.bad.length cbE, .bool false]) := XR.out.set 3 _
  have HI : Hid (InvO w u15.heap.size u14.heap.size D p d (.slice AE d.pages.length capE) (.slice BE d.bad.length cbE) d.cache (.slice CE d.cache.length ccE) (u16.setCell ⟨u15.heap.size, 3, none⟩ (.bool false))) := by
    obtain ⟨y1, y2, y3, y4, y5, y6, y7⟩ := XO.out
    simp only [Value.agg.injEq, Array.mk.injEq, List.cons.injEq, and_true] at y4
    obtain ⟨rfl, rfl, rfl⟩ := y4
    exact ⟨XR2.out, y6, y5, y7, by have := HGP.out.2.1; omega, HMP.out.2.2.2.2.1, X0.out, X1.out, XB.out, XS.out⟩
  have Hu15.heap.size : Hid (w.heap.size + 1 < u15.heap.size) := by have z1 := Z1.out; have z2 := Z2.out; have z3 := Z3.out; have z4 := Z4.out; have z90 := Z90.out; have z5 := Z5.out; have z6 := Z6.out; have z7 := Z7.out; have z8 := Z8.out; have z9 := Z9.out; have z10 := Z10.out; have z11 := Z11.out; have z12 := Z12.out; have z13 := Z13.out; have z14 := Z14.out; have z15 := Z15.out; have z16 := Z16.out; unfold Hid; omega
  have HBB : Hid (w.heap.size ≤ u14.heap.size) := by have z1 := Z1.out; have z2 := Z2.out; have z3 := Z3.out; have z4 := Z4.out; have z90 := Z90.out; have z5 := Z5.out; have z6 := Z6.out; have z7 := Z7.out; have z8 := Z8.out; have z9 := Z9.out; have z10 := Z10.out; have z11 := Z11.out; have z12 := Z12.out; have z13 := Z13.out; have z14 := Z14.out; have z15 := Z15.out; have z16 := Z16.out; unfold Hid; omega
  clear XR X0 X1 XB XO XS XR2 g3 gf3
  generalize u16.setCell ⟨u15.heap.size, 3, none⟩ (.bool false) = wS at *
  generalize u15.heap.size = tb at *
  generalize u14.heap.size = base at *
  go_loopw [] (fun wr => ∃ c cv, InvO w tb base D p d (.slice AE d.pages.length capE) (.slice BE d.bad.length cbE) c cv wr) (fun wr => measO tb wr)
  case atStart => exact ⟨_, _, HI.out⟩
  case round =>
    obtain ⟨c, cv, h12, hoc, hop, hob, hcl, hmc, h0, h1, hB, hbs⟩ := hrel
    obtain ⟨CV, capV, rfl, _⟩ := hoc.els.form
    have g0 := h12.cell 0; have g1 := h12.cell 1; have gf1 := h12.frozen 1
    have d0 := (h0.cell 0).trans Ds.out.2
    have HM0 : Hid (measO tb wr = 2000 - c.length) := by unfold Hid measO; rw [g1]; rfl
    have H12 := Lib.hid h12; have HOC := Lib.hid hoc; have HOP := Lib.hid hop; have HOB := Lib.hid hob; have HMC := Lib.hid hmc; have H0 := Lib.hid h0; have H1 := Lib.hid h1; have HB := Lib.hid hB; have HBS := Lib.hid hbs
    clear h12 hoc hop hob hmc h0 h1 hB hbs
    have hn32 : 32 ≤ d.pages.length := HMP.out.1
    have hnz : ¬ ((d.pages.length : Int) = 0) := by omega
    have HPNE : Hid (¬ d.pages = []) := fun e => by rw [e] at hn32; simp at hn32
    by_cases hlt : c.length < 2000
    · have hlti : (c.length : Int) < 2000 := by omega
      go_wp2
      refine wp_region_free 12 126 (by kernel_rfl) (by kernel_rfl) rfl (by kernel_rfl) ?_; simp only [List.take_succ_cons, List.take_zero, List.drop_succ_cons, List.drop_zero]
      repeat (apply free_pure rfl; focus (intro vs w hg hd; have q0 := hg.cell g0; have q1 := hg.cell g1; have q2 := hg.cell d0; (try simp [Region.binds] at hd); simp only [execOp, resolve, Option.map_some, Option.map_none, List.map_toArray, List.map_cons, List.map_nil, rho_const, rho_func]; (repeat (conv in rho _ _ _ _ (Operand.tmp _) => whnf)); (try simp only [hd]); go_simp; (repeat (conv in rho _ _ _ _ (Operand.tmp _) => whnf)); (try simp only [hd]); rfl))
      refine free_op (fun v_ _ => v_ = .int .i64 ((c.length % d.pages.length : Nat) : Int)) rfl (dk_mono _) (fun vs wq hg hd => by
        (try simp [Region.binds] at hd); simp only [Does]; simp only [execOp, resolve, Option.map_some, Option.map_none, List.map_toArray, List.map_cons, List.map_nil, rho_const, rho_func]; (repeat (conv in rho _ _ _ _ (Operand.tmp _) => whnf)); (try simp only [hd]); go_simp; (repeat (conv in rho _ _ _ _ (Operand.tmp _) => whnf))
        simp only [if_neg HPNE.out]
        exact ⟨Grows.refl _, by rw [Int.tmod_eq_emod_of_nonneg (by omega)]⟩) ?_
      repeat (apply free_pure rfl; focus (intro vs w hg hd; have q0 := hg.cell g0; have q1 := hg.cell g1; have q2 := hg.cell d0; (try simp [Region.binds] at hd); simp only [execOp, resolve, Option.map_some, Option.map_none, List.map_toArray, List.map_cons, List.map_nil, rho_const, rho_func]; (repeat (conv in rho _ _ _ _ (Operand.tmp _) => whnf)); (try simp only [hd]); go_simp; (repeat (conv in rho _ _ _ _ (Operand.tmp _) => whnf)); (try simp only [hd]); rfl))
      refine free_op (fun v_ _ => v_ = .agg (pgA p)) rfl (dk_mono _) (fun vs wq hg hd => by
        (try simp [Region.binds] at hd)
        refine dk_load 28 (.tmp 3) ⟨w.heap.size + 1, 0, none⟩ _ rfl ?_ (pg_run_load_row HPl.out (Row.grows H1.out (Grows.of_drew hg))) ⟨Grows.refl _, rfl⟩
        (conv in rho _ _ _ _ (Operand.tmp _) => whnf)) ?_
      refine free_op (fun v_ _ => v_ = .agg (wrA (((c.length % d.pages.length : Nat) : Int), p))) rfl (dk_mono _) (fun vs wq hg hd => by
        simp [Region.binds] at hd
        refine does_build_wr (.tmp 100) (.tmp 101) rfl _ p ?_ ?_ HPl.out ⟨Grows.refl _, rfl⟩
        · (conv in rho _ _ _ _ (Operand.tmp _) => whnf)
          simp [hd]
        · (conv in rho _ _ _ _ (Operand.tmp _) => whnf)
          simp [hd]) ?_
      refine free_op (fun v_ w_ => ElsAt 257 writeE [(((c.length % d.pages.length : Nat) : Int), p)] v_ w_) rfl (ElsAt.mono _) (fun vs wq hg hd => by
        simp [Region.binds] at hd
        refine does_slice_wr (.tmp 102) rfl (((c.length % d.pages.length : Nat) : Int), p) ?_ HPl.out ⟨Grows.alloc _ _, ?_⟩
        · (conv in rho _ _ _ _ (Operand.tmp _) => whnf)
          simp [hd]
        · unfold ElsAt
          rw [World.size_alloc]
          exact els_one wq _ HPl.out) ?_
      intro vs w' hg hv; have h1 := hv 1 (by omega); simp at h1; have h11 := hv 11 (by omega); simp at h11; simp only [putL, dstAt, List.range, List.range.loop, if_true, List.getElem?_toArray, List.getElem?_cons_zero, List.getElem?_cons_succ, Option.bind_some, Act.put, List.setIfInBounds_toArray, List.set_cons_zero, List.set_cons_succ]
      have hgW : Grows wr w' := Grows.of_drew hg
      rw [h1]
      have N12 := Lib.hid (Row.grows H12.out hgW); have NOC := Lib.hid (HOC.out.grows hgW); have NOP := Lib.hid (HOP.out.grows hgW); have NOB := Lib.hid (HOB.out.grows hgW); have N0 := Lib.hid (Row.grows H0.out hgW); have N1 := Lib.hid (Row.grows H1.out hgW)
      have NB := Lib.hid (HB.out.trans (Below.mono hgW HB.out.size)); have NBS := Lib.hid (Nat.le_trans HBS.out (Below.size hgW))
      have H11 := Lib.hid h11
      have HMC2 : Hid (VdM.mayC d.pages.length (c ++ [(((c.length % d.pages.length : Nat) : Int), p)]) = true) := by
        have hlt2 := Nat.mod_lt c.length (show 0 < d.pages.length by omega)
        have := HMC.out
        unfold Hid VdM.mayC at *
        rw [List.all_append, this]
        simp
        omega
      clear hv h1 h11 hg g0 g1 gf1 d0
      generalize vs 0 = z0, vs 1 = z1, vs 2 = z2, vs 3 = z3, vs 4 = z4, vs 5 = z5, vs 6 = z6, vs 7 = z7, vs 8 = z8, vs 9 = z9, vs 10 = z10, vs 11 = z11 at *
      go_wp2_with (first
        | ((with_reducible refine wpList_append_els elT_write writeE_one ?_ (.tmp 93) (.tmp 103) ?_ base w'.heap.size c [(((c.length % d.pages.length : Nat) : Int), p)] ?_ ?_ ?_ ?_ ?_ ?_); exact rfl; exact rfl; exact NOC.out; exact H11.out; simp; unfold maxLen; omega; simp; omega; exact NBS.out; intro v5 w5 h51 h52 _; obtain ⟨B5, c5, rfl, _⟩ := h51.els.form; have hm5 : (c ++ [(((c.length % d.pages.length : Nat) : Int), p)]).length = c.length + 1 := (by simp); rw [hm5] at h51 ⊢; have X0 := Lib.hid h51; have X12 := Lib.hid (row_other NOC.out N12.out (by decide) h52); have XP := Lib.hid (own_other NOP.out NOC.out (by decide) h52); have XBd := Lib.hid (own_other NOB.out NOC.out (by decide) h52); have Y0 := Lib.hid (row_other NOC.out N0.out (by decide) h52); have Y1 := Lib.hid (row_other NOC.out N1.out (by decide) h52); have XB := Lib.hid (NB.out.grown h52 NB.out.size (fun j e => Nat.le_trans (HBB.out) (own_low NOC.out j e))); have XS := Lib.hid (Nat.le_trans NBS.out h52.size); have f5 := X12.out.cell 1; have f6 := X12.out.frozen 1; clear h51 h52))
      go_roundw
      case rel =>
        have ht := Hu15.heap.size.out
        exact ⟨_, _, X12.out.set 1 (.slice B5 (c.length + 1) c5), X0.out.aside (setCell_grown _ _ _ _) X12.out (by decide), XP.out.aside (setCell_grown _ _ _ _) X12.out (by decide), XBd.out.aside (setCell_grown _ _ _ _) X12.out (by decide), by simp; omega, HMC2.out, Y0.out.far (by simp; omega) _, Y1.out.far (by simp; omega) _, XB.out.setCell (by simp; omega) _, by rw [World.size_setCell]; exact XS.out⟩
      case measure =>
        have hc := (X12.out.set 1 (.slice B5 (c.length + 1) c5)).cell 1
        have e2 : measO tb (w5.setCell ⟨tb, 1, none⟩ (.slice B5 (c.length + 1) c5)) = 2000 - (c.length + 1) := by unfold measO; rw [hc]; rfl
        rw [e2, HM0.out]
        omega
    · have hc2 : c.length = 2000 := by omega
      have hc2i : (c.length : Int) = 2000 := by omega
      obtain ⟨dF, hdF⟩ : ∃ dF : Dk, dF = ⟨d.pages, c, d.bad, false⟩ := ⟨_, rfl⟩
      have mF : VdM.may dF = true := by rw [hdF]; exact VdM.may_of HMP.out.1 HMP.out.2.1 hcl (fun e => by cases e) HMC.out HMP.out.2.2.2.2.2
      have oF : dF.off = false := by rw [hdF]
      have wF : VdM.writeErr dF 1 = 32 := by
        have ha : VdM.atE dF 1 = 0 := VdM.atE_ok mF oF (by omega) (by rw [hdF]; simp only; omega)
        unfold VdM.writeErr
        rw [if_pos ⟨ha, by rw [hdF]; exact hc2⟩]
      have wD : VdM.writeD dF 1 p = dF := by unfold VdM.writeD; rw [wF]; rfl
      have WF := Lib.hid (fun W (v : Value) (h : IsDisk (World.heap W).size W v dF) => vwrite_any v dF 1 p W HPl.out h (by rw [hdF]; have := HGP.out.1; simp only; omega) (by rw [hdF]; simp only; omega) (by rw [hdF]; have := HGP.out.2.2; simp only; omega))
      rw [wF, wD] at WF
      have MF := Lib.hid (fun W (v : Value) (h : IsDisk (World.heap W).size W v dF) => vmay_any v dF W h)
      rw [mF] at MF
      have SF : Hid (∀ (W : World) (D1 D2 : Array Value), IsDisk W.heap.size W (.agg D1) dF → IsDisk W.heap.size W (.agg D2) dF → Calls Try.prog 14 #[.agg D1, .agg D2] W fun e w' => e = .returned (.bool true) ∧ Grows W w') := fun W D1 D2 h1 h2 => by
        have := same_any h1 h2
        rwa [decide_eq_true rfl] at this
      have OF_200 : Hid (OwnDisk base wr (.agg #[.slice AE d.pages.length capE, .slice CV c.length capV, .slice BE d.bad.length cbE, .bool false]) dF) := by
        unfold Hid
        rw [hdF]
        exact ⟨_, _, _, rfl, HOP.out, HOC.out, HOB.out⟩
      have HOF : Hid (dF.off = false) := oF
      have L200 : Hid (Live [(tb, 26, #[.slice AE d.pages.length capE, .slice CV c.length capV, .slice BE d.bad.length cbE, .bool false]), (w.heap.size + 1, 28, pgA p)] [w] wr) := by
        have h0 : Live [] [w] wr := ⟨fun i r h => by simp at h, fun i c h => by
          cases i with
          | zero => cases h; exact HB.out
          | succ i => simp at h⟩
        exact (h0.push H12.out).push H1.out
      clear mF oF wF wD hdF d0 hc2 hlt
      go_wp2_with (first
        | ((with_reducible refine wpList_load_dk (o := ⟨some 107, _, _, _, _, _⟩) ?_ (.tmp 12) ?_ tb #[.slice AE d.pages.length capE, .slice CV c.length capV, .slice BE d.bad.length cbE, .bool false] ?_ ?_ ?_ ?_); exact rfl; exact rfl; exact rfl; exact L200.out.row 0 _ rfl; exact rfl)
        | ((with_reducible refine wpList_load_pgrow (o := ⟨some 108, _, _, _, _, _⟩) ?_ (.tmp 3) ?_ (w.heap.size + 1) p ?_ ?_ ?_ ?_); exact rfl; exact rfl; exact rfl; exact HPl.out; exact L200.out.row 1 _ rfl)
        | (go_at_call 22; (with_reducible refine (WF.out _ _ OF_200.out.disk).mono ?_); rintro e u201 ⟨r, rfl, hr, g⟩; obtain ⟨pvG, cvG, bvG, rfl, oa1, oa2, oa3⟩ := hr; rw [HOF.out]; have hog : OwnDisk wr.heap.size u201 (.agg #[pvG, cvG, bvG, .bool false]) dF := ⟨_, _, _, by rw [HOF.out], oa1, oa2, oa3⟩; have H4G := Lib.hid (dk_one hog.disk); clear oa1 oa2 oa3; have Z201 := Lib.hid (Below.size g); have L201 := Lib.hid (L200.out.grows g); have OF_201 := Lib.hid (OF_200.out.grows g); have OG_201 := Lib.hid hog; clear g)
        | ((with_reducible refine wpList_store_dk ?_ (.tmp 13) (.tmp 110) ?_ u201.heap.size #[pvG, cvG, bvG, .bool false] #[.slice none 0 0, .slice none 0 0, .slice none 0 0, .bool false] ?_ ?_ ?_ ?_ ?_ ?_ ?_); exact rfl; exact rfl; exact rfl; exact rfl; exact H4G.out.1; exact rfl; exact H4G.out.2; exact Row.new u201 _ _; intro u202 hp hg; have g := grown_fresh rfl hg; have Z202 := Lib.hid (Row.lt hp); have L202 := Lib.hid (L201.out.grows g); have OF_202 := Lib.hid (OF_201.out.grows g); have OG_202 := Lib.hid (OG_201.out.grows g); have L203 := Lib.hid (L202.out.push hp); have OF_203 := OF_202; have OG_203 := OG_202; clear hp hg g)
        | ((with_reducible refine wpList_loadG_dk (o := ⟨some 115, _, _, _, _, _⟩) ?_ (.tmp 13) ?_ u201.heap.size #[pvG, cvG, bvG, .bool false] ?_ ?_ ?_ ?_); exact rfl; exact rfl; exact rfl; exact L203.out.row 2 _ rfl; exact rfl)
        | ((with_reducible refine wpList_loadG_dk (o := ⟨some 116, _, _, _, _, _⟩) ?_ (.tmp 12) ?_ tb #[.slice AE d.pages.length capE, .slice CV c.length capV, .slice BE d.bad.length cbE, .bool false] ?_ ?_ ?_ ?_); exact rfl; exact rfl; exact rfl; exact L203.out.row 0 _ rfl; exact rfl)
        | (go_at_call 14; (with_reducible refine (SF.out _ _ _ OG_203.out.disk OF_203.out.disk).mono ?_); rintro e u203 ⟨rfl, g⟩; have Z203 := Lib.hid (Below.size g); have L204 := Lib.hid (L203.out.grows g); have OF_204 := Lib.hid (OF_203.out.grows g); have OG_204 := Lib.hid (OG_203.out.grows g); clear g)
        | ((with_reducible refine wpList_loadG_dk (o := ⟨some 120, _, _, _, _, _⟩) ?_ (.tmp 12) ?_ tb #[.slice AE d.pages.length capE, .slice CV c.length capV, .slice BE d.bad.length cbE, .bool false] ?_ ?_ ?_ ?_); exact rfl; exact rfl; exact rfl; exact L204.out.row 0 _ rfl; exact rfl)
        | (go_at_call 15; (with_reducible refine (MF.out _ _ OF_204.out.disk).mono ?_); rintro e u204 ⟨rfl, g⟩; have Z204 := Lib.hid (Below.size g); have L205 := Lib.hid (L204.out.grows g); have OF_205 := Lib.hid (OF_204.out.grows g); have OG_205 := Lib.hid (OG_204.out.grows g); clear g)
        | (go_at_call 9; (with_reducible refine (wakes_any _).mono ?_); rintro e u205 ⟨rfl, g⟩; have Z205 := Lib.hid (Below.size g); have L206 := Lib.hid (L205.out.grows g); have OF_206 := Lib.hid (OF_205.out.grows g); have OG_206 := Lib.hid (OG_205.out.grows g); clear g))
      go_ret
      exact ⟨rfl, L206.out.below 0 w rfl⟩
end Go.Proofs.Ytfcghkmhcfgfkaa
