/- VdevTells: all that layer 3 tells, as the document tells it. -/
import Derived.Test.YtfcghkmhcfgfkaaVdFlush
import Derived.Test.YtfcghkmhcfgfkaaVdWaits
import Derived.Test.YtfcghkmhcfgfkaaVdvSame
namespace Go.Proofs.Ytfcghkmhcfgfkaa
open Go.RowKit
set_option linter.unusedVariables false
set_option linter.unusedSimpArgs false
theorem great_two {w : World} {D E : Array Value} {d e : Dk} (h : IsDisk w.heap.size w (.agg D) d) (h' : IsDisk w.heap.size w (.agg E) e) (h4 : D.size = 4) (h4' : E.size = 4) :
    Calls Try.prog 8 #[.slice (some ⟨w.heap.size, 0, none⟩) 2 2] (w.alloc (.cells (D ++ E) 26)) fun r w' => r = .returned (.bool (VdM.great d || VdM.great e)) ∧ Grows (w.alloc (.cells (D ++ E) 26)) w' := by
  have := rgreat_any (.slice (some ⟨w.heap.size, 0, none⟩) 2 2) [d, e] (w.alloc (.cells (D ++ E) 26)) (by
    refine ⟨[D.toList, E.toList], ⟨fun x hx => ?_, _, 2, rfl, Nat.le_refl _, by decide, fun _ => ⟨w.heap.size, 0, rfl, by simp, fun j u hu => ?_⟩⟩, rfl, fun i x d' hx hd => ?_⟩
    · simp only [List.mem_cons, List.not_mem_nil, or_false] at hx
      rcases hx with rfl | rfl
      · simpa using h4
      · simpa using h4'
    · rw [Nat.zero_add, (Row.new w 26 (D ++ E)).cell]
      rw [← Array.getElem?_toList]
      simpa using hu
    · cases i with
      | zero =>
        simp only [List.getElem?_cons_zero, Option.some.injEq] at hx hd
        subst hx hd
        simpa using h.grows (Grows.alloc w _)
      | succ i =>
        cases i with
        | zero =>
          simp only [List.getElem?_cons_succ, List.getElem?_cons_zero, Option.some.injEq] at hx hd
          subst hx hd
          simpa using h'.grows (Grows.alloc w _)
        | succ i => simp at hx)
  simpa using this
theorem wpList_slice_dk2 {w : World} {ops : Array Oper} {rest : List Oper} {o : Oper} {a : Act} {Q : Exit → Act → World → Prop} (hgd : o.guard = none) (x y : Operand) (ho : o.op = .buildSlice 45 2 #[(0, x), (1, y)]) (D E : Array Value) (hx : a.eval x = .agg D) (hy : a.eval y = .agg E) (h4 : D.size = 4) (h5 : E.size = 4)
    (h : wpList Try.prog ops Q rest (a.put o.dst (.slice (some ⟨w.heap.size, 0, none⟩) 2 2)) (w.alloc (.cells (D ++ E) 26))) : wpList Try.prog ops Q (o :: rest) a w :=
  Great.wpList_buildSliceTo hgd 45 26 2 _ ho w.heap.size rfl o.dst rfl Try.underlying45 (D ++ E) (by
    simp only [List.map_toArray, List.map_cons, List.map_nil, hx, hy]
    have := builtSlice_disks [D, E] (by simp [h4, h5]) 2 rfl (by omega) (by omega)
    have e : ([D, E].flatMap (·.toList)).toArray = D ++ E := by apply Array.ext'; simp
    rw [← e]
    exact this) h
theorem val_mono (v : Value) : ∀ u (w w' : World), u = v → Grows w w' → u = v := dk_mono v
theorem does_load {P : Program} {ρ : Operand → Value} {o : Oper} {w : World} {R : Value → World → Prop} (ty : TypeId) (x : Operand) (a : Addr) (v : Value) (ho : o.op = .load ty x) (hx : ρ x = .pointer (some a)) (hl : (loadVar ty a).run P w = .ok v w) (hR : R v w) : Does P o ρ w R := dk_load ty x a v ho hx hl hR
theorem ints_mono (l : List Int) : ∀ v w w', Els 1 intE w.heap.size w v l → Grows w w' → Els 1 intE w'.heap.size w' v l := fun v w w' h hg => h.grows hg
theorem yieldsI {w : World} {l : List Int} {e : Ending} {w' : World} (h : ∃ r, e = .returned r ∧ Own' 3 1 intE w.heap.size w' r l ∧ Grows w w') : ∃ r, e = .returned r ∧ Grows w w' ∧ Els 1 intE w'.heap.size w' r l := by
  obtain ⟨r, h1, h2, h3⟩ := h
  exact ⟨r, h1, h3, h2.els⟩
def ADisk (d : Dk) (v : Value) (w : World) : Prop := ∃ D, v = .agg D ∧ IsDisk w.heap.size w (.agg D) d
theorem ADisk.mono (d : Dk) : ∀ v w w', ADisk d v w → Grows w w' → ADisk d v w' := fun v w w' ⟨D, e, h⟩ hg => ⟨D, e, h.grows hg⟩
theorem yieldsD {w : World} {d : Dk} {e : Ending} {w' : World} (h : ∃ r, e = .returned r ∧ OwnDisk w.heap.size w' r d ∧ Grows w w') : ∃ r, e = .returned r ∧ Grows w w' ∧ ADisk d r w' := by
  obtain ⟨r, h1, h2, h3⟩ := h
  obtain ⟨pv, cv, bv, rfl, o1, o2, o3⟩ := h2
  exact ⟨_, h1, h3, _, rfl, (OwnDisk.disk ⟨_, _, _, rfl, o1, o2, o3⟩)⟩
theorem same_of {w : World} {d : Dk} {u v : Value} (hu : ADisk d u w) (hv : IsDisk w.heap.size w v d) (hvs : ∃ D, v = .agg D) : Calls Try.prog 14 #[u, v] w fun e w' => ∃ r, e = .returned r ∧ Grows w w' ∧ r = .bool true := by
  obtain ⟨D, rfl, h⟩ := hu
  obtain ⟨E, rfl⟩ := hvs
  refine (same_any h hv).mono ?_
  rintro e w' ⟨rfl, g⟩
  exact ⟨_, rfl, g, by rw [decide_eq_true rfl]⟩
set_option maxRecDepth 100000 in
set_option maxHeartbeats 16000000 in
theorem vdevTells_any (v : Value) (d : Dk) (v' : Value) (d' : Dk) (a : Int) (p : Pg) (n : Int) (w : World) (hv : IsDisk w.heap.size w v d) (hv' : IsDisk w.heap.size w v' d') (ba1 : -9223372036854775808 ≤ a) (ba2 : a ≤ 9223372036854775807) (hp : p.length = 256) (bn1 : -9223372036854775808 ≤ n) (bn2 : n ≤ 9223372036854775807) :
    Calls Try.prog 3 #[v, v', .int .i64 a, .agg (pgA p), .int .i64 n] w fun e w' => e = .returned (.bool true) ∧ Below w.heap.size w w' := by
  have HV := Lib.hid hv; have HV2 := Lib.hid hv'; have HPl := Lib.hid hp
  obtain ⟨pv, cv, bv, rfl, hpp, hcc, _⟩ := hv
  have HRP := Lib.hid (VdM.readP_len hpp.1 hcc.1 a)
  clear hpp hcc
  obtain ⟨pv', cv', bv', rfl, _, _, _⟩ := hv'
  clear hp
  obtain ⟨D, hD⟩ : ∃ D, D = #[pv, cv, bv, .bool d.off] := ⟨_, rfl⟩
  obtain ⟨E, hE⟩ : ∃ E, E = #[pv', cv', bv', .bool d'.off] := ⟨_, rfl⟩
  have Ds : Hid (D.size = 4) := by subst hD; exact rfl
  have Es : Hid (E.size = 4) := by subst hE; exact rfl
  rw [← hD] at HV ⊢
  rw [← hE] at HV2 ⊢
  clear hD hE
  have L0 : Hid (Live [(w.heap.size, 26, D), (w.heap.size + 1, 26, E), (w.heap.size + 1 + 1, 28, pgA p)] [w] (((w.alloc (.cells D 26)).alloc (.cells E 26)).alloc (.cells (pgA p) 28))) := by
    have h0 : Live [] [w] w := ⟨fun i r h => by simp at h, fun i c h => by
      cases i with
      | zero => cases h; exact Below.refl _ _
      | succ i => simp at h⟩
    have h1 := (h0.grows (Grows.alloc w (.cells D 26))).push (Row.new w 26 D)
    have h2 := (h1.grows (Grows.alloc _ (.cells E 26))).push (Row.new _ 26 E)
    have h3 := (h2.grows (Grows.alloc _ (.cells (pgA p) 28))).push (Row.new _ 28 (pgA p))
    rw [World.size_alloc, World.size_alloc, World.size_alloc] at h3
    exact h3
  have HGr : Hid _ := Lib.hid (great_two (L0.out.disk 0 rfl HV.out) (L0.out.disk 0 rfl HV2.out) Ds.out Es.out)
  rw [World.size_alloc, World.size_alloc, World.size_alloc] at HGr
  by_cases hg : (VdM.great d || VdM.great d') = true
  · rw [hg] at HGr
    clear hg
    go_enter Try.func3, Try.ntmps3
    go_wp2_with (first
      | ((with_reducible refine wpList_load_dk (o := ⟨some 23, _, _, _, _, _⟩) ?_ (.tmp 5) ?_ w.heap.size D ?_ ?_ ?_ ?_); exact rfl; exact rfl; exact rfl; exact L0.out.row 0 _ rfl; exact Ds.out)
      | ((with_reducible refine wpList_load_dk (o := ⟨some 24, _, _, _, _, _⟩) ?_ (.tmp 6) ?_ (w.heap.size + 1) E ?_ ?_ ?_ ?_); exact rfl; exact rfl; exact rfl; exact L0.out.row 1 _ rfl; exact Es.out)
      | ((with_reducible refine wpList_slice_dk2 (o := ⟨some 25, _, _, _, _, _⟩) ?_ (.tmp 23) (.tmp 24) ?_ D E ?_ ?_ ?_ ?_ ?_); exact rfl; exact rfl; exact rfl; exact rfl; exact Ds.out; exact Es.out)
      | (go_at_call 8; refine HGr.out.mono ?_; rintro e u1 ⟨rfl, g⟩; have Z1 : Hid (w.heap.size + 3 < u1.heap.size) := (by have := Below.size g; simp at this; unfold Hid; omega); have L1 := Lib.hid ((L0.out.grows (Grows.alloc _ _)).grows g); clear g)
      | (go_at_call 9; refine (wakes_any _).mono ?_; rintro e u3 ⟨rfl, g⟩; have LE := Lib.hid (L1.out.grows g); clear g))
    go_ret
    exact ⟨rfl, LE.out.below 0 w rfl⟩
  rw [Bool.eq_false_iff.2 hg] at HGr
  have hgg : VdM.great d = false ∧ VdM.great d' = false := by simpa using hg
  have hgp := VdM.great_parts hgg.1
  clear hg hgg
  have N1 := Lib.hid (fun W => vnew_any n W bn1 bn2)
  have N2 := Lib.hid (fun W => rnew_any n W bn1 bn2)
  have R1 := Lib.hid (fun W (v : Value) (h : IsDisk (World.heap W).size W v d) => vread_any v d a W h)
  have R2 := Lib.hid (fun W (v : Value) (h : IsDisk (World.heap W).size W v d) => rread_any v d a W h)
  have M1 := Lib.hid (fun W (v : Value) (h : IsDisk (World.heap W).size W v d) => vmay_any v d W h)
  have M2 := Lib.hid (fun W (v : Value) (h : IsDisk (World.heap W).size W v d) => rmay_any v d W h)
  have S1 := Lib.hid (fun W (u v : Value) (h : IsDisk (World.heap W).size W u d) (h' : IsDisk W.heap.size W v d') => vsame_any u v d d' W h h')
  have S2 := Lib.hid (fun W (u v : Value) (h : IsDisk (World.heap W).size W u d) (h' : IsDisk W.heap.size W v d') => rsame_any u v d d' W h h')
  have T1 := Lib.hid (fun W (v : Value) (h : IsDisk (World.heap W).size W v d) => vwaits_any v d W h (by have := hgp.2.1; omega))
  have T2 := Lib.hid (fun W (v : Value) (h : IsDisk (World.heap W).size W v d) => rwaits_any v d W h (by have := hgp.2.1; omega))
  have W1 := Lib.hid (fun W (v : Value) (h : IsDisk (World.heap W).size W v d) => vwrite_any v d a p W HPl.out h (by have := hgp.1; omega) (by have := hgp.2.1; omega) (by have := hgp.2.2; omega))
  have W2 := Lib.hid (fun W (v : Value) (h : IsDisk (World.heap W).size W v d) => rwrite_any v d a p W HPl.out h (by have := hgp.1; omega) (by have := hgp.2.1; omega) (by have := hgp.2.2; omega))
  have F1 := Lib.hid (fun W (v : Value) (h : IsDisk (World.heap W).size W v d) => vflush_any v d W h (by have := hgp.1; omega) (by have := hgp.2.1; omega) (by have := hgp.2.2; omega))
  have F2 := Lib.hid (fun W (v : Value) (h : IsDisk (World.heap W).size W v d) => rflush_any v d W h (by have := hgp.1; omega) (by have := hgp.2.1; omega) (by have := hgp.2.2; omega))
  have CV := Lib.hid (fun W (v : Value) (h : IsDisk (World.heap W).size W v d) => vcopy_any v d W h (by have := hgp.1; omega) (by have := hgp.2.1; omega) (by have := hgp.2.2; omega))
  have SD : Hid (∀ (e : Dk) (W : World) (D1 D2 : Array Value), IsDisk W.heap.size W (.agg D1) e → IsDisk W.heap.size W (.agg D2) e → Calls Try.prog 14 #[.agg D1, .agg D2] W fun r w' => r = .returned (.bool true) ∧ Grows W w') := fun e W D1 D2 h1 h2 => by
    have := same_any h1 h2
    rwa [decide_eq_true rfl] at this
  generalize VdM.readP d a = rp at *
  generalize VdM.readE d a = re at *
  generalize newD n = dn at *
  generalize newE n = ne at *
  generalize VdM.may d = my at *
  generalize decide (d = d') = sm at *
  generalize VdM.waits d.cache = ws at *
  generalize VdM.writeD d a p = dw at *
  generalize VdM.writeErr d a = we at *
  generalize VdM.flushD d = df at *
  generalize VdM.atE d 0 = fe at *
  go_enter Try.func3, Try.ntmps3
  go_wp2_with (first
    | ((with_reducible refine wpList_load_dk (o := ⟨some 23, _, _, _, _, _⟩) ?_ (.tmp 5) ?_ w.heap.size D ?_ ?_ ?_ ?_); exact rfl; exact rfl; exact rfl; exact L0.out.row 0 _ rfl; exact Ds.out)
    | ((with_reducible refine wpList_load_dk (o := ⟨some 24, _, _, _, _, _⟩) ?_ (.tmp 6) ?_ (w.heap.size + 1) E ?_ ?_ ?_ ?_); exact rfl; exact rfl; exact rfl; exact L0.out.row 1 _ rfl; exact Es.out)
    | ((with_reducible refine wpList_slice_dk2 (o := ⟨some 25, _, _, _, _, _⟩) ?_ (.tmp 23) (.tmp 24) ?_ D E ?_ ?_ ?_ ?_ ?_); exact rfl; exact rfl; exact rfl; exact rfl; exact Ds.out; exact Es.out)
    | (go_at_call 8; refine HGr.out.mono ?_; rintro e u1 ⟨rfl, g⟩; have Z1 : Hid (w.heap.size + 3 < u1.heap.size) := (by have := Below.size g; simp at this; unfold Hid; omega); have L1 := Lib.hid ((L0.out.grows (Grows.alloc _ _)).grows g); clear g)
    | (go_at_call 10; (with_reducible refine (N1.out _).mono ?_); rintro e u2 ⟨r, rfl, hr, g⟩; obtain ⟨pvN, cvN, bvN, rfl, oa1, oa2, oa3⟩ := hr; have hoN : OwnDisk u1.heap.size u2 (.agg #[pvN, cvN, bvN, .bool dn.off]) dn := ⟨_, _, _, rfl, oa1, oa2, oa3⟩; have H4N := Lib.hid (dk_one hoN.disk); clear oa1 oa2 oa3; have Z2 := Lib.hid (Below.size g); have L2 := Lib.hid (L1.out.grows g); have ON_2 := Lib.hid hoN; clear g)
    | ((with_reducible refine wpList_store_dk ?_ (.tmp 11) (.tmp 31) ?_ u2.heap.size #[pvN, cvN, bvN, .bool dn.off] #[.slice none 0 0, .slice none 0 0, .slice none 0 0, .bool false] ?_ ?_ ?_ ?_ ?_ ?_ ?_); exact rfl; exact rfl; exact rfl; exact rfl; exact H4N.out.1; exact rfl; exact H4N.out.2; exact Row.new u2 _ _; intro u3 hp hg; have g := grown_fresh rfl hg; have Z3 := Lib.hid (Row.lt hp); have L3 := Lib.hid (L2.out.grows g); have ON_3 := Lib.hid (ON_2.out.grows g); have L4 := Lib.hid (L3.out.push hp); have ON_4 := ON_3; clear hp hg g)
    | (go_at_call 11; (with_reducible refine (N2.out _).mono ?_); rintro e u4 ⟨r, rfl, hr, g⟩; obtain ⟨pvM, cvM, bvM, rfl, oa1, oa2, oa3⟩ := hr; have hoM : OwnDisk u3.heap.size u4 (.agg #[pvM, cvM, bvM, .bool dn.off]) dn := ⟨_, _, _, rfl, oa1, oa2, oa3⟩; have H4M := Lib.hid (dk_one hoM.disk); clear oa1 oa2 oa3; have Z4 := Lib.hid (Below.size g); have L5 := Lib.hid (L4.out.grows g); have ON_5 := Lib.hid (ON_4.out.grows g); have OM_5 := Lib.hid hoM; clear g)
    | ((with_reducible refine wpList_store_dk ?_ (.tmp 13) (.tmp 36) ?_ u4.heap.size #[pvM, cvM, bvM, .bool dn.off] #[.slice none 0 0, .slice none 0 0, .slice none 0 0, .bool false] ?_ ?_ ?_ ?_ ?_ ?_ ?_); exact rfl; exact rfl; exact rfl; exact rfl; exact H4M.out.1; exact rfl; exact H4M.out.2; exact Row.new u4 _ _; intro u5 hp hg; have g := grown_fresh rfl hg; have Z5 := Lib.hid (Row.lt hp); have L6 := Lib.hid (L5.out.grows g); have ON_6 := Lib.hid (ON_5.out.grows g); have OM_6 := Lib.hid (OM_5.out.grows g); have L7 := Lib.hid (L6.out.push hp); have ON_7 := ON_6; have OM_7 := OM_6; clear hp hg g)
    | ((with_reducible refine wpList_load_dk (o := ⟨some 39, _, _, _, _, _⟩) ?_ (.tmp 5) ?_ w.heap.size D ?_ ?_ ?_ ?_); exact rfl; exact rfl; exact rfl; exact L7.out.row 0 _ rfl; exact Ds.out)
    | (go_at_call 12; (with_reducible refine (R1.out _ _ (L7.out.disk 0 rfl HV.out)).mono ?_); rintro e u6 ⟨rfl, g⟩; have Z6 := Lib.hid (Below.size g); have L8 := Lib.hid (L7.out.grows g); have ON_8 := Lib.hid (ON_7.out.grows g); have OM_8 := Lib.hid (OM_7.out.grows g); clear g)
    | ((with_reducible refine wpList_store_pgrow ?_ (.tmp 15) (.tmp 42) ?_ u6.heap.size rp VdM.blank ?_ ?_ ?_ ?_ ?_ ?_); exact rfl; exact rfl; exact rfl; exact rfl; exact HRP.out; exact blank_len; exact Row.new u6 _ _; intro u7 hp hg; have g := grown_fresh rfl hg; have Z7 := Lib.hid (Row.lt hp); have L9 := Lib.hid (L8.out.grows g); have ON_9 := Lib.hid (ON_8.out.grows g); have OM_9 := Lib.hid (OM_8.out.grows g); have L10 := Lib.hid (L9.out.push hp); have ON_10 := ON_9; have OM_10 := OM_9; clear hp hg g)
    | ((with_reducible refine wpList_load_dk (o := ⟨some 45, _, _, _, _, _⟩) ?_ (.tmp 5) ?_ w.heap.size D ?_ ?_ ?_ ?_); exact rfl; exact rfl; exact rfl; exact L10.out.row 0 _ rfl; exact Ds.out)
    | (go_at_call 13; (with_reducible refine (R2.out _ _ (L10.out.disk 0 rfl HV.out)).mono ?_); rintro e u8 ⟨rfl, g⟩; have Z8 := Lib.hid (Below.size g); have L11 := Lib.hid (L10.out.grows g); have ON_11 := Lib.hid (ON_10.out.grows g); have OM_11 := Lib.hid (OM_10.out.grows g); clear g)
    | ((with_reducible refine wpList_store_pgrow ?_ (.tmp 17) (.tmp 48) ?_ u8.heap.size rp VdM.blank ?_ ?_ ?_ ?_ ?_ ?_); exact rfl; exact rfl; exact rfl; exact rfl; exact HRP.out; exact blank_len; exact Row.new u8 _ _; intro u9 hp hg; have g := grown_fresh rfl hg; have Z9 := Lib.hid (Row.lt hp); have L12 := Lib.hid (L11.out.grows g); have ON_12 := Lib.hid (ON_11.out.grows g); have OM_12 := Lib.hid (OM_11.out.grows g); have L13 := Lib.hid (L12.out.push hp); have ON_13 := ON_12; have OM_13 := OM_12; clear hp hg g))
  refine wp_region_free 43 144 (by kernel_rfl) (by kernel_rfl) rfl (by kernel_rfl) ?_; simp only [List.take_succ_cons, List.take_zero, List.drop_succ_cons, List.drop_zero]
  refine free_op (fun v_ _ => v_ = .agg #[pvN, cvN, bvN, .bool dn.off]) rfl (val_mono _) (fun vs wq hg hd => does_load 26 (.tmp 11) ⟨u2.heap.size, 0, none⟩ _ rfl (by first | rfl | (conv => lhs; whnf)) (dk_run_load H4N.out.1 ((L13.out.row 3 _ rfl).grows (Grows.of_drew hg))) ⟨Grows.refl _, rfl⟩) ?_
  refine free_op (fun v_ _ => v_ = .agg #[pvM, cvM, bvM, .bool dn.off]) rfl (val_mono _) (fun vs wq hg hd => does_load 26 (.tmp 13) ⟨u4.heap.size, 0, none⟩ _ rfl (by first | rfl | (conv => lhs; whnf)) (dk_run_load H4M.out.1 ((L13.out.row 4 _ rfl).grows (Grows.of_drew hg))) ⟨Grows.refl _, rfl⟩) ?_
  refine free_op (fun v_ _ => v_ = .bool true) rfl (val_mono _) (fun vs wq hg hd => by
    (try simp [Region.binds] at hd); simp only [Does]; simp only [execOp, resolve, Option.map_some, Option.map_none, List.map_toArray, List.map_cons, List.map_nil, rho_const, rho_func]; (repeat (conv in rho _ _ _ _ (Operand.tmp _) => whnf)); (try simp only [hd]); go_simp; (repeat (conv in rho _ _ _ _ (Operand.tmp _) => whnf))
    exact SD.out dn _ _ _ ((ON_13.out.grows (Grows.of_drew hg)).disk) ((OM_13.out.grows (Grows.of_drew hg)).disk)) ?_
  repeat (apply free_pure rfl; focus (intro vs w hg hd;  (try simp [Region.binds] at hd); simp only [execOp, resolve, Option.map_some, Option.map_none, List.map_toArray, List.map_cons, List.map_nil, rho_const, rho_func]; (repeat (conv in rho _ _ _ _ (Operand.tmp _) => whnf)); (try simp only [hd]); go_simp; (repeat (conv in rho _ _ _ _ (Operand.tmp _) => whnf)); (try simp only [hd]); rfl))
  refine free_guarded (fun v_ _ => v_ = .int .i64 ne) (val_mono _) (fun vs wq hg hd => by
    simp [Region.binds] at hd
    refine ⟨?_, ?_⟩
    · simp [Region.wanted, yieldR]
      (repeat (conv in rho _ _ _ _ (Operand.tmp _) => whnf))
      simp [hd]
    · simp only [Does]
      simp only [execOp, resolve, Option.map_some, Option.map_none, List.map_toArray, List.map_cons, List.map_nil, rho_const, rho_func]
      (repeat (conv in rho _ _ _ _ (Operand.tmp _) => whnf))
      (try simp only [hd])
      go_simp
      (repeat (conv in rho _ _ _ _ (Operand.tmp _) => whnf))
      exact Grows.refl _) ?_
  refine free_guarded (fun v_ _ => v_ = .int .i64 ne) (val_mono _) (fun vs wq hg hd => by
    simp [Region.binds] at hd
    refine ⟨?_, ?_⟩
    · simp [Region.wanted, yieldR]
      (repeat (conv in rho _ _ _ _ (Operand.tmp _) => whnf))
      simp [hd]
    · simp only [Does]
      simp only [execOp, resolve, Option.map_some, Option.map_none, List.map_toArray, List.map_cons, List.map_nil, rho_const, rho_func]
      (repeat (conv in rho _ _ _ _ (Operand.tmp _) => whnf))
      (try simp only [hd])
      go_simp
      (repeat (conv in rho _ _ _ _ (Operand.tmp _) => whnf))
      exact Grows.refl _) ?_
  refine free_guarded (fun v_ _ => v_ = .bool false) (val_mono _) (fun vs wq hg hd => by
    simp [Region.binds] at hd
    refine ⟨?_, ?_⟩
    · simp [Region.wanted, yieldR]
      (repeat (conv in rho _ _ _ _ (Operand.tmp _) => whnf))
      simp [hd]
    · simp only [Does]
      simp only [execOp, resolve, Option.map_some, Option.map_none, List.map_toArray, List.map_cons, List.map_nil, rho_const, rho_func]
      (repeat (conv in rho _ _ _ _ (Operand.tmp _) => whnf))
      (try simp only [hd])
      go_simp
      (repeat (conv in rho _ _ _ _ (Operand.tmp _) => whnf))
      exact Grows.refl _) ?_
  repeat (apply free_pure rfl; focus (intro vs w hg hd;  (try simp [Region.binds] at hd); simp only [execOp, resolve, Option.map_some, Option.map_none, List.map_toArray, List.map_cons, List.map_nil, rho_const, rho_func]; (repeat (conv in rho _ _ _ _ (Operand.tmp _) => whnf)); (try simp only [hd]); go_simp; (repeat (conv in rho _ _ _ _ (Operand.tmp _) => whnf)); (try simp only [hd]); rfl))
  refine free_guarded (fun v_ _ => v_ = .agg (pgA rp)) (val_mono _) (fun vs wq hg hd => by
    simp [Region.binds] at hd
    refine ⟨?_, ?_⟩
    · simp [Region.wanted, yieldR]
      (repeat (conv in rho _ _ _ _ (Operand.tmp _) => whnf))
      simp [hd]
    · exact does_load 28 (.tmp 15) ⟨u6.heap.size, 0, none⟩ _ rfl (by first | rfl | (conv => lhs; whnf)) (pg_run_load_row HRP.out ((L13.out.row 5 _ rfl).grows (Grows.of_drew hg))) ⟨Grows.refl _, rfl⟩) ?_
  refine free_guarded (fun v_ _ => v_ = .agg (pgA rp)) (val_mono _) (fun vs wq hg hd => by
    simp [Region.binds] at hd
    refine ⟨?_, ?_⟩
    · simp [Region.wanted, yieldR]
      (repeat (conv in rho _ _ _ _ (Operand.tmp _) => whnf))
      simp [hd]
    · exact does_load 28 (.tmp 17) ⟨u8.heap.size, 0, none⟩ _ rfl (by first | rfl | (conv => lhs; whnf)) (pg_run_load_row HRP.out ((L13.out.row 6 _ rfl).grows (Grows.of_drew hg))) ⟨Grows.refl _, rfl⟩) ?_
  refine free_guarded (fun v_ _ => v_ = .bool false) (val_mono _) (fun vs wq hg hd => by
    simp [Region.binds] at hd
    refine ⟨?_, ?_⟩
    · simp [Region.wanted, yieldR]
      (repeat (conv in rho _ _ _ _ (Operand.tmp _) => whnf))
      simp [hd]
    · simp only [Does]
      simp only [execOp, resolve, Option.map_some, Option.map_none, List.map_toArray, List.map_cons, List.map_nil, rho_const, rho_func]
      (repeat (conv in rho _ _ _ _ (Operand.tmp _) => whnf))
      (try simp only [hd])
      have heq := page_eq_run rp rp HRP.out HRP.out wq
      go_simp
      (repeat (conv in rho _ _ _ _ (Operand.tmp _) => whnf))
      exact Grows.refl _) ?_
  repeat (apply free_pure rfl; focus (intro vs w hg hd;  (try simp [Region.binds] at hd); simp only [execOp, resolve, Option.map_some, Option.map_none, List.map_toArray, List.map_cons, List.map_nil, rho_const, rho_func]; (repeat (conv in rho _ _ _ _ (Operand.tmp _) => whnf)); (try simp only [hd]); go_simp; (repeat (conv in rho _ _ _ _ (Operand.tmp _) => whnf)); (try simp only [hd]); rfl))
  refine free_guarded (fun v_ _ => v_ = .int .i64 re) (val_mono _) (fun vs wq hg hd => by
    simp [Region.binds] at hd
    refine ⟨?_, ?_⟩
    · simp [Region.wanted, yieldR]
      (repeat (conv in rho _ _ _ _ (Operand.tmp _) => whnf))
      simp [hd]
    · simp only [Does]
      simp only [execOp, resolve, Option.map_some, Option.map_none, List.map_toArray, List.map_cons, List.map_nil, rho_const, rho_func]
      (repeat (conv in rho _ _ _ _ (Operand.tmp _) => whnf))
      (try simp only [hd])
      go_simp
      (repeat (conv in rho _ _ _ _ (Operand.tmp _) => whnf))
      exact Grows.refl _) ?_
  refine free_guarded (fun v_ _ => v_ = .int .i64 re) (val_mono _) (fun vs wq hg hd => by
    simp [Region.binds] at hd
    refine ⟨?_, ?_⟩
    · simp [Region.wanted, yieldR]
      (repeat (conv in rho _ _ _ _ (Operand.tmp _) => whnf))
      simp [hd]
    · simp only [Does]
      simp only [execOp, resolve, Option.map_some, Option.map_none, List.map_toArray, List.map_cons, List.map_nil, rho_const, rho_func]
      (repeat (conv in rho _ _ _ _ (Operand.tmp _) => whnf))
      (try simp only [hd])
      go_simp
      (repeat (conv in rho _ _ _ _ (Operand.tmp _) => whnf))
      exact Grows.refl _) ?_
  refine free_guarded (fun v_ _ => v_ = .bool false) (val_mono _) (fun vs wq hg hd => by
    simp [Region.binds] at hd
    refine ⟨?_, ?_⟩
    · simp [Region.wanted, yieldR]
      (repeat (conv in rho _ _ _ _ (Operand.tmp _) => whnf))
      simp [hd]
    · simp only [Does]
      simp only [execOp, resolve, Option.map_some, Option.map_none, List.map_toArray, List.map_cons, List.map_nil, rho_const, rho_func]
      (repeat (conv in rho _ _ _ _ (Operand.tmp _) => whnf))
      (try simp only [hd])
      go_simp
      (repeat (conv in rho _ _ _ _ (Operand.tmp _) => whnf))
      exact Grows.refl _) ?_
  repeat (apply free_pure rfl; focus (intro vs w hg hd;  (try simp [Region.binds] at hd); simp only [execOp, resolve, Option.map_some, Option.map_none, List.map_toArray, List.map_cons, List.map_nil, rho_const, rho_func]; (repeat (conv in rho _ _ _ _ (Operand.tmp _) => whnf)); (try simp only [hd]); go_simp; (repeat (conv in rho _ _ _ _ (Operand.tmp _) => whnf)); (try simp only [hd]); rfl))
  refine free_guarded (fun v_ _ => v_ = .agg D) (val_mono _) (fun vs wq hg hd => by
    simp [Region.binds] at hd
    refine ⟨?_, ?_⟩
    · simp [Region.wanted, yieldR]
      (repeat (conv in rho _ _ _ _ (Operand.tmp _) => whnf))
      simp [hd]
    · exact does_load 26 (.tmp 5) ⟨w.heap.size, 0, none⟩ _ rfl (by first | rfl | (conv => lhs; whnf)) (dk_run_load Ds.out ((L13.out.row 0 _ rfl).grows (Grows.of_drew hg))) ⟨Grows.refl _, rfl⟩) ?_
  refine free_guarded (fun v_ _ => v_ = .bool my) (val_mono _) (fun vs wq hg hd => by
    simp [Region.binds] at hd
    refine ⟨?_, ?_⟩
    · simp [Region.wanted, yieldR]
      (repeat (conv in rho _ _ _ _ (Operand.tmp _) => whnf))
      simp [hd]
    · simp only [Does]
      simp only [execOp, resolve, Option.map_some, Option.map_none, List.map_toArray, List.map_cons, List.map_nil, rho_const, rho_func]
      (repeat (conv in rho _ _ _ _ (Operand.tmp _) => whnf))
      (try simp only [hd])
      go_simp
      (repeat (conv in rho _ _ _ _ (Operand.tmp _) => whnf))
      exact M1.out _ _ ((L13.out.grows (Grows.of_drew hg)).disk 0 rfl HV.out)) ?_
  refine free_guarded (fun v_ _ => v_ = .agg D) (val_mono _) (fun vs wq hg hd => by
    simp [Region.binds] at hd
    refine ⟨?_, ?_⟩
    · simp [Region.wanted, yieldR]
      (repeat (conv in rho _ _ _ _ (Operand.tmp _) => whnf))
      simp [hd]
    · exact does_load 26 (.tmp 5) ⟨w.heap.size, 0, none⟩ _ rfl (by first | rfl | (conv => lhs; whnf)) (dk_run_load Ds.out ((L13.out.row 0 _ rfl).grows (Grows.of_drew hg))) ⟨Grows.refl _, rfl⟩) ?_
  refine free_guarded (fun v_ _ => v_ = .bool my) (val_mono _) (fun vs wq hg hd => by
    simp [Region.binds] at hd
    refine ⟨?_, ?_⟩
    · simp [Region.wanted, yieldR]
      (repeat (conv in rho _ _ _ _ (Operand.tmp _) => whnf))
      simp [hd]
    · simp only [Does]
      simp only [execOp, resolve, Option.map_some, Option.map_none, List.map_toArray, List.map_cons, List.map_nil, rho_const, rho_func]
      (repeat (conv in rho _ _ _ _ (Operand.tmp _) => whnf))
      (try simp only [hd])
      go_simp
      (repeat (conv in rho _ _ _ _ (Operand.tmp _) => whnf))
      exact M2.out _ _ ((L13.out.grows (Grows.of_drew hg)).disk 0 rfl HV.out)) ?_
  refine free_guarded (fun v_ _ => v_ = .bool false) (val_mono _) (fun vs wq hg hd => by
    simp [Region.binds] at hd
    refine ⟨?_, ?_⟩
    · simp [Region.wanted, yieldR]
      (repeat (conv in rho _ _ _ _ (Operand.tmp _) => whnf))
      simp [hd]
    · simp only [Does]
      simp only [execOp, resolve, Option.map_some, Option.map_none, List.map_toArray, List.map_cons, List.map_nil, rho_const, rho_func]
      (repeat (conv in rho _ _ _ _ (Operand.tmp _) => whnf))
      (try simp only [hd])
      go_simp
      (repeat (conv in rho _ _ _ _ (Operand.tmp _) => whnf))
      exact Grows.refl _) ?_
  repeat (apply free_pure rfl; focus (intro vs w hg hd;  (try simp [Region.binds] at hd); simp only [execOp, resolve, Option.map_some, Option.map_none, List.map_toArray, List.map_cons, List.map_nil, rho_const, rho_func]; (repeat (conv in rho _ _ _ _ (Operand.tmp _) => whnf)); (try simp only [hd]); go_simp; (repeat (conv in rho _ _ _ _ (Operand.tmp _) => whnf)); (try simp only [hd]); rfl))
  refine free_guarded (fun v_ _ => v_ = .agg D) (val_mono _) (fun vs wq hg hd => by
    simp [Region.binds] at hd
    refine ⟨?_, ?_⟩
    · simp [Region.wanted, yieldR]
      (repeat (conv in rho _ _ _ _ (Operand.tmp _) => whnf))
      simp [hd]
    · exact does_load 26 (.tmp 5) ⟨w.heap.size, 0, none⟩ _ rfl (by first | rfl | (conv => lhs; whnf)) (dk_run_load Ds.out ((L13.out.row 0 _ rfl).grows (Grows.of_drew hg))) ⟨Grows.refl _, rfl⟩) ?_
  refine free_guarded (fun v_ _ => v_ = .agg E) (val_mono _) (fun vs wq hg hd => by
    simp [Region.binds] at hd
    refine ⟨?_, ?_⟩
    · simp [Region.wanted, yieldR]
      (repeat (conv in rho _ _ _ _ (Operand.tmp _) => whnf))
      simp [hd]
    · exact does_load 26 (.tmp 6) ⟨(w.heap.size + 1), 0, none⟩ _ rfl (by first | rfl | (conv => lhs; whnf)) (dk_run_load Es.out ((L13.out.row 1 _ rfl).grows (Grows.of_drew hg))) ⟨Grows.refl _, rfl⟩) ?_
  refine free_guarded (fun v_ _ => v_ = .bool sm) (val_mono _) (fun vs wq hg hd => by
    simp [Region.binds] at hd
    refine ⟨?_, ?_⟩
    · simp [Region.wanted, yieldR]
      (repeat (conv in rho _ _ _ _ (Operand.tmp _) => whnf))
      simp [hd]
    · simp only [Does]
      simp only [execOp, resolve, Option.map_some, Option.map_none, List.map_toArray, List.map_cons, List.map_nil, rho_const, rho_func]
      (repeat (conv in rho _ _ _ _ (Operand.tmp _) => whnf))
      (try simp only [hd])
      go_simp
      (repeat (conv in rho _ _ _ _ (Operand.tmp _) => whnf))
      exact S1.out _ _ _ ((L13.out.grows (Grows.of_drew hg)).disk 0 rfl HV.out) ((L13.out.grows (Grows.of_drew hg)).disk 0 rfl HV2.out)) ?_
  refine free_guarded (fun v_ _ => v_ = .agg D) (val_mono _) (fun vs wq hg hd => by
    simp [Region.binds] at hd
    refine ⟨?_, ?_⟩
    · simp [Region.wanted, yieldR]
      (repeat (conv in rho _ _ _ _ (Operand.tmp _) => whnf))
      simp [hd]
    · exact does_load 26 (.tmp 5) ⟨w.heap.size, 0, none⟩ _ rfl (by first | rfl | (conv => lhs; whnf)) (dk_run_load Ds.out ((L13.out.row 0 _ rfl).grows (Grows.of_drew hg))) ⟨Grows.refl _, rfl⟩) ?_
  refine free_guarded (fun v_ _ => v_ = .agg E) (val_mono _) (fun vs wq hg hd => by
    simp [Region.binds] at hd
    refine ⟨?_, ?_⟩
    · simp [Region.wanted, yieldR]
      (repeat (conv in rho _ _ _ _ (Operand.tmp _) => whnf))
      simp [hd]
    · exact does_load 26 (.tmp 6) ⟨(w.heap.size + 1), 0, none⟩ _ rfl (by first | rfl | (conv => lhs; whnf)) (dk_run_load Es.out ((L13.out.row 1 _ rfl).grows (Grows.of_drew hg))) ⟨Grows.refl _, rfl⟩) ?_
  refine free_guarded (fun v_ _ => v_ = .bool sm) (val_mono _) (fun vs wq hg hd => by
    simp [Region.binds] at hd
    refine ⟨?_, ?_⟩
    · simp [Region.wanted, yieldR]
      (repeat (conv in rho _ _ _ _ (Operand.tmp _) => whnf))
      simp [hd]
    · simp only [Does]
      simp only [execOp, resolve, Option.map_some, Option.map_none, List.map_toArray, List.map_cons, List.map_nil, rho_const, rho_func]
      (repeat (conv in rho _ _ _ _ (Operand.tmp _) => whnf))
      (try simp only [hd])
      go_simp
      (repeat (conv in rho _ _ _ _ (Operand.tmp _) => whnf))
      exact S2.out _ _ _ ((L13.out.grows (Grows.of_drew hg)).disk 0 rfl HV.out) ((L13.out.grows (Grows.of_drew hg)).disk 0 rfl HV2.out)) ?_
  refine free_guarded (fun v_ _ => v_ = .bool false) (val_mono _) (fun vs wq hg hd => by
    simp [Region.binds] at hd
    refine ⟨?_, ?_⟩
    · simp [Region.wanted, yieldR]
      (repeat (conv in rho _ _ _ _ (Operand.tmp _) => whnf))
      simp [hd]
    · simp only [Does]
      simp only [execOp, resolve, Option.map_some, Option.map_none, List.map_toArray, List.map_cons, List.map_nil, rho_const, rho_func]
      (repeat (conv in rho _ _ _ _ (Operand.tmp _) => whnf))
      (try simp only [hd])
      go_simp
      (repeat (conv in rho _ _ _ _ (Operand.tmp _) => whnf))
      exact Grows.refl _) ?_
  repeat (apply free_pure rfl; focus (intro vs w hg hd;  (try simp [Region.binds] at hd); simp only [execOp, resolve, Option.map_some, Option.map_none, List.map_toArray, List.map_cons, List.map_nil, rho_const, rho_func]; (repeat (conv in rho _ _ _ _ (Operand.tmp _) => whnf)); (try simp only [hd]); go_simp; (repeat (conv in rho _ _ _ _ (Operand.tmp _) => whnf)); (try simp only [hd]); rfl))
  refine free_guarded (fun v_ _ => v_ = .agg D) (val_mono _) (fun vs wq hg hd => by
    simp [Region.binds] at hd
    refine ⟨?_, ?_⟩
    · simp [Region.wanted, yieldR]
      (repeat (conv in rho _ _ _ _ (Operand.tmp _) => whnf))
      simp [hd]
    · exact does_load 26 (.tmp 5) ⟨w.heap.size, 0, none⟩ _ rfl (by first | rfl | (conv => lhs; whnf)) (dk_run_load Ds.out ((L13.out.row 0 _ rfl).grows (Grows.of_drew hg))) ⟨Grows.refl _, rfl⟩) ?_
  refine free_guarded (fun v_ w_ => Els 1 intE w_.heap.size w_ v_ ws) (ints_mono _) (fun vs wq hg hd => by
    simp [Region.binds] at hd
    refine ⟨?_, ?_⟩
    · simp [Region.wanted, yieldR]
      (repeat (conv in rho _ _ _ _ (Operand.tmp _) => whnf))
      simp [hd]
    · simp only [Does]
      simp only [execOp, resolve, Option.map_some, Option.map_none, List.map_toArray, List.map_cons, List.map_nil, rho_const, rho_func]
      (repeat (conv in rho _ _ _ _ (Operand.tmp _) => whnf))
      (try simp only [hd])
      go_simp
      (repeat (conv in rho _ _ _ _ (Operand.tmp _) => whnf))
      exact (T1.out _ _ ((L13.out.grows (Grows.of_drew hg)).disk 0 rfl HV.out)).mono fun e w' h => yieldsI h) ?_
  refine free_guarded (fun v_ _ => v_ = .agg D) (val_mono _) (fun vs wq hg hd => by
    simp [Region.binds] at hd
    refine ⟨?_, ?_⟩
    · simp [Region.wanted, yieldR]
      (repeat (conv in rho _ _ _ _ (Operand.tmp _) => whnf))
      simp [hd]
    · exact does_load 26 (.tmp 5) ⟨w.heap.size, 0, none⟩ _ rfl (by first | rfl | (conv => lhs; whnf)) (dk_run_load Ds.out ((L13.out.row 0 _ rfl).grows (Grows.of_drew hg))) ⟨Grows.refl _, rfl⟩) ?_
  refine free_guarded (fun v_ w_ => Els 1 intE w_.heap.size w_ v_ ws) (ints_mono _) (fun vs wq hg hd => by
    simp [Region.binds] at hd
    refine ⟨?_, ?_⟩
    · simp [Region.wanted, yieldR]
      (repeat (conv in rho _ _ _ _ (Operand.tmp _) => whnf))
      simp [hd]
    · simp only [Does]
      simp only [execOp, resolve, Option.map_some, Option.map_none, List.map_toArray, List.map_cons, List.map_nil, rho_const, rho_func]
      (repeat (conv in rho _ _ _ _ (Operand.tmp _) => whnf))
      (try simp only [hd])
      go_simp
      (repeat (conv in rho _ _ _ _ (Operand.tmp _) => whnf))
      exact (T2.out _ _ ((L13.out.grows (Grows.of_drew hg)).disk 0 rfl HV.out)).mono fun e w' h => yieldsI h) ?_
  refine free_guarded (fun v_ _ => v_ = .bool true) (val_mono _) (fun vs wq hg hd => by
    simp [Region.binds] at hd
    refine ⟨?_, ?_⟩
    · simp [Region.wanted, yieldR]
      (repeat (conv in rho _ _ _ _ (Operand.tmp _) => whnf))
      simp [hd]
    · simp only [Does]
      simp only [execOp, resolve, Option.map_some, Option.map_none, List.map_toArray, List.map_cons, List.map_nil, rho_const, rho_func]
      (repeat (conv in rho _ _ _ _ (Operand.tmp _) => whnf))
      (try simp only [hd])
      go_simp
      (repeat (conv in rho _ _ _ _ (Operand.tmp _) => whnf))
      have hi := rints_any _ _ ws ws wq hd.1 hd.2.1; rw [decide_eq_true rfl] at hi; exact hi) ?_
  refine free_guarded (fun v_ _ => v_ = .bool false) (val_mono _) (fun vs wq hg hd => by
    simp [Region.binds] at hd
    refine ⟨?_, ?_⟩
    · simp [Region.wanted, yieldR]
      (repeat (conv in rho _ _ _ _ (Operand.tmp _) => whnf))
      simp [hd]
    · simp only [Does]
      simp only [execOp, resolve, Option.map_some, Option.map_none, List.map_toArray, List.map_cons, List.map_nil, rho_const, rho_func]
      (repeat (conv in rho _ _ _ _ (Operand.tmp _) => whnf))
      (try simp only [hd])
      go_simp
      (repeat (conv in rho _ _ _ _ (Operand.tmp _) => whnf))
      exact Grows.refl _) ?_
  repeat (apply free_pure rfl; focus (intro vs w hg hd;  (try simp [Region.binds] at hd); simp only [execOp, resolve, Option.map_some, Option.map_none, List.map_toArray, List.map_cons, List.map_nil, rho_const, rho_func]; (repeat (conv in rho _ _ _ _ (Operand.tmp _) => whnf)); (try simp only [hd]); go_simp; (repeat (conv in rho _ _ _ _ (Operand.tmp _) => whnf)); (try simp only [hd]); rfl))
  intro vs w' hg hv; have h42 := hv 42 (by omega); simp at h42; simp only [putL, dstAt, List.range, List.range.loop, if_true, List.getElem?_toArray, List.getElem?_cons_zero, List.getElem?_cons_succ, Option.bind_some, Act.put, List.setIfInBounds_toArray, List.set_cons_zero, List.set_cons_succ]
  rw [h42]
  have L14 := Lib.hid (L13.out.grows (Grows.of_drew hg))
  have hsz := Below.size (Grows.of_drew hg)
  have Z10 : Hid (u9.heap.size ≤ w'.heap.size) := hsz
  clear hv h42 hg hsz
  generalize vs 0 = z0, vs 1 = z1, vs 2 = z2, vs 3 = z3, vs 4 = z4, vs 5 = z5, vs 6 = z6, vs 7 = z7, vs 8 = z8, vs 9 = z9, vs 10 = z10, vs 11 = z11, vs 12 = z12, vs 13 = z13, vs 14 = z14, vs 15 = z15, vs 16 = z16, vs 17 = z17, vs 18 = z18, vs 19 = z19, vs 20 = z20, vs 21 = z21, vs 22 = z22, vs 23 = z23, vs 24 = z24, vs 25 = z25, vs 26 = z26, vs 27 = z27, vs 28 = z28, vs 29 = z29, vs 30 = z30, vs 31 = z31, vs 32 = z32, vs 33 = z33, vs 34 = z34, vs 35 = z35, vs 36 = z36, vs 37 = z37, vs 38 = z38, vs 39 = z39, vs 40 = z40, vs 41 = z41, vs 42 = z42 at *
  go_wp2_with (first
    | ((with_reducible refine wpList_load_dk (o := ⟨some 94, _, _, _, _, _⟩) ?_ (.tmp 5) ?_ w.heap.size D ?_ ?_ ?_ ?_); exact rfl; exact rfl; exact rfl; exact L14.out.row 0 _ rfl; exact Ds.out)
    | ((with_reducible refine wpList_load_pgrow (o := ⟨some 96, _, _, _, _, _⟩) ?_ (.tmp 8) ?_ (w.heap.size + 1 + 1) p ?_ ?_ ?_ ?_); exact rfl; exact rfl; exact rfl; exact HPl.out; exact L14.out.row 2 _ rfl)
    | (go_at_call 22; (with_reducible refine (W1.out _ _ (L14.out.disk 0 rfl HV.out)).mono ?_); rintro e u11 ⟨r, rfl, hr, g⟩; obtain ⟨pvA, cvA, bvA, rfl, oa1, oa2, oa3⟩ := hr; have hoA : OwnDisk w'.heap.size u11 (.agg #[pvA, cvA, bvA, .bool dw.off]) dw := ⟨_, _, _, rfl, oa1, oa2, oa3⟩; have H4A := Lib.hid (dk_one hoA.disk); clear oa1 oa2 oa3; have Z11 := Lib.hid (Below.size g); have L15 := Lib.hid (L14.out.grows g); have OA_15 := Lib.hid hoA; clear g)
    | ((with_reducible refine wpList_store_dk ?_ (.tmp 19) (.tmp 98) ?_ u11.heap.size #[pvA, cvA, bvA, .bool dw.off] #[.slice none 0 0, .slice none 0 0, .slice none 0 0, .bool false] ?_ ?_ ?_ ?_ ?_ ?_ ?_); exact rfl; exact rfl; exact rfl; exact rfl; exact H4A.out.1; exact rfl; exact H4A.out.2; exact Row.new u11 _ _; intro u12 hp hg; have g := grown_fresh rfl hg; have Z12 := Lib.hid (Row.lt hp); have L16 := Lib.hid (L15.out.grows g); have OA_16 := Lib.hid (OA_15.out.grows g); have L17 := Lib.hid (L16.out.push hp); have OA_17 := OA_16; clear hp hg g)
    | ((with_reducible refine wpList_load_dk (o := ⟨some 101, _, _, _, _, _⟩) ?_ (.tmp 5) ?_ w.heap.size D ?_ ?_ ?_ ?_); exact rfl; exact rfl; exact rfl; exact L17.out.row 0 _ rfl; exact Ds.out)
    | ((with_reducible refine wpList_load_pgrow (o := ⟨some 103, _, _, _, _, _⟩) ?_ (.tmp 8) ?_ (w.heap.size + 1 + 1) p ?_ ?_ ?_ ?_); exact rfl; exact rfl; exact rfl; exact HPl.out; exact L17.out.row 2 _ rfl)
    | (go_at_call 23; (with_reducible refine (W2.out _ _ (L17.out.disk 0 rfl HV.out)).mono ?_); rintro e u13 ⟨r, rfl, hr, g⟩; obtain ⟨pvB, cvB, bvB, rfl, oa1, oa2, oa3⟩ := hr; have hoB : OwnDisk u12.heap.size u13 (.agg #[pvB, cvB, bvB, .bool dw.off]) dw := ⟨_, _, _, rfl, oa1, oa2, oa3⟩; have H4B := Lib.hid (dk_one hoB.disk); clear oa1 oa2 oa3; have Z13 := Lib.hid (Below.size g); have L18 := Lib.hid (L17.out.grows g); have OA_18 := Lib.hid (OA_17.out.grows g); have OB_18 := Lib.hid hoB; clear g)
    | ((with_reducible refine wpList_store_dk ?_ (.tmp 20) (.tmp 105) ?_ u13.heap.size #[pvB, cvB, bvB, .bool dw.off] #[.slice none 0 0, .slice none 0 0, .slice none 0 0, .bool false] ?_ ?_ ?_ ?_ ?_ ?_ ?_); exact rfl; exact rfl; exact rfl; exact rfl; exact H4B.out.1; exact rfl; exact H4B.out.2; exact Row.new u13 _ _; intro u14 hp hg; have g := grown_fresh rfl hg; have Z14 := Lib.hid (Row.lt hp); have L19 := Lib.hid (L18.out.grows g); have OA_19 := Lib.hid (OA_18.out.grows g); have OB_19 := Lib.hid (OB_18.out.grows g); have L20 := Lib.hid (L19.out.push hp); have OA_20 := OA_19; have OB_20 := OB_19; clear hp hg g)
    | ((with_reducible refine wpList_load_dk (o := ⟨some 108, _, _, _, _, _⟩) ?_ (.tmp 5) ?_ w.heap.size D ?_ ?_ ?_ ?_); exact rfl; exact rfl; exact rfl; exact L20.out.row 0 _ rfl; exact Ds.out)
    | (go_at_call 24; (with_reducible refine (F1.out _ _ (L20.out.disk 0 rfl HV.out)).mono ?_); rintro e u15 ⟨r, rfl, hr, g⟩; obtain ⟨pvF, cvF, bvF, rfl, oa1, oa2, oa3⟩ := hr; have hoF : OwnDisk u14.heap.size u15 (.agg #[pvF, cvF, bvF, .bool df.off]) df := ⟨_, _, _, rfl, oa1, oa2, oa3⟩; have H4F := Lib.hid (dk_one hoF.disk); clear oa1 oa2 oa3; have Z15 := Lib.hid (Below.size g); have L21 := Lib.hid (L20.out.grows g); have OA_21 := Lib.hid (OA_20.out.grows g); have OB_21 := Lib.hid (OB_20.out.grows g); have OF_21 := Lib.hid hoF; clear g)
    | ((with_reducible refine wpList_store_dk ?_ (.tmp 21) (.tmp 110) ?_ u15.heap.size #[pvF, cvF, bvF, .bool df.off] #[.slice none 0 0, .slice none 0 0, .slice none 0 0, .bool false] ?_ ?_ ?_ ?_ ?_ ?_ ?_); exact rfl; exact rfl; exact rfl; exact rfl; exact H4F.out.1; exact rfl; exact H4F.out.2; exact Row.new u15 _ _; intro u16 hp hg; have g := grown_fresh rfl hg; have Z16 := Lib.hid (Row.lt hp); have L22 := Lib.hid (L21.out.grows g); have OA_22 := Lib.hid (OA_21.out.grows g); have OB_22 := Lib.hid (OB_21.out.grows g); have OF_22 := Lib.hid (OF_21.out.grows g); have L23 := Lib.hid (L22.out.push hp); have OA_23 := OA_22; have OB_23 := OB_22; have OF_23 := OF_22; clear hp hg g)
    | ((with_reducible refine wpList_load_dk (o := ⟨some 113, _, _, _, _, _⟩) ?_ (.tmp 5) ?_ w.heap.size D ?_ ?_ ?_ ?_); exact rfl; exact rfl; exact rfl; exact L23.out.row 0 _ rfl; exact Ds.out)
    | (go_at_call 25; (with_reducible refine (F2.out _ _ (L23.out.disk 0 rfl HV.out)).mono ?_); rintro e u17 ⟨r, rfl, hr, g⟩; obtain ⟨pvG, cvG, bvG, rfl, oa1, oa2, oa3⟩ := hr; have hoG : OwnDisk u16.heap.size u17 (.agg #[pvG, cvG, bvG, .bool df.off]) df := ⟨_, _, _, rfl, oa1, oa2, oa3⟩; have H4G := Lib.hid (dk_one hoG.disk); clear oa1 oa2 oa3; have Z17 := Lib.hid (Below.size g); have L24 := Lib.hid (L23.out.grows g); have OA_24 := Lib.hid (OA_23.out.grows g); have OB_24 := Lib.hid (OB_23.out.grows g); have OF_24 := Lib.hid (OF_23.out.grows g); have OG_24 := Lib.hid hoG; clear g)
    | ((with_reducible refine wpList_store_dk ?_ (.tmp 22) (.tmp 115) ?_ u17.heap.size #[pvG, cvG, bvG, .bool df.off] #[.slice none 0 0, .slice none 0 0, .slice none 0 0, .bool false] ?_ ?_ ?_ ?_ ?_ ?_ ?_); exact rfl; exact rfl; exact rfl; exact rfl; exact H4G.out.1; exact rfl; exact H4G.out.2; exact Row.new u17 _ _; intro u18 hp hg; have g := grown_fresh rfl hg; have Z18 := Lib.hid (Row.lt hp); have L25 := Lib.hid (L24.out.grows g); have OA_25 := Lib.hid (OA_24.out.grows g); have OB_25 := Lib.hid (OB_24.out.grows g); have OF_25 := Lib.hid (OF_24.out.grows g); have OG_25 := Lib.hid (OG_24.out.grows g); have L26 := Lib.hid (L25.out.push hp); have OA_26 := OA_25; have OB_26 := OB_25; have OF_26 := OF_25; have OG_26 := OG_25; clear hp hg g))
  refine wp_region_free 27 144 (by kernel_rfl) (by kernel_rfl) rfl (by kernel_rfl) ?_; simp only [List.take_succ_cons, List.take_zero, List.drop_succ_cons, List.drop_zero]
  refine free_op (fun v_ _ => v_ = .agg #[pvA, cvA, bvA, .bool dw.off]) rfl (val_mono _) (fun vs wq hg hd => does_load 26 (.tmp 19) ⟨u11.heap.size, 0, none⟩ _ rfl (by first | rfl | (conv => lhs; whnf)) (dk_run_load H4A.out.1 ((L26.out.row 7 _ rfl).grows (Grows.of_drew hg))) ⟨Grows.refl _, rfl⟩) ?_
  refine free_op (fun v_ _ => v_ = .agg #[pvB, cvB, bvB, .bool dw.off]) rfl (val_mono _) (fun vs wq hg hd => does_load 26 (.tmp 20) ⟨u13.heap.size, 0, none⟩ _ rfl (by first | rfl | (conv => lhs; whnf)) (dk_run_load H4B.out.1 ((L26.out.row 8 _ rfl).grows (Grows.of_drew hg))) ⟨Grows.refl _, rfl⟩) ?_
  refine free_op (fun v_ _ => v_ = .bool true) rfl (val_mono _) (fun vs wq hg hd => by
    (try simp [Region.binds] at hd); simp only [Does]; simp only [execOp, resolve, Option.map_some, Option.map_none, List.map_toArray, List.map_cons, List.map_nil, rho_const, rho_func]; (repeat (conv in rho _ _ _ _ (Operand.tmp _) => whnf)); (try simp only [hd]); go_simp; (repeat (conv in rho _ _ _ _ (Operand.tmp _) => whnf))
    exact SD.out dw _ _ _ ((OA_26.out.grows (Grows.of_drew hg)).disk) ((OB_26.out.grows (Grows.of_drew hg)).disk)) ?_
  repeat (apply free_pure rfl; focus (intro vs w hg hd;  (try simp [Region.binds] at hd); simp only [execOp, resolve, Option.map_some, Option.map_none, List.map_toArray, List.map_cons, List.map_nil, rho_const, rho_func]; (repeat (conv in rho _ _ _ _ (Operand.tmp _) => whnf)); (try simp only [hd]); go_simp; (repeat (conv in rho _ _ _ _ (Operand.tmp _) => whnf)); (try simp only [hd]); rfl))
  refine free_guarded (fun v_ _ => v_ = .int .i64 we) (val_mono _) (fun vs wq hg hd => by
    simp [Region.binds] at hd
    refine ⟨?_, ?_⟩
    · simp [Region.wanted, yieldR]
      (repeat (conv in rho _ _ _ _ (Operand.tmp _) => whnf))
      simp [hd]
    · simp only [Does]
      simp only [execOp, resolve, Option.map_some, Option.map_none, List.map_toArray, List.map_cons, List.map_nil, rho_const, rho_func]
      (repeat (conv in rho _ _ _ _ (Operand.tmp _) => whnf))
      (try simp only [hd])
      go_simp
      (repeat (conv in rho _ _ _ _ (Operand.tmp _) => whnf))
      exact Grows.refl _) ?_
  refine free_guarded (fun v_ _ => v_ = .int .i64 we) (val_mono _) (fun vs wq hg hd => by
    simp [Region.binds] at hd
    refine ⟨?_, ?_⟩
    · simp [Region.wanted, yieldR]
      (repeat (conv in rho _ _ _ _ (Operand.tmp _) => whnf))
      simp [hd]
    · simp only [Does]
      simp only [execOp, resolve, Option.map_some, Option.map_none, List.map_toArray, List.map_cons, List.map_nil, rho_const, rho_func]
      (repeat (conv in rho _ _ _ _ (Operand.tmp _) => whnf))
      (try simp only [hd])
      go_simp
      (repeat (conv in rho _ _ _ _ (Operand.tmp _) => whnf))
      exact Grows.refl _) ?_
  refine free_guarded (fun v_ _ => v_ = .bool true) (val_mono _) (fun vs wq hg hd => by
    simp [Region.binds] at hd
    refine ⟨?_, ?_⟩
    · simp [Region.wanted, yieldR]
      (repeat (conv in rho _ _ _ _ (Operand.tmp _) => whnf))
      simp [hd]
    · simp only [Does]
      simp only [execOp, resolve, Option.map_some, Option.map_none, List.map_toArray, List.map_cons, List.map_nil, rho_const, rho_func]
      (repeat (conv in rho _ _ _ _ (Operand.tmp _) => whnf))
      (try simp only [hd])
      go_simp
      (repeat (conv in rho _ _ _ _ (Operand.tmp _) => whnf))
      exact Grows.refl _) ?_
  repeat (apply free_pure rfl; focus (intro vs w hg hd;  (try simp [Region.binds] at hd); simp only [execOp, resolve, Option.map_some, Option.map_none, List.map_toArray, List.map_cons, List.map_nil, rho_const, rho_func]; (repeat (conv in rho _ _ _ _ (Operand.tmp _) => whnf)); (try simp only [hd]); go_simp; (repeat (conv in rho _ _ _ _ (Operand.tmp _) => whnf)); (try simp only [hd]); rfl))
  refine free_guarded (fun v_ _ => v_ = .agg #[pvF, cvF, bvF, .bool df.off]) (val_mono _) (fun vs wq hg hd => by
    simp [Region.binds] at hd
    refine ⟨?_, ?_⟩
    · simp [Region.wanted, yieldR]
      (repeat (conv in rho _ _ _ _ (Operand.tmp _) => whnf))
      simp [hd]
    · exact does_load 26 (.tmp 21) ⟨u15.heap.size, 0, none⟩ _ rfl (by first | rfl | (conv => lhs; whnf)) (dk_run_load H4F.out.1 ((L26.out.row 9 _ rfl).grows (Grows.of_drew hg))) ⟨Grows.refl _, rfl⟩) ?_
  refine free_guarded (fun v_ _ => v_ = .agg #[pvG, cvG, bvG, .bool df.off]) (val_mono _) (fun vs wq hg hd => by
    simp [Region.binds] at hd
    refine ⟨?_, ?_⟩
    · simp [Region.wanted, yieldR]
      (repeat (conv in rho _ _ _ _ (Operand.tmp _) => whnf))
      simp [hd]
    · exact does_load 26 (.tmp 22) ⟨u17.heap.size, 0, none⟩ _ rfl (by first | rfl | (conv => lhs; whnf)) (dk_run_load H4G.out.1 ((L26.out.row 10 _ rfl).grows (Grows.of_drew hg))) ⟨Grows.refl _, rfl⟩) ?_
  refine free_guarded (fun v_ _ => v_ = .bool true) (val_mono _) (fun vs wq hg hd => by
    simp [Region.binds] at hd
    refine ⟨?_, ?_⟩
    · simp [Region.wanted, yieldR]
      (repeat (conv in rho _ _ _ _ (Operand.tmp _) => whnf))
      simp [hd]
    · simp only [Does]
      simp only [execOp, resolve, Option.map_some, Option.map_none, List.map_toArray, List.map_cons, List.map_nil, rho_const, rho_func]
      (repeat (conv in rho _ _ _ _ (Operand.tmp _) => whnf))
      (try simp only [hd])
      go_simp
      (repeat (conv in rho _ _ _ _ (Operand.tmp _) => whnf))
      exact SD.out df _ _ _ ((OF_26.out.grows (Grows.of_drew hg)).disk) ((OG_26.out.grows (Grows.of_drew hg)).disk)) ?_
  repeat (apply free_pure rfl; focus (intro vs w hg hd;  (try simp [Region.binds] at hd); simp only [execOp, resolve, Option.map_some, Option.map_none, List.map_toArray, List.map_cons, List.map_nil, rho_const, rho_func]; (repeat (conv in rho _ _ _ _ (Operand.tmp _) => whnf)); (try simp only [hd]); go_simp; (repeat (conv in rho _ _ _ _ (Operand.tmp _) => whnf)); (try simp only [hd]); rfl))
  refine free_guarded (fun v_ _ => v_ = .int .i64 fe) (val_mono _) (fun vs wq hg hd => by
    simp [Region.binds] at hd
    refine ⟨?_, ?_⟩
    · simp [Region.wanted, yieldR]
      (repeat (conv in rho _ _ _ _ (Operand.tmp _) => whnf))
      simp [hd]
    · simp only [Does]
      simp only [execOp, resolve, Option.map_some, Option.map_none, List.map_toArray, List.map_cons, List.map_nil, rho_const, rho_func]
      (repeat (conv in rho _ _ _ _ (Operand.tmp _) => whnf))
      (try simp only [hd])
      go_simp
      (repeat (conv in rho _ _ _ _ (Operand.tmp _) => whnf))
      exact Grows.refl _) ?_
  refine free_guarded (fun v_ _ => v_ = .int .i64 fe) (val_mono _) (fun vs wq hg hd => by
    simp [Region.binds] at hd
    refine ⟨?_, ?_⟩
    · simp [Region.wanted, yieldR]
      (repeat (conv in rho _ _ _ _ (Operand.tmp _) => whnf))
      simp [hd]
    · simp only [Does]
      simp only [execOp, resolve, Option.map_some, Option.map_none, List.map_toArray, List.map_cons, List.map_nil, rho_const, rho_func]
      (repeat (conv in rho _ _ _ _ (Operand.tmp _) => whnf))
      (try simp only [hd])
      go_simp
      (repeat (conv in rho _ _ _ _ (Operand.tmp _) => whnf))
      exact Grows.refl _) ?_
  refine free_guarded (fun v_ _ => v_ = .bool true) (val_mono _) (fun vs wq hg hd => by
    simp [Region.binds] at hd
    refine ⟨?_, ?_⟩
    · simp [Region.wanted, yieldR]
      (repeat (conv in rho _ _ _ _ (Operand.tmp _) => whnf))
      simp [hd]
    · simp only [Does]
      simp only [execOp, resolve, Option.map_some, Option.map_none, List.map_toArray, List.map_cons, List.map_nil, rho_const, rho_func]
      (repeat (conv in rho _ _ _ _ (Operand.tmp _) => whnf))
      (try simp only [hd])
      go_simp
      (repeat (conv in rho _ _ _ _ (Operand.tmp _) => whnf))
      exact Grows.refl _) ?_
  repeat (apply free_pure rfl; focus (intro vs w hg hd;  (try simp [Region.binds] at hd); simp only [execOp, resolve, Option.map_some, Option.map_none, List.map_toArray, List.map_cons, List.map_nil, rho_const, rho_func]; (repeat (conv in rho _ _ _ _ (Operand.tmp _) => whnf)); (try simp only [hd]); go_simp; (repeat (conv in rho _ _ _ _ (Operand.tmp _) => whnf)); (try simp only [hd]); rfl))
  refine free_guarded (fun v_ _ => v_ = .agg D) (val_mono _) (fun vs wq hg hd => by
    simp [Region.binds] at hd
    refine ⟨?_, ?_⟩
    · simp [Region.wanted, yieldR]
      (repeat (conv in rho _ _ _ _ (Operand.tmp _) => whnf))
      simp [hd]
    · exact does_load 26 (.tmp 5) ⟨w.heap.size, 0, none⟩ _ rfl (by first | rfl | (conv => lhs; whnf)) (dk_run_load Ds.out ((L26.out.row 0 _ rfl).grows (Grows.of_drew hg))) ⟨Grows.refl _, rfl⟩) ?_
  refine free_guarded (ADisk d) (ADisk.mono _) (fun vs wq hg hd => by
    simp [Region.binds] at hd
    refine ⟨?_, ?_⟩
    · simp [Region.wanted, yieldR]
      (repeat (conv in rho _ _ _ _ (Operand.tmp _) => whnf))
      simp [hd]
    · simp only [Does]
      simp only [execOp, resolve, Option.map_some, Option.map_none, List.map_toArray, List.map_cons, List.map_nil, rho_const, rho_func]
      (repeat (conv in rho _ _ _ _ (Operand.tmp _) => whnf))
      (try simp only [hd])
      go_simp
      (repeat (conv in rho _ _ _ _ (Operand.tmp _) => whnf))
      exact (CV.out _ _ ((L26.out.grows (Grows.of_drew hg)).disk 0 rfl HV.out)).mono fun e w' h => yieldsD h) ?_
  refine free_guarded (fun v_ _ => v_ = .agg D) (val_mono _) (fun vs wq hg hd => by
    simp [Region.binds] at hd
    refine ⟨?_, ?_⟩
    · simp [Region.wanted, yieldR]
      (repeat (conv in rho _ _ _ _ (Operand.tmp _) => whnf))
      simp [hd]
    · exact does_load 26 (.tmp 5) ⟨w.heap.size, 0, none⟩ _ rfl (by first | rfl | (conv => lhs; whnf)) (dk_run_load Ds.out ((L26.out.row 0 _ rfl).grows (Grows.of_drew hg))) ⟨Grows.refl _, rfl⟩) ?_
  refine free_guarded (fun v_ _ => v_ = .bool true) (val_mono _) (fun vs wq hg hd => by
    simp [Region.binds] at hd
    refine ⟨?_, ?_⟩
    · simp [Region.wanted, yieldR]
      (repeat (conv in rho _ _ _ _ (Operand.tmp _) => whnf))
      simp [hd]
    · simp only [Does]
      simp only [execOp, resolve, Option.map_some, Option.map_none, List.map_toArray, List.map_cons, List.map_nil, rho_const, rho_func]
      (repeat (conv in rho _ _ _ _ (Operand.tmp _) => whnf))
      (try simp only [hd])
      go_simp
      (repeat (conv in rho _ _ _ _ (Operand.tmp _) => whnf))
      exact (same_of hd.1 ((L26.out.grows (Grows.of_drew hg)).disk 0 rfl HV.out) ⟨_, rfl⟩).mono fun e w' ⟨r, h1, h2, h3⟩ => ⟨by rw [h1, h3], h2⟩) ?_
  repeat (apply free_pure rfl; focus (intro vs w hg hd;  (try simp [Region.binds] at hd); simp only [execOp, resolve, Option.map_some, Option.map_none, List.map_toArray, List.map_cons, List.map_nil, rho_const, rho_func]; (repeat (conv in rho _ _ _ _ (Operand.tmp _) => whnf)); (try simp only [hd]); go_simp; (repeat (conv in rho _ _ _ _ (Operand.tmp _) => whnf)); (try simp only [hd]); rfl))
  refine free_guarded (fun v_ _ => v_ = .bool true) (val_mono _) (fun vs wq hg hd => by
    simp [Region.binds] at hd
    refine ⟨?_, ?_⟩
    · simp [Region.wanted, yieldR]
      (repeat (conv in rho _ _ _ _ (Operand.tmp _) => whnf))
      simp [hd]
    · simp only [Does]
      simp only [execOp, resolve, Option.map_some, Option.map_none, List.map_toArray, List.map_cons, List.map_nil, rho_const, rho_func]
      (repeat (conv in rho _ _ _ _ (Operand.tmp _) => whnf))
      (try simp only [hd])
      go_simp
      (repeat (conv in rho _ _ _ _ (Operand.tmp _) => whnf))
      exact wakes_any _) ?_
  repeat (apply free_pure rfl; focus (intro vs w hg hd;  (try simp [Region.binds] at hd); simp only [execOp, resolve, Option.map_some, Option.map_none, List.map_toArray, List.map_cons, List.map_nil, rho_const, rho_func]; (repeat (conv in rho _ _ _ _ (Operand.tmp _) => whnf)); (try simp only [hd]); go_simp; (repeat (conv in rho _ _ _ _ (Operand.tmp _) => whnf)); (try simp only [hd]); rfl))
  intro vs w' hg hv; have h26 := hv 26 (by omega); simp at h26; simp only [putL, dstAt, List.range, List.range.loop, if_true, List.getElem?_toArray, List.getElem?_cons_zero, List.getElem?_cons_succ, Option.bind_some, Act.put, List.setIfInBounds_toArray, List.set_cons_zero, List.set_cons_succ]
  rw [h26]
  have hgF := Lib.hid (L26.out.grows (Grows.of_drew hg))
  clear hv h26
  generalize vs 0 = z0, vs 1 = z1, vs 2 = z2, vs 3 = z3, vs 4 = z4, vs 5 = z5, vs 6 = z6, vs 7 = z7, vs 8 = z8, vs 9 = z9, vs 10 = z10, vs 11 = z11, vs 12 = z12, vs 13 = z13, vs 14 = z14, vs 15 = z15, vs 16 = z16, vs 17 = z17, vs 18 = z18, vs 19 = z19, vs 20 = z20, vs 21 = z21, vs 22 = z22, vs 23 = z23, vs 24 = z24, vs 25 = z25, vs 26 = z26 at *
  go_wp2
  go_ret
  exact ⟨rfl, hgF.out.below 0 w rfl⟩
end Go.Proofs.Ytfcghkmhcfgfkaa
