/- PtrBackAny -/
import Derived.Test.YtnigflobmiiefaaDoorPtWakes
/- The law PtrBack as a call. -/
namespace Go.Proofs.YtnigflobmiiefaaDoor
open Go.RowKit
set_option linter.unusedVariables false
set_option linter.unusedSimpArgs false
attribute [local go_sem high] sliced_cut
attribute [local go_sem] cutA_zero Nat.sub_zero
theorem Bytes.three (W : World) : Bytes (W.heap.size + 1) (W.alloc (.cells #[.int .u8 77, .int .u8 78, .int .u8 79] 5)) (.slice (some ⟨W.heap.size, 0, none⟩) 3 3) [77#8, 78#8, 79#8] :=
  Sl.of_row (heap_alloc_new W _) (Nat.lt_succ_self _) 3 [byteV 77#8, byteV 78#8, byteV 79#8] rfl (Nat.le_refl _) (by decide)
theorem wpList_eqlG_pt {w : World} {ops : Array Oper} {rest : List Oper} {o : Oper} {a : Act} {Q : Exit → Act → World → Prop} (hw : Region.wanted o (yielded ops a.tmps) = true) (y z : Operand) (ty : TypeId) (ho : o.op = .binOp .eql 27 y z ty) (p q : Pt) (hx : a.eval y = .agg (ptA p)) (hy : a.eval z = .agg (ptA q))
    (h : wpList Tryd.prog ops Q rest (a.put o.dst (.bool (decide (p = q)))) w) : wpList Tryd.prog ops Q (o :: rest) a w :=
  wpList_does hw (R := fun v w' => v = .bool (decide (p = q)) ∧ w' = w) (does_eql_pt y z p q ty ho hx hy ⟨rfl, rfl⟩) (by rintro v w' ⟨rfl, rfl⟩; exact h)
theorem same5_true (u v : Value) (a : List (BitVec 8)) (w : World) (hu : Bytes w.heap.size w u a) (hv : Bytes w.heap.size w v a) :
    Calls Tryd.prog 22 #[u, v] w fun e w' => e = .returned (.bool true) ∧ w = w' := by
  have h := same5_any u v a a w hu hv
  rw [beq_self_eq_true] at h
  exact h
theorem mine_cell {base g n c : Nat} {w : World} {l : List (BitVec 8)} (h : Mine base w (.slice (some ⟨g, 0, none⟩) n c) l) (j : Nat) (b : BitVec 8) (hj : l[j]? = some b) : w.cell? ⟨g, j, none⟩ = some (.int .u8 (bI b)) := by
  obtain ⟨A', c', he, _, _, h3⟩ := h.bytes
  have hl := (List.getElem?_eq_some_iff.1 hj).1
  obtain ⟨b', o, h4, _, h6⟩ := h3 (by simp; omega)
  simp only [Value.slice.injEq] at he
  obtain ⟨e, _, _⟩ := he
  rw [← e] at h4
  simp only [Option.some.injEq, Addr.mk.injEq, and_true] at h4
  obtain ⟨rfl, rfl⟩ := h4
  have := h6 j (byteV b) (by simp [hj])
  rwa [Nat.zero_add] at this
set_option maxHeartbeats 8000000 in
set_option maxRecDepth 20000 in
theorem ptrBack_any (x : Pt) (u : Value) (la : List (BitVec 8)) (v : Value) (lb : List (BitVec 8)) (w : World) (hu : Bytes w.heap.size w u la) (hv : Bytes w.heap.size w v lb) (hG : Glob w) :
    Calls Tryd.prog 4 #[.agg (ptA x), u, v] w fun e w' => e = .returned (.bool true) ∧ Below w.heap.size w w' := by
  have HGl := Lib.hid hG
  have HX0 := Lib.hid (Row.new w 27 (ptA x))
  have HG0 := Lib.hid (Grows.alloc w (.cells (ptA x) 27))
  have HU := Lib.hid hu; have HV := Lib.hid hv
  obtain ⟨Au, cu, rfl, u1, u2, _⟩ := hu
  obtain ⟨Av, cv, rfl, v1, v2, _⟩ := hv
  simp only [List.length_map] at u1 v1 HU HV ⊢
  unfold maxLen at u2 v2
  clear hG
  by_cases ha : (100 : Int) < la.length
  · go_enter Tryd.func4, Tryd.ntmps4
    go_wp2_with (first
      | (go_at_call 7; (with_reducible refine (wakes5_any _ (HGl.out.grows HG0.out)).mono ?_); rintro e w5 ⟨rfl, g⟩; have HG5 := Lib.hid (HG0.out.trans g); clear g))
    go_ret
    exact ⟨rfl, HG5.out⟩
  · by_cases hb : (100 : Int) < lb.length
    · go_enter Tryd.func4, Tryd.ntmps4
      go_wp2_with (first
        | (go_at_call 7; (with_reducible refine (wakes5_any _ (HGl.out.grows HG0.out)).mono ?_); rintro e w5 ⟨rfl, g⟩; have HG5 := Lib.hid (HG0.out.trans g); clear g))
      go_ret
      exact ⟨rfl, HG5.out⟩
    · have la100 : la.length ≤ 100 := by omega
      have lb100 : lb.length ≤ 100 := by omega
      have HLA := Lib.hid la100; have HLB := Lib.hid lb100
      have HE1 := Lib.hid (Row.new (w.alloc (.cells (ptA x) 27)) 5 #[])
      have HG1 := Lib.hid (HG0.out.trans (Grows.alloc _ (.cells #[] 5)))
      have HZ1 : Hid ((w.alloc (.cells (ptA x) 27)).heap.size = w.heap.size + 1) := World.size_alloc _ _
      go_enter Tryd.func4, Tryd.ntmps4
      go_wp2_with (first
        | ((with_reducible refine wpList_append_empty (o := ⟨some 23, _, _, _, _, _⟩) ?_ (.tmp 21) (.tmp 22) ?_ w.heap.size (w.heap.size + 1) la ?_ ?_ ?_ ?_ ?_); exact rfl; exact rfl; exact rfl; (have h := HE1.out; rw [HZ1.out] at h; exact h); exact HU.out.below HG1.out; (have := HLA.out; omega); intro r2 w2 g m2; have HM2 := Lib.hid (m2.more (Nat.le_succ w.heap.size)); obtain ⟨A2, c2, rfl, _, _⟩ := m2.form; have HG2 := Lib.hid (HG1.out.trans g); have HX2 := Lib.hid (Row.grows (HX0.out.alloc (.cells #[] 5)) g); clear g m2)
        | ((with_reducible refine wpList_append_mine (o := ⟨some 25, _, _, _, _, _⟩) ?_ (.tmp 23) (.tmp 24) ?_ w.heap.size (w2.heap.size + 1) la [77#8, 78#8, 79#8] ?_ ?_ ?_ ?_ ?_); exact rfl; exact rfl; exact HM2.out.grows (Grows.alloc _ _); exact Bytes.three w2; (have := HLA.out; simp; omega); (have := HG2.out.size; simp; omega); intro r3 w3 m3 g3 _ hf3; obtain ⟨g7, c7, rfl⟩ := hf3 (by simp); have HM3 := Lib.hid m3; have HG3 : Hid (Grows w w3) := Lib.hid (below_mine (HG2.out.trans (Grows.alloc _ _)) (HM2.out.grows (Grows.alloc _ (.cells #[.int .u8 77, .int .u8 78, .int .u8 79] 5))) g3 (Nat.le_refl _) (by have := HG2.out.size; simp; omega)); have HX3 := Lib.hid (HM2.out.grows (Grows.alloc _ (.cells #[.int .u8 77, .int .u8 78, .int .u8 79] 5)) |>.row_kept (HX2.out.alloc _) (by decide) g3); clear m3 g3 hf3))
      have HM3 : Hid (Mine w.heap.size w3 (.slice (some ⟨g7, 0, none⟩) (la.length + 3) c7) (la ++ [77#8, 78#8, 79#8])) := HM3.out
      have hc7 : la.length + 3 ≤ c7 := by
        obtain ⟨A', c', he, h1, _⟩ := HM3.out.form
        simp only [Value.slice.injEq] at he
        obtain ⟨_, _, rfl⟩ := he
        simpa using h1
      have hc7i : (la.length : Int) ≤ c7 := by omega
      have hc7n : la.length ≤ c7 := by omega
      have hc7j : (la.length : Int) + 3 ≤ c7 := by omega
      have HPL : Hid ((PtM.put la x).length = la.length + 17) := by unfold Hid PtM.put; rw [List.length_append, PtM.bytes_length]
      have HTK : Hid ((la ++ [77#8, 78#8, 79#8]).take la.length = la) := List.take_left
      have HTK2 : Hid ((PtM.put la x).take la.length = la) := List.take_left
      have HDR : Hid ((PtM.put la x).drop la.length = PtM.bytes x) := List.drop_left
      refine wp_region_free 7 83 (by kernel_rfl) (by kernel_rfl) rfl (by kernel_rfl) ?_; simp only [List.take_succ_cons, List.take_zero, List.drop_succ_cons, List.drop_zero]
      iterate 4 (apply free_pure rfl; focus (intro vs w hg hd;  (try simp [Region.binds] at hd); simp only [execOp, resolve, Option.map_some, Option.map_none, List.map_toArray, List.map_cons, List.map_nil, rho_const, rho_func]; (repeat (conv in rho _ _ _ _ (Operand.tmp _) => whnf)); (try simp only [hd]); go_simp; (repeat (conv in rho _ _ _ _ (Operand.tmp _) => whnf)); (try simp only [hd]);  rfl))
      refine free_op (fun v_ _ => v_ = .agg (ptA x)) rfl (val_mono' _) (fun vs wq hg hd => by
        (try simp [Region.binds] at hd)
        exact dk_load 27 (.tmp 3) ⟨w.heap.size, 0, none⟩ _ rfl (by first | rfl | (conv => lhs; whnf)) (run_load_pt (Row.grows HX3.out (Grows.of_drew hg))) ⟨Grows.refl _, rfl⟩) ?_
      refine free_op (fun v_ w_ => Mine w.heap.size w_ v_ (PtM.put la x)) rfl (fun v w1 w2 h hg => h.grows hg) (fun vs wq hg hd => by
        have hgq := Grows.of_drew hg
        have htk := Bytes.take (n := la.length) (HM3.out.grows hgq).bytes (by simp)
        rw [HTK.out] at htk
        have hcl := ptput_any _ la x wq htk (by omega) (HGl.out.grows (HG3.out.trans hgq))
        (try simp [Region.binds] at hd); simp only [Does]; simp only [execOp, resolve, Option.map_some, Option.map_none, List.map_toArray, List.map_cons, List.map_nil, rho_const, rho_func]; (repeat (conv in rho _ _ _ _ (Operand.tmp _) => whnf)); (try simp only [hd]); go_simp; (repeat (conv in rho _ _ _ _ (Operand.tmp _) => whnf))
        refine hcl.mono ?_
        rintro e w5 ⟨r, rfl, hr, hg5⟩
        exact ⟨_, rfl, hg5, hr.more (Nat.le_trans HG3.out.size hgq.size)⟩) ?_
      refine free_op (fun v_ w_ => Mine w.heap.size w_ v_ (PtM.put la x)) rfl (fun v w1 w2 h hg => h.grows hg) (fun vs wq hg hd => by
        (try simp [Region.binds] at hd); simp only [Does]; simp only [execOp, resolve, Option.map_some, Option.map_none, List.map_toArray, List.map_cons, List.map_nil, rho_const, rho_func]; (repeat (conv in rho _ _ _ _ (Operand.tmp _) => whnf)); (try simp only [hd]); go_simp; (repeat (conv in rho _ _ _ _ (Operand.tmp _) => whnf))
        exact Grows.refl _) ?_
      intro vs w' hg hv; have h6 := hv 6 (by omega); simp at h6; simp only [putL, dstAt, List.range, List.range.loop, if_true, List.getElem?_toArray, List.getElem?_cons_zero, List.getElem?_cons_succ, Option.bind_some, Act.put, List.setIfInBounds_toArray, List.set_cons_zero, List.set_cons_succ]
      have hgW := Grows.of_drew hg
      have HX4 := Lib.hid (Row.grows HX3.out hgW)
      have HG4 := Lib.hid (HG3.out.trans hgW)
      have HM4 := Lib.hid (HM3.out.grows hgW)
      have HB4 := Lib.hid h6
      clear hv h6 hg hgW
      generalize vs 0 = z0, vs 1 = z1, vs 2 = z2, vs 3 = z3, vs 4 = z4, vs 5 = z5, vs 6 = z6 at *
      obtain ⟨A8, c8, rfl, hc8, hc8m⟩ := HB4.out.form
      rw [HPL.out] at HB4 hc8 ⊢
      have hc8i : (la.length : Int) ≤ c8 := by omega
      have hc8n : la.length ≤ c8 := by omega
      have hw17 : IntKind.i64.wrap ((la.length : Int) + 17) = (la.length : Int) + 17 := IntWalk.i64_in _ (by omega)
      have hl3 : (la.length : Int) < la.length + 3 := by omega
      have hcell : w'.cell? ⟨g7, la.length, none⟩ = some (.int .u8 77) := mine_cell HM4.out la.length 77#8 (by rw [List.getElem?_append_right (Nat.le_refl _), Nat.sub_self]; rfl)
      have HS4 : Hid (Bytes w'.heap.size w' (.slice A8 la.length c8) la) := by
        have h := Bytes.take (n := la.length) HB4.out.bytes (by rw [HPL.out]; omega)
        rw [HTK2.out] at h
        exact h
      have HU4 := Lib.hid ((HU.out.below HG4.out).more HG4.out.size)
      have HCut : Hid (Bytes w'.heap.size (w'.alloc (.cells #[] 5)) (.slice (Option.map (fun x => x.add la.length) A8) 17 (c8 - la.length)) (PtM.bytes x)) := by
        have h := Bytes.cut (l := la.length) (h := la.length + 17) HB4.out.bytes (by omega) (by rw [HPL.out]; exact Nat.le_refl _)
        rw [if_neg (by omega), Nat.add_sub_cancel_left, List.take_of_length_le (by rw [HPL.out]; exact Nat.le_refl _), HDR.out] at h
        exact h.below (Grows.alloc _ _)
      have HBL := Lib.hid (PtM.bytes_length x)
      have HE5 := Lib.hid (Row.new w' 5 #[])
      have HG5 : Hid (Grows w (w'.alloc (.cells #[] 5))) := Grows.trans HG4.out (Grows.alloc w' (.cells #[] 5))
      have HX5 := Lib.hid (HX4.out.alloc (.cells #[] 5))
      have HTP := Lib.hid (PtM.take_put x lb)
      have HTk : Hid (∀ W v, Bytes (World.heap W).size W v (PtM.bytes x ++ lb) → Glob W → Calls Tryd.prog 20 #[v] W fun e w' => ∃ r, e = .returned (.tuple #[.agg (ptA x), r, .int .i64 0]) ∧ Mine W.heap.size w' r lb ∧ Grows W w') := fun W v h hg => by
        have hh := pttake_any v (PtM.bytes x ++ lb) W h (by rw [List.length_append, PtM.bytes_length]; omega) hg
        rw [HTP.out.1, HTP.out.2.1, HTP.out.2.2] at hh
        exact hh
      obtain ⟨cb, hcb⟩ : ∃ cb, cb = PtM.bytes x := ⟨_, rfl⟩
      rw [← hcb] at HTk HBL HCut
      clear hcb HTP HDR HPL
      go_wp2_with (first
        | (go_at_call 22; (with_reducible refine (same5_true (.slice A8 la.length c8) _ la _ HS4.out HU4.out).mono ?_); rintro e w6 ⟨rfl, rfl⟩)
        | ((with_reducible refine wpList_append_empty (o := ⟨some 61, _, _, _, _, _⟩) ?_ (.tmp 56) (.tmp 60) ?_ w'.heap.size w'.heap.size cb ?_ ?_ ?_ ?_ ?_); exact rfl; exact rfl; exact rfl; exact HE5.out; (first | exact HCut.out | (simpa using HCut.out)); (rw [HBL.out]; omega); intro r7 w7 g m7; have HM7 := Lib.hid (m7.more HG4.out.size); obtain ⟨A7, c7', rfl, _, _⟩ := m7.form; have HG7 : Hid (Grows w w7) := Grows.trans HG5.out g; have HX7 := Lib.hid (Row.grows HX5.out g); have HV7 := Lib.hid ((HV.out.below HG7.out).more HG7.out.size); clear g m7)
        | ((with_reducible refine wpList_append_mine (o := ⟨some 63, _, _, _, _, _⟩) ?_ (.tmp 61) (.tmp 62) ?_ w.heap.size w7.heap.size cb lb ?_ ?_ ?_ ?_ ?_); exact rfl; exact rfl; exact HM7.out; exact HV7.out; (have := HLB.out; rw [HBL.out]; omega); exact HG7.out.size; intro r8 w8 m8 g8 _ _; have HG8 : Hid (Grows w w8) := below_mine HG7.out HM7.out g8 (Nat.le_refl _) HG7.out.size; have HX8 := Lib.hid (HM7.out.row_kept HX7.out (by decide) g8); obtain ⟨A9, c9, rfl, _, _⟩ := m8.form; rw [List.length_append] at m8 ⊢; have HM8 := Lib.hid m8; clear m8 g8)
        | (go_at_call 20; (with_reducible refine (HTk.out _ _ HM8.out.bytes (HGl.out.grows HG8.out)).mono ?_); rintro e w9 ⟨r9, rfl, m9, g⟩; obtain ⟨A10, c10, rfl, _, _⟩ := m9.form; have HM9 := Lib.hid m9; have HG9 : Hid (Grows w w9) := Grows.trans HG8.out g; have HX9 := Lib.hid (Row.grows HX8.out g); have RN9 := Lib.hid (Row.new w9 27 #[.int .u8 0, .int .u16 0, .int .u16 0, .int .u32 0, .int .u64 0]); clear m9 g)
        | ((with_reducible refine wpList_store_pt (o := ⟨none, .store _ (.tmp 9) _, _, _, _, _⟩) ?_ (.tmp 9) (.tmp 65) ?_ w9.heap.size x #[.int .u8 0, .int .u16 0, .int .u16 0, .int .u32 0, .int .u64 0] ?_ ?_ ?_ ?_ ?_); exact rfl; exact rfl; exact rfl; exact rfl; exact rfl; exact RN9.out; intro w10 hr10 hg10; have g := grown_fresh rfl hg10; have HG10 : Hid (Grows w w10) := Grows.trans HG9.out g; have HX10 := Lib.hid (Row.grows HX9.out g); have HY10 := Lib.hid hr10; have HM10 := Lib.hid (HM9.out.grows g); have HV10 := Lib.hid ((HV.out.below HG10.out).more HG10.out.size); clear hr10 hg10 g)
        | ((with_reducible refine wpList_loadG_pt (o := ⟨some 71, _, _, _, _, _⟩) ?_ (.tmp 9) ?_ w9.heap.size x ?_ ?_ ?_); exact rfl; exact rfl; exact rfl; exact HY10.out)
        | ((with_reducible refine wpList_loadG_pt (o := ⟨some 72, _, _, _, _, _⟩) ?_ (.tmp 3) ?_ w.heap.size x ?_ ?_ ?_); exact rfl; exact rfl; exact rfl; exact HX10.out)
        | ((with_reducible refine wpList_eqlG_pt (o := ⟨some 73, _, _, _, _, _⟩) ?_ (.tmp 71) (.tmp 72) 27 ?_ x x ?_ ?_ ?_); exact rfl; exact rfl; exact rfl; exact rfl; rw [decide_eq_true rfl])
        | (go_at_call 22; (with_reducible refine (same5_true (.slice A10 lb.length c10) _ lb _ HM10.out.bytes HV10.out).mono ?_); rintro e w11 ⟨rfl, rfl⟩)
        | (go_at_call 7; (with_reducible refine (wakes5_any _ (HGl.out.grows HG10.out)).mono ?_); rintro e w12 ⟨rfl, g⟩; have HG12 : Hid (Grows w w12) := Grows.trans HG10.out g; clear g))
      go_ret
      exact ⟨rfl, HG12.out⟩
end Go.Proofs.YtnigflobmiiefaaDoor
