/- LfPut -/
import Derived.Test.YthdncpkmhodokaaDoorLfA
import Derived.Test.YthdncpkmhodokaaDoorBaseA
import Derived.Test.YthdncpkmhodokaaDoorPackPb
import Derived.Test.YthdncpkmhodokaaDoorPackPut
import Derived.Test.YthdncpkmhodokaaDoorPtPut
import Derived.Test.YthdncpkmhodokaaDoorPtA
/- An item's bytes behind others, as leaf puts them. -/
namespace Go.Proofs.YthdncpkmhodokaaDoor
open Go.RowKit
set_option linter.unusedVariables false
set_option linter.unusedSimpArgs false
theorem putBytes_len (b s : List (BitVec 8)) : (PackM.putBytes b s).length ≤ b.length + 256 := by
  unfold PackM.putBytes
  rw [List.length_append, List.length_cons, List.length_take]; omega
theorem put_len (b : List (BitVec 8)) (n : BitVec 64) (k : Int) : (PackM.put b n k).length ≤ b.length + 8 := by
  unfold PackM.put
  have := PackM.wd_hi k
  rw [List.length_append, Num.bytes_length]; omega
set_option maxHeartbeats 4000000 in
theorem lput_any (v : Value) (b : List (BitVec 8)) (r : Raw) (x : It) (w : World) (hv : Bytes w.heap.size w v b) (hr : RawIs w.heap.size w r x) (hok : LeafM.ok x = true) (hl : b.length ≤ 800000) (hG : Glob w) :
    Calls Tryd.prog 20 #[v, .agg (rawA r)] w fun e w' => ∃ q, e = .returned q ∧ Mine w.heap.size w' q (LeafM.step b x) ∧ Grows w w' := by
  have HX := Lib.hid (Row.new w 45 (rawA r))
  have HG := Lib.hid (Grows.alloc w (.cells (rawA r) 45))
  have HGl := Lib.hid hG
  have HR := Lib.hid hr
  have HP := Lib.hid (fun W (h : Row W w.heap.size 45 (rawA r)) => (raw_at (rawA_row h)).2.2.2.2)
  obtain ⟨l1, e1⟩ : ∃ l1, l1 = PackM.putBytes b x.key := ⟨_, rfl⟩
  have n1 : l1.length ≤ 800256 := by rw [e1]; have := putBytes_len b x.key; omega
  have H1 := Lib.hid (putBytes_any v (.slice r.ka r.kn r.kc) b x.key _ (hv.below HG.out |>.more HG.out.size) (hr.grows HG.out).1 (by omega))
  rw [← e1] at H1
  have u0 : uI 0#64 = 0 := rfl
  have u1 : uI 1#64 = 1 := rfl
  have hov := hr.2.2.1
  have hsz := hr.2.2.2
  obtain ⟨A0, c0, rfl, _, _, _⟩ := hv
  simp only [List.length_map] at H1 ⊢
  clear hr hG
  by_cases hn : x.over = PtM.none
  · have HN := Lib.hid (fun W => none_any r.over W)
    rw [decide_eq_true (p := r.over = PtM.none) (by rw [hov]; exact hn)] at HN
    obtain ⟨l2, e2⟩ : ∃ l2, l2 = PackM.put l1 0#64 1 := ⟨_, rfl⟩
    have n2 : l2.length ≤ 800264 := by rw [e2]; have := put_len l1 0#64 1; omega
    obtain ⟨l3, e3⟩ : ∃ l3, l3 = PackM.putBytes l2 x.val := ⟨_, rfl⟩
    have HS : Hid (LeafM.step b x = l3) := by unfold Hid; rw [LeafM.step_none hok b hn, e3, e2, e1]
    have H2 := Lib.hid (fun q W (h : Bytes (World.heap W).size W q l1) => put_any q l1 0#64 1 W h (by omega) (by omega) (by omega))
    rw [u0, ← e2] at H2
    have H3 := Lib.hid (fun q W (h : Bytes (World.heap W).size W q l2) (hg : Grows w W) => putBytes_any q (.slice r.va r.vn r.vc) l2 x.val W h (HR.out.grows hg).2.1 (by omega))
    rw [← e3] at H3
    clear e1 e2 e3 u0 u1 hov hsz hok hn
    go_enter Tryd.func20, Tryd.ntmps20
    go_wp2_with (first
      | (go_at_call 35; (with_reducible refine H1.out.mono ?_); rintro e w2 ⟨q, rfl, hq, hg⟩; obtain ⟨A2, c2, rfl, _, _⟩ := hq.form; have G2 := Lib.hid (HG.out.trans hg); have M2 := Lib.hid (hq.more HG.out.size); have X2 := Lib.hid (Row.grows HX.out hg); have P2 := Lib.hid (HP.out _ X2.out); clear hq hg)
      | ((with_reducible refine wpList_load_ptAt (op := ⟨some 10, _, _, _, _, _⟩) ?_ (.tmp 9) ?_ w.heap.size 2 r.over ?_ ?_ ?_); exact rfl; exact rfl; exact rfl; (rw [Nat.zero_add] at P2; exact P2.out))
      | (go_at_call 36; (with_reducible refine (HN.out _).mono ?_); rintro e w3 ⟨rfl, hg⟩; have G3 := Lib.hid (G2.out.trans hg); have M3 := Lib.hid (M2.out.grows hg); have X3 := Lib.hid (Row.grows X2.out hg); have x1 := (X3.out.cell 1).trans (rawA_1 r); clear hg))
    refine wp_region_free 6 28 (by kernel_rfl) (by kernel_rfl) rfl (by kernel_rfl) ?_; simp only [List.take_succ_cons, List.take_zero, List.drop_succ_cons, List.drop_zero]
    iterate 1 (apply free_pure rfl; focus (intro vs w hg hd;  (try simp [Region.binds] at hd); simp only [execOp, resolve, Option.map_some, Option.map_none, List.map_toArray, List.map_cons, List.map_nil, rho_const, rho_func]; (repeat (conv in rho _ _ _ _ (Operand.tmp _) => whnf)); (try simp only [hd]); go_simp; (repeat (conv in rho _ _ _ _ (Operand.tmp _) => whnf)); (try simp only [hd]);  rfl))
    refine free_op (fun v_ w_ => Mine w.heap.size w_ v_ l2) rfl (fun v a b h hg => h.grows hg) (fun vs wq hg hd => by
      have hgq := Grows.of_drew hg
      have hcl := H2.out _ wq (M3.out.grows hgq).bytes
      (try simp [Region.binds] at hd); simp only [Does]; simp only [execOp, resolve, Option.map_some, Option.map_none, List.map_toArray, List.map_cons, List.map_nil, rho_const, rho_func]; (repeat (conv in rho _ _ _ _ (Operand.tmp _) => whnf)); (try simp only [hd]); go_simp; (repeat (conv in rho _ _ _ _ (Operand.tmp _) => whnf))
      refine hcl.mono ?_
      rintro e w5 ⟨q, rfl, hq, hg5⟩
      exact ⟨_, rfl, hg5, hq.more (Nat.le_trans G3.out.size hgq.size)⟩) ?_
    iterate 2 (apply free_pure rfl; focus (intro vs w hg hd; have q0 := hg.cell x1; (try simp [Region.binds] at hd); simp only [execOp, resolve, Option.map_some, Option.map_none, List.map_toArray, List.map_cons, List.map_nil, rho_const, rho_func]; (repeat (conv in rho _ _ _ _ (Operand.tmp _) => whnf)); (try simp only [hd]); go_simp; (repeat (conv in rho _ _ _ _ (Operand.tmp _) => whnf)); (try simp only [hd]);  rfl))
    refine free_op (fun v_ w_ => Mine w.heap.size w_ v_ l3) rfl (fun v a b h hg => h.grows hg) (fun vs wq hg hd => by
      have hgq := Grows.of_drew hg
      (try simp [Region.binds] at hd); simp only [Does]; simp only [execOp, resolve, Option.map_some, Option.map_none, List.map_toArray, List.map_cons, List.map_nil, rho_const, rho_func]; (repeat (conv in rho _ _ _ _ (Operand.tmp _) => whnf)); (try simp only [hd]); go_simp; (repeat (conv in rho _ _ _ _ (Operand.tmp _) => whnf))
      refine (H3.out _ wq hd.1.bytes (G3.out.trans hgq)).mono ?_
      rintro e w5 ⟨q, rfl, hq, hg5⟩
      exact ⟨_, rfl, hg5, hq.more (Nat.le_trans G3.out.size hgq.size)⟩) ?_
    refine free_op (fun v_ w_ => Mine w.heap.size w_ v_ l3) rfl (fun v a b h hg => h.grows hg) (fun vs wq hg hd => by
      (try simp [Region.binds] at hd); simp only [Does]; simp only [execOp, resolve, Option.map_some, Option.map_none, List.map_toArray, List.map_cons, List.map_nil, rho_const, rho_func]; (repeat (conv in rho _ _ _ _ (Operand.tmp _) => whnf)); (try simp only [hd]); go_simp; (repeat (conv in rho _ _ _ _ (Operand.tmp _) => whnf))
      first | exact Grows.refl _ | exact ⟨Grows.refl _, hd.1⟩) ?_
    intro vs w' hg hv; have h5 := hv 5 (by omega); simp at h5; simp only [putL, dstAt, List.range, List.range.loop, if_true, List.getElem?_toArray, List.getElem?_cons_zero, List.getElem?_cons_succ, Option.bind_some, Act.put, List.setIfInBounds_toArray, List.set_cons_zero, List.set_cons_succ]
    have H5 := Lib.hid h5
    have G5 := Lib.hid (G3.out.trans (Grows.of_drew hg))
    clear hv h5 hg
    generalize vs 0 = z0, vs 1 = z1, vs 2 = z2, vs 3 = z3, vs 4 = z4, vs 5 = z5 at *
    obtain ⟨A5, c5, rfl, _, _⟩ := H5.out.form
    go_wp2
    go_ret
    exact ⟨_, rfl, by rw [HS.out]; exact H5.out, G5.out⟩
  · have HN := Lib.hid (fun W => none_any r.over W)
    rw [decide_eq_false (p := r.over = PtM.none) (by rw [hov]; exact hn)] at HN
    obtain ⟨l2, e2⟩ : ∃ l2, l2 = PackM.put l1 1#64 1 := ⟨_, rfl⟩
    have n2 : l2.length ≤ 800264 := by rw [e2]; have := put_len l1 1#64 1; omega
    obtain ⟨l3, e3⟩ : ∃ l3, l3 = PackM.put l2 (r.size.setWidth 64) 2 := ⟨_, rfl⟩
    have n3 : l3.length ≤ 800272 := by rw [e3]; have := put_len l2 (r.size.setWidth 64) 2; omega
    obtain ⟨l4, e4⟩ : ∃ l4, l4 = PtM.put l3 r.over := ⟨_, rfl⟩
    have HS : Hid (LeafM.step b x = l4) := by unfold Hid; rw [LeafM.step_over hok b hn, e4, e3, e2, e1, hov, hsz]
    have H2 := Lib.hid (fun q W (h : Bytes (World.heap W).size W q l1) => put_any q l1 1#64 1 W h (by omega) (by omega) (by omega))
    rw [u1, ← e2] at H2
    have H3 := Lib.hid (fun q W (h : Bytes (World.heap W).size W q l2) => put_any q l2 (r.size.setWidth 64) 2 W h (by omega) (by omega) (by omega))
    rw [← e3] at H3
    have H4 := Lib.hid (fun q W (h : Bytes (World.heap W).size W q l3) (hg : Grows w W) => ptput_any q l3 r.over W h (by omega) (HGl.out.grows hg))
    rw [← e4] at H4
    have ws := wrap_u64_hI r.size
    clear e1 e2 e3 e4 u0 u1 hov hsz hok hn
    go_enter Tryd.func20, Tryd.ntmps20
    go_wp2_with (first
      | (go_at_call 35; (with_reducible refine H1.out.mono ?_); rintro e w2 ⟨q, rfl, hq, hg⟩; obtain ⟨A2, c2, rfl, _, _⟩ := hq.form; have G2 := Lib.hid (HG.out.trans hg); have M2 := Lib.hid (hq.more HG.out.size); have X2 := Lib.hid (Row.grows HX.out hg); have P2 := Lib.hid (HP.out _ X2.out); clear hq hg)
      | ((with_reducible refine wpList_load_ptAt (op := ⟨some 10, _, _, _, _, _⟩) ?_ (.tmp 9) ?_ w.heap.size 2 r.over ?_ ?_ ?_); exact rfl; exact rfl; exact rfl; (rw [Nat.zero_add] at P2; exact P2.out))
      | (go_at_call 36; (with_reducible refine (HN.out _).mono ?_); rintro e w3 ⟨rfl, hg⟩; have G3 := Lib.hid (G2.out.trans hg); have M3 := Lib.hid (M2.out.grows hg); have X3 := Lib.hid (Row.grows X2.out hg); clear hg)
      | (go_at_call 37; (with_reducible refine (H2.out _ _ M3.out.bytes).mono ?_); rintro e w4 ⟨q, rfl, hq, hg⟩; obtain ⟨A4, c4, rfl, _, _⟩ := hq.form; have G4 := Lib.hid (G3.out.trans hg); have M4 := Lib.hid (hq.more G3.out.size); have X4 := Lib.hid (Row.grows X3.out hg); have x7 := (X4.out.cell 7).trans (rawA_7 r); clear hq hg)
      | (go_at_call 37; (with_reducible refine (H3.out _ _ M4.out.bytes).mono ?_); rintro e w5 ⟨q, rfl, hq, hg⟩; obtain ⟨A5, c5, rfl, _, _⟩ := hq.form; have G5 := Lib.hid (G4.out.trans hg); have M5 := Lib.hid (hq.more G4.out.size); have X5 := Lib.hid (Row.grows X4.out hg); have P5 := Lib.hid (HP.out _ X5.out); clear hq hg)
      | ((with_reducible refine wpList_load_ptAt (op := ⟨some 26, _, _, _, _, _⟩) ?_ (.tmp 25) ?_ w.heap.size 2 r.over ?_ ?_ ?_); exact rfl; exact rfl; exact rfl; (rw [Nat.zero_add] at P5; exact P5.out))
      | (go_at_call 38; (with_reducible refine (H4.out _ _ M5.out.bytes G5.out).mono ?_); rintro e w6 ⟨q, rfl, hq, hg⟩; obtain ⟨A6, c6, rfl, _, _⟩ := hq.form; have G6 := Lib.hid (G5.out.trans hg); have M6 := Lib.hid (hq.more G5.out.size); clear hq hg))
    go_ret
    exact ⟨_, rfl, by rw [HS.out]; exact M6.out, G6.out⟩
end Go.Proofs.YthdncpkmhodokaaDoor
