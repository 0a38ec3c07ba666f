/- LfOwn LfOwnO LfSame LfSameO -/
import Derived.Test.YthdncpkmhodokaaDoorLfA
import Derived.Test.YthdncpkmhodokaaDoorVdA
import Derived.Test.YthdncpkmhodokaaDoorBaseA
import Derived.Test.YthdncpkmhodokaaDoorPackSmall
import Derived.Test.YthdncpkmhodokaaDoorStr
import Derived.Test.YthdncpkmhodokaaDoorLfB
import Derived.Great.Walk
/- The document's Own for layer 6: items in memory of their own. -/
namespace Go.Proofs.YthdncpkmhodokaaDoor
open Go.RowKit
set_option linter.unusedVariables false
set_option linter.unusedSimpArgs false
theorem builtSlice_item (r : Raw) : Tryd.prog.builtSlice 45 1 [(0, .agg (rawA r))] = some (rawA r) := by kernel_rfl
theorem wpList_slice_it {w : World} {ops : Array Oper} {rest : List Oper} {o : Oper} {a : Act} {Q : Exit → Act → World → Prop} (hgd : o.guard = none) (x : Operand) (ho : o.op = .buildSlice 22 1 #[(0, x)]) (r : Raw) (hx : a.eval x = .agg (rawA r))
    (h : wpList Tryd.prog ops Q rest (a.put o.dst (.slice (some ⟨w.heap.size, 0, none⟩) 1 1)) (w.alloc (.cells (rawA r) 45))) : wpList Tryd.prog ops Q (o :: rest) a w :=
  Great.wpList_buildSliceTo hgd 22 45 1 _ ho w.heap.size rfl o.dst rfl Tryd.underlying22 (rawA r) (by simp only [List.map_toArray, List.map_cons, List.map_nil, hx]; exact builtSlice_item r) h
theorem Mine.apart {base g : Nat} {w w' : World} {v : Value} {b : List (BitVec 8)} {t : TypeId} {cs : Array Value} (h : Mine base w v b) (hg : w.grownBy w' (some g)) (hr : Row w g t cs) (hne : 5 ≠ t) : Mine base w' v b := by
  have ho : Own' 5 1 (fun x => [byteV x]) base w v b := ⟨fun _ _ => rfl, by rw [flat_bytes]; exact h⟩
  have := (ho.aside hg hr hne).2
  rwa [flat_bytes] at this
theorem OwnIts.form {base : Nat} {W : World} {v : Value} {l : List It} (h : OwnIts base W v l) : ∃ A cap, v = .slice A l.length cap ∧ l.length ≤ cap ∧ cap ≤ maxLen := by
  obtain ⟨A, cap, e, h1, h2, _⟩ := h.its.form
  exact ⟨A, cap, e, h1, h2⟩
theorem wpList_append_its {w : World} {ops : Array Oper} {rest : List Oper} {o : Oper} {a : Act} {Q : Exit → Act → World → Prop} (hgd : o.guard = none) (y x : Operand)
    (ho : o.op = .call { callee := .builtin .append, args := #[y, x], argTypes := #[22, 22] }) (base B : Nat) (l : List It) (r : Raw) (i : It)
    (hv : OwnIts base w (a.eval y) l) (hx : Els 8 rawE B w (a.eval x) [r]) (hr : RawOwn base w r i) (hlen : l.length + 1 ≤ 1000000) (hb : base ≤ w.heap.size)
    (h : ∀ v' w', OwnIts base w' v' (l ++ [i]) → w.grownBy w' (a.eval y).ownBlock → wpList Tryd.prog ops Q rest (a.put o.dst v') w') :
    wpList Tryd.prog ops Q (o :: rest) a w := by
  refine wpList_plain hgd fun K hK => ?_
  obtain ⟨v', w', hrun, h2, h3, _⟩ := run_append_its o.type hv hx hr hlen hb
  unfold Oper.wp execOp
  simp only [ho, resolve, invoke, builtin, Sem.run_bind, Sem.run_pure, Result.andThen_ok, List.map_toArray, List.map_cons, List.map_nil, hrun]
  exact hK _ _ (h v' w' h2 h3)
theorem OwnIts.low {base : Nat} {W : World} {v : Value} {l : List It} (h : OwnIts base W v l) : ∀ k, v.ownBlock = some k → base ≤ k := by
  obtain ⟨rs, h1, _⟩ := h
  exact own_low h1
set_option maxRecDepth 20000 in
set_option maxHeartbeats 4000000 in
theorem rown6_any (v : Value) (l : List It) (w : World) (hv : Its w.heap.size w v l) (hl : l.length ≤ 1000) (hs : ∀ x ∈ l, x.key.length ≤ 1000 ∧ x.val.length ≤ 1000) :
    Calls Tryd.prog 19 #[v] w fun e w' => ∃ r, e = .returned r ∧ OwnIts w.heap.size w' r l ∧ Grows w w' := by
  have HSz := Lib.hid hs; have HL := Lib.hid hl
  obtain ⟨A, cap, rfl, q1, q2, q3⟩ := hv.form
  have HQ := Lib.hid q3
  clear q3 hv hs
  unfold maxLen at q2
  go_enter Tryd.func19, Tryd.ntmps19
  go_wp2
  go_loopw [3, 4] (fun out i wr => ∃ k : Nat, k ≤ l.length ∧ i = .int .i64 k ∧ OwnIts w.heap.size wr out (l.take k) ∧ Grows w wr) (fun _ i _ => l.length - (intOf i).toNat)
  case atStart => exact ⟨0, Nat.zero_le _, rfl, OwnIts.nil _ _, Grows.refl _⟩
  case round =>
    obtain ⟨k, hk, rfl, ho, hb⟩ := hrel
    have HO := Lib.hid ho; have HB := Lib.hid hb
    obtain ⟨A2, c2, rfl, _, _⟩ := ho.form
    clear hb
    have hlk : (l.take k).length = k := by rw [List.length_take]; omega
    rw [hlk] at HO ⊢
    by_cases hlt : k < l.length
    · obtain ⟨g1, o1, rfl, hg1, hcA⟩ := HQ.out (by omega)
      have e1 : l[k]? = some l[k] := List.getElem?_eq_getElem hlt
      obtain ⟨r, hr, hc⟩ := hcA k _ e1
      have HC := Lib.hid (rangeAt_keep hc (fun a ha => Below.cell HB.out (by omega)))
      have HR := Lib.hid (hr.grows HB.out)
      have HS := Lib.hid (HSz.out _ (List.getElem_mem hlt))
      have HT : Hid (l.take k ++ [l[k]] = l.take (k + 1)) := by unfold Hid; rw [List.take_add_one, e1]; rfl
      have k3 := hr.2.2.1; have k4 := hr.2.2.2
      clear hc hcA hr e1 ho
      generalize l[k] = x at *
      have HLk : Hid ((l.take k).length + 1 ≤ 1000000) := by unfold Hid; omega
      generalize l.take k = lk at *
      have K3 := Lib.hid k3; have K4 := Lib.hid k4
      clear k3 k4
      have HZ := Lib.hid (Row.new wr 45 #[.slice none 0 0, .slice none 0 0, .int .u8 0, .int .u16 0, .int .u16 0, .int .u32 0, .int .u64 0, .int .u16 0])
      go_wp2_with (first
        | ((with_reducible refine wpList_load_itAt (op := ⟨some 15, _, _, _, _, _⟩) ?_ (.tmp 14) ?_ g1 (o1 + k * 8) r ?_ ?_ ?_); exact rfl; exact rfl; exact rfl; exact HC.out)
        | ((with_reducible refine wpList_store_it ?_ (.tmp 5) (.tmp 15) ?_ wr.heap.size r #[.slice none 0 0, .slice none 0 0, .int .u8 0, .int .u16 0, .int .u16 0, .int .u32 0, .int .u64 0, .int .u16 0] ?_ ?_ ?_ ?_ ?_); exact rfl; exact rfl; exact rfl; exact rfl; exact rfl; exact HZ.out; intro w1 hp hg; have P1 := Lib.hid hp; have G1 := Lib.hid (grown_fresh (W := wr) (W' := w1) rfl hg); have d0 := ((P1.out.alloc (.cells #[] 5)).cell 0).trans (rawA_0 r); clear hp hg)
        | ((with_reducible refine wpList_append_empty (o := ⟨some 19, _, _, _, _, _⟩) ?_ (.tmp 16) (.tmp 18) ?_ (World.heap w1).size (World.heap w1).size x.key ?_ ?_ ?_ ?_ ?_); exact rfl; exact rfl; exact rfl; exact Row.new w1 _ _; exact (HR.out.grows G1.out).1.below (Grows.alloc _ _); (have := HS.out; omega); intro v2 w2 hg hm; have g := (Grows.alloc w1 (.cells #[] 5)).trans hg; have P2 := Lib.hid (Row.grows P1.out g); have G2 := Lib.hid (G1.out.trans g); have M2 := Lib.hid (hm.more (Nat.le_trans HB.out.size G1.out.size)); obtain ⟨A3, c3, rfl, _, _⟩ := hm.form; have k2 := P2.out.cell 0; have f2 := P2.out.frozen 0; have P3 : Hid (Row (w2.setCell ⟨wr.heap.size, 0, none⟩ (.slice A3 x.key.length c3)) wr.heap.size 45 (rawA { r with ka := A3, kn := x.key.length, kc := c3 })) := (P2.out.set 0 (.slice A3 x.key.length c3)); have M3 := Lib.hid (M2.out.apart (setCell_grown _ _ 0 (.slice A3 x.key.length c3)) P2.out (by decide)); have G3 := Lib.hid (show Grows wr (w2.setCell ⟨wr.heap.size, 0, none⟩ (.slice A3 x.key.length c3)) from Below.setCell G2.out (p := ⟨wr.heap.size, 0, none⟩) (by simp) (.slice A3 x.key.length c3)); have d1 := ((P3.out.alloc (.cells #[] 5)).cell 1).trans (rawA_1 _); clear hg hm g)
        | ((with_reducible refine wpList_append_empty (o := ⟨some 24, _, _, _, _, _⟩) ?_ (.tmp 21) (.tmp 23) ?_ (World.heap (w2.setCell ⟨wr.heap.size, 0, none⟩ (.slice A3 x.key.length c3))).size (World.heap w2).size x.val ?_ ?_ ?_ ?_ ?_); exact rfl; exact rfl; exact rfl; exact (by have := Row.new (w2.setCell ⟨wr.heap.size, 0, none⟩ (.slice A3 x.key.length c3)) 5 #[]; rwa [World.size_setCell] at this); exact (HR.out.grows G3.out).2.1.below (Grows.alloc _ _); (have := HS.out; omega); intro v4 w4 hg hm; have g := (Grows.alloc (w2.setCell ⟨wr.heap.size, 0, none⟩ (.slice A3 x.key.length c3)) (.cells #[] 5)).trans hg; have P4 := Lib.hid (Row.grows P3.out g); have G4 := Lib.hid (G3.out.trans g); have M4 := Lib.hid (M3.out.grows g); have N4 := Lib.hid (hm.more (Nat.le_trans HB.out.size G2.out.size)); obtain ⟨A5, c5, rfl, _, _⟩ := hm.form; have k4 := P4.out.cell 1; have f4 := P4.out.frozen 1; have P5 : Hid (Row (w4.setCell ⟨wr.heap.size, 1, none⟩ (.slice A5 x.val.length c5)) wr.heap.size 45 (rawA { r with ka := A3, kn := x.key.length, kc := c3, va := A5, vn := x.val.length, vc := c5 })) := (P4.out.set 1 (.slice A5 x.val.length c5)); have M5 := Lib.hid (M4.out.apart (setCell_grown _ _ 1 (.slice A5 x.val.length c5)) P4.out (by decide)); have N5 := Lib.hid (N4.out.apart (setCell_grown _ _ 1 (.slice A5 x.val.length c5)) P4.out (by decide)); have G5 := Lib.hid (show Grows wr (w4.setCell ⟨wr.heap.size, 1, none⟩ (.slice A5 x.val.length c5)) from Below.setCell G4.out (p := ⟨wr.heap.size, 1, none⟩) (by simp) (.slice A5 x.val.length c5)); have O5 := Lib.hid (HO.out.grows G5.out); clear hg hm g)
        | ((with_reducible refine wpList_load_itAt (op := ⟨some 27, _, _, _, _, _⟩) ?_ (.tmp 5) ?_ wr.heap.size 0 { r with ka := A3, kn := x.key.length, kc := c3, va := A5, vn := x.val.length, vc := c5 } ?_ ?_ ?_); exact rfl; exact rfl; exact rfl; exact rawA_row P5.out)
        | ((with_reducible refine wpList_slice_it (o := ⟨some 28, _, _, _, _, _⟩) ?_ (.tmp 27) ?_ { r with ka := A3, kn := x.key.length, kc := c3, va := A5, vn := x.val.length, vc := c5 } ?_ ?_); exact rfl; exact rfl; exact rfl)
        | ((with_reducible refine wpList_append_its (o := ⟨some 29, _, _, _, _, _⟩) ?_ (.tmp 26) (.tmp 28) ?_ w.heap.size ((World.heap (w4.setCell ⟨wr.heap.size, 1, none⟩ (.slice A5 x.val.length c5))).size + 1) lk { r with ka := A3, kn := x.key.length, kc := c3, va := A5, vn := x.val.length, vc := c5 } x ?_ ?_ ?_ ?_ ?_ ?_); exact rfl; exact rfl; exact O5.out.grows (Grows.alloc _ _); exact raw_one _ _; exact ⟨M5.out.grows (Grows.alloc _ _), N5.out.grows (Grows.alloc _ _), K3.out, K4.out⟩; exact HLk.out; exact Nat.le_trans HB.out.size (G5.out.trans (Grows.alloc _ _)).size; intro v6 w6 h6 g6; rw [HT.out] at h6; have O6 := Lib.hid h6; have G6 := Lib.hid (show Grows w w6 from Below.grown (HB.out.trans (G5.out.trans (Grows.alloc _ _))) g6 (HB.out.trans (G5.out.trans (Grows.alloc _ _))).size (O5.out.low)); clear h6 g6))
      go_roundw
      case rel => exact ⟨k + 1, by omega, by go_num, O6.out, G6.out⟩
      case measure => simp [intOf]; omega
    · obtain rfl : k = l.length := by omega
      have HTk : Hid (l.take l.length = l) := List.take_length
      rw [HTk.out] at HO
      go_wp2
      go_ret
      exact ⟨_, rfl, HO.out, HB.out⟩
end Go.Proofs.YthdncpkmhodokaaDoor
/- Layer 6's own Own: items in memory of their own. -/
namespace Go.Proofs.YthdncpkmhodokaaDoor
open Go.RowKit
set_option linter.unusedVariables false
set_option linter.unusedSimpArgs false
set_option maxRecDepth 20000 in
set_option maxHeartbeats 4000000 in
theorem own6_any (v : Value) (l : List It) (w : World) (hv : Its w.heap.size w v l) (hl : l.length ≤ 1000) (hs : ∀ x ∈ l, x.key.length ≤ 1000 ∧ x.val.length ≤ 1000) :
    Calls Tryd.prog 18 #[v] w fun e w' => ∃ r, e = .returned r ∧ OwnIts w.heap.size w' r l ∧ Grows w w' := by
  have HSz := Lib.hid hs; have HL := Lib.hid hl
  obtain ⟨A, cap, rfl, q1, q2, q3⟩ := hv.form
  have HQ := Lib.hid q3
  clear q3 hv hs
  unfold maxLen at q2
  go_enter Tryd.func18, Tryd.ntmps18
  go_wp2
  go_loopw [3, 5, 8] (fun out _ i wr => ∃ k : Nat, k ≤ l.length ∧ i = .int .i64 k ∧ OwnIts w.heap.size wr out (l.take k) ∧ Grows w wr) (fun _ _ i _ => l.length - (intOf i).toNat)
  case atStart => exact ⟨0, Nat.zero_le _, rfl, OwnIts.nil _ _, Grows.refl _⟩
  case round =>
    obtain ⟨k, hk, rfl, ho, hb⟩ := hrel
    have HO := Lib.hid ho; have HB := Lib.hid hb
    obtain ⟨A2, c2, rfl, _, _⟩ := ho.form
    clear hb
    have hlk : (l.take k).length = k := by rw [List.length_take]; omega
    rw [hlk] at HO ⊢
    by_cases hlt : k < l.length
    · obtain ⟨g1, o1, rfl, hg1, hcA⟩ := HQ.out (by omega)
      have e1 : l[k]? = some l[k] := List.getElem?_eq_getElem hlt
      obtain ⟨r, hr, hc⟩ := hcA k _ e1
      have HC := Lib.hid (rangeAt_keep hc (fun a ha => Below.cell HB.out (by omega)))
      have HR := Lib.hid (hr.grows HB.out)
      have HS := Lib.hid (HSz.out _ (List.getElem_mem hlt))
      have HT : Hid (l.take k ++ [l[k]] = l.take (k + 1)) := by unfold Hid; rw [List.take_add_one, e1]; rfl
      have k3 := hr.2.2.1; have k4 := hr.2.2.2
      clear hc hcA hr e1 ho
      generalize l[k] = x at *
      have HLk : Hid ((l.take k).length + 1 ≤ 1000000) := by unfold Hid; omega
      generalize l.take k = lk at *
      have K3 := Lib.hid k3; have K4 := Lib.hid k4
      clear k3 k4
      have HZ := Lib.hid (Row.new wr 45 #[.slice none 0 0, .slice none 0 0, .int .u8 0, .int .u16 0, .int .u16 0, .int .u32 0, .int .u64 0, .int .u16 0])
      go_wp2_with (first
        | ((with_reducible refine wpList_load_itAt (op := ⟨some 11, _, _, _, _, _⟩) ?_ (.tmp 10) ?_ g1 (o1 + k * 8) r ?_ ?_ ?_); exact rfl; exact rfl; exact rfl; exact HC.out)
        | ((with_reducible refine wpList_store_it ?_ (.tmp 5) (.tmp 11) ?_ wr.heap.size r #[.slice none 0 0, .slice none 0 0, .int .u8 0, .int .u16 0, .int .u16 0, .int .u32 0, .int .u64 0, .int .u16 0] ?_ ?_ ?_ ?_ ?_); exact rfl; exact rfl; exact rfl; exact rfl; exact rfl; exact HZ.out; intro w1 hp hg; have P1 := Lib.hid hp; have G1 := Lib.hid (grown_fresh (W := wr) (W' := w1) rfl hg); clear hp hg))
      have x0 := (P1.out.cell 0).trans (rawA_0 r)
      have x1 := (P1.out.cell 1).trans (rawA_1 r)
      refine wp_region_free 7 26 (by kernel_rfl) (by kernel_rfl) rfl (by kernel_rfl) ?_; simp only [List.take_succ_cons, List.take_zero, List.drop_succ_cons, List.drop_zero]
      iterate 2 (apply free_pure rfl; focus (intro vs w hg hd; have q0 := hg.cell x0; (try simp [Region.binds] at hd); simp only [execOp, resolve, Option.map_some, Option.map_none, List.map_toArray, List.map_cons, List.map_nil, rho_const, rho_func]; (repeat (conv in rho _ _ _ _ (Operand.tmp _) => whnf)); (try simp only [hd]); go_simp; (repeat (conv in rho _ _ _ _ (Operand.tmp _) => whnf)); (try simp only [hd]);  rfl))
      refine free_op (fun v_ w_ => Mine w.heap.size w_ v_ x.key) rfl (fun v a b h hg => h.grows hg) (fun vs wq hg hd => by
        have hgq := G1.out.trans (Grows.of_drew hg)
        have hcl := clone_any _ x.key wq (HR.out.grows hgq).1 (by have := HS.out; omega)
        (try simp [Region.binds] at hd); simp only [Does]; simp only [execOp, resolve, Option.map_some, Option.map_none, List.map_toArray, List.map_cons, List.map_nil, rho_const, rho_func]; (repeat (conv in rho _ _ _ _ (Operand.tmp _) => whnf)); (try simp only [hd]); go_simp; (repeat (conv in rho _ _ _ _ (Operand.tmp _) => whnf))
        refine hcl.mono ?_
        rintro e w5 ⟨q, rfl, hq, hg5⟩
        exact ⟨_, rfl, hg5, hq.more (Nat.le_trans HB.out.size hgq.size)⟩) ?_
      iterate 2 (apply free_pure rfl; focus (intro vs w hg hd; have q0 := hg.cell x1; (try simp [Region.binds] at hd); simp only [execOp, resolve, Option.map_some, Option.map_none, List.map_toArray, List.map_cons, List.map_nil, rho_const, rho_func]; (repeat (conv in rho _ _ _ _ (Operand.tmp _) => whnf)); (try simp only [hd]); go_simp; (repeat (conv in rho _ _ _ _ (Operand.tmp _) => whnf)); (try simp only [hd]);  rfl))
      refine free_op (fun v_ w_ => Mine w.heap.size w_ v_ x.val) rfl (fun v a b h hg => h.grows hg) (fun vs wq hg hd => by
        have hgq := G1.out.trans (Grows.of_drew hg)
        have hcl := clone_any _ x.val wq (HR.out.grows hgq).2.1 (by have := HS.out; omega)
        (try simp [Region.binds] at hd); simp only [Does]; simp only [execOp, resolve, Option.map_some, Option.map_none, List.map_toArray, List.map_cons, List.map_nil, rho_const, rho_func]; (repeat (conv in rho _ _ _ _ (Operand.tmp _) => whnf)); (try simp only [hd]); go_simp; (repeat (conv in rho _ _ _ _ (Operand.tmp _) => whnf))
        refine hcl.mono ?_
        rintro e w5 ⟨q, rfl, hq, hg5⟩
        exact ⟨_, rfl, hg5, hq.more (Nat.le_trans HB.out.size hgq.size)⟩) ?_
      repeat (apply free_pure rfl; focus (intro vs w hg hd;  (try simp [Region.binds] at hd); simp only [execOp, resolve, Option.map_some, Option.map_none, List.map_toArray, List.map_cons, List.map_nil, rho_const, rho_func]; (repeat (conv in rho _ _ _ _ (Operand.tmp _) => whnf)); (try simp only [hd]); go_simp; (repeat (conv in rho _ _ _ _ (Operand.tmp _) => whnf)); (try simp only [hd]);  rfl))
      intro vs w' hg hv; have h2 := hv 2 (by omega); simp at h2; have h5 := hv 5 (by omega); simp at h5; have h6 := hv 6 (by omega); simp at h6; simp only [putL, dstAt, List.range, List.range.loop, if_true, List.getElem?_toArray, List.getElem?_cons_zero, List.getElem?_cons_succ, Option.bind_some, Act.put, List.setIfInBounds_toArray, List.set_cons_zero, List.set_cons_succ]
      rw [h6]
      have H2 := Lib.hid h2; have H5 := Lib.hid h5
      have g2 := Grows.of_drew hg
      have P2 := Lib.hid (Row.grows P1.out g2)
      have G2 := Lib.hid (G1.out.trans g2)
      clear hv h2 h5 h6 hg g2
      generalize vs 0 = z0, vs 1 = z1, vs 2 = z2, vs 3 = z3, vs 4 = z4, vs 5 = z5, vs 6 = z6 at *
      rename World => w2
      obtain ⟨A3, c3, rfl, _, _⟩ := H2.out.form
      obtain ⟨A5, c5, rfl, _, _⟩ := H5.out.form
      have k2 := P2.out.cell 0
      have f2 := P2.out.frozen 0
      have P3 : Hid (Row (w2.setCell ⟨wr.heap.size, 0, none⟩ (.slice A3 x.key.length c3)) wr.heap.size 45 (rawA { r with ka := A3, kn := x.key.length, kc := c3 })) := P2.out.set 0 (.slice A3 x.key.length c3)
      have M3 := Lib.hid (H2.out.apart (setCell_grown _ _ 0 (.slice A3 x.key.length c3)) P2.out (by decide))
      have N3 := Lib.hid (H5.out.apart (setCell_grown _ _ 0 (.slice A3 x.key.length c3)) P2.out (by decide))
      have G3 := Lib.hid (show Grows wr (w2.setCell ⟨wr.heap.size, 0, none⟩ (.slice A3 x.key.length c3)) from Below.setCell G2.out (p := ⟨wr.heap.size, 0, none⟩) (by simp) (.slice A3 x.key.length c3))
      have k4 := P3.out.cell 1
      have f4 := P3.out.frozen 1
      have P5 : Hid (Row ((w2.setCell ⟨wr.heap.size, 0, none⟩ (.slice A3 x.key.length c3)).setCell ⟨wr.heap.size, 1, none⟩ (.slice A5 x.val.length c5)) wr.heap.size 45 (rawA { r with ka := A3, kn := x.key.length, kc := c3, va := A5, vn := x.val.length, vc := c5 })) := P3.out.set 1 (.slice A5 x.val.length c5)
      have M5 := Lib.hid (M3.out.apart (setCell_grown _ _ 1 (.slice A5 x.val.length c5)) P3.out (by decide))
      have N5 := Lib.hid (N3.out.apart (setCell_grown _ _ 1 (.slice A5 x.val.length c5)) P3.out (by decide))
      have G5 := Lib.hid (show Grows wr ((w2.setCell ⟨wr.heap.size, 0, none⟩ (.slice A3 x.key.length c3)).setCell ⟨wr.heap.size, 1, none⟩ (.slice A5 x.val.length c5)) from Below.setCell G3.out (p := ⟨wr.heap.size, 1, none⟩) (by simp) (.slice A5 x.val.length c5))
      have O5 := Lib.hid (HO.out.grows G5.out)
      go_wp2_with (first
        | ((with_reducible refine wpList_load_itAt (op := ⟨some 21, _, _, _, _, _⟩) ?_ (.tmp 5) ?_ wr.heap.size 0 { r with ka := A3, kn := x.key.length, kc := c3, va := A5, vn := x.val.length, vc := c5 } ?_ ?_ ?_); exact rfl; exact rfl; exact rfl; exact rawA_row P5.out)
        | ((with_reducible refine wpList_slice_it (o := ⟨some 22, _, _, _, _, _⟩) ?_ (.tmp 21) ?_ { r with ka := A3, kn := x.key.length, kc := c3, va := A5, vn := x.val.length, vc := c5 } ?_ ?_); exact rfl; exact rfl; exact rfl)
        | ((with_reducible refine wpList_append_its (o := ⟨some 23, _, _, _, _, _⟩) ?_ (.tmp 20) (.tmp 22) ?_ w.heap.size ((World.heap ((w2.setCell ⟨wr.heap.size, 0, none⟩ (.slice A3 x.key.length c3)).setCell ⟨wr.heap.size, 1, none⟩ (.slice A5 x.val.length c5))).size + 1) lk { r with ka := A3, kn := x.key.length, kc := c3, va := A5, vn := x.val.length, vc := c5 } x ?_ ?_ ?_ ?_ ?_ ?_); exact rfl; exact rfl; exact O5.out.grows (Grows.alloc _ _); exact raw_one _ _; exact ⟨M5.out.grows (Grows.alloc _ _), N5.out.grows (Grows.alloc _ _), K3.out, K4.out⟩; exact HLk.out; exact Nat.le_trans HB.out.size (G5.out.trans (Grows.alloc _ _)).size; intro v6 w6 h6 g6; rw [HT.out] at h6; have O6 := Lib.hid h6; have G6 := Lib.hid (show Grows w w6 from Below.grown (HB.out.trans (G5.out.trans (Grows.alloc _ _))) g6 (HB.out.trans (G5.out.trans (Grows.alloc _ _))).size (O5.out.low)); clear h6 g6))
      go_roundw
      case rel => exact ⟨k + 1, by omega, by go_num, O6.out, G6.out⟩
      case measure => simp [intOf]; omega
    · obtain rfl : k = l.length := by omega
      have HTk : Hid (l.take l.length = l) := List.take_length
      rw [HTk.out] at HO
      go_wp2
      go_ret
      exact ⟨_, rfl, HO.out, HB.out⟩
end Go.Proofs.YthdncpkmhodokaaDoor
/- The document's Same for layer 6: are two rows of items the same? -/
namespace Go.Proofs.YthdncpkmhodokaaDoor
open Go.RowKit
set_option linter.unusedVariables false
set_option linter.unusedSimpArgs false
theorem its_step {a b : List It} {k : Nat} (h : a.take k = b.take k) {x y : It} (ha : a[k]? = some x) (hb : b[k]? = some y) (e1 : x.key = y.key) (e2 : x.val = y.val) (e3 : x.over = y.over) (e4 : x.size = y.size) : a.take (k + 1) = b.take (k + 1) := by
  obtain rfl : x = y := (It.eq_iff _ _).1 ⟨e1, e2, e3, e4⟩
  rw [List.take_add_one, List.take_add_one, h, ha, hb]
theorem its_ne {a b : List It} {k : Nat} {x y : It} (ha : a[k]? = some x) (hb : b[k]? = some y) (h : x ≠ y) : decide (a = b) = false := by
  refine decide_eq_false fun e => h ?_
  subst e
  rw [ha] at hb
  exact Option.some.inj hb
theorem str_ne {a b : List (BitVec 8)} (h : a ≠ b) : ((str a).toList == (str b).toList) = false := by
  rw [str_beq_toList]; simpa using h
theorem str_eq {a b : List (BitVec 8)} (h : a = b) : ((str a).toList == (str b).toList) = true := by
  rw [str_beq_toList]; simpa using h
set_option maxRecDepth 20000 in
set_option maxHeartbeats 8000000 in
theorem rsame6_any (u v : Value) (a b : List It) (w : World) (hu : Its w.heap.size w u a) (hv : Its w.heap.size w v b) :
    Calls Tryd.prog 14 #[u, v] w fun e w' => e = .returned (.bool (decide (a = b))) ∧ Grows w w' := by
  obtain ⟨A, cap, rfl, q1, q2, q3⟩ := hu.form
  obtain ⟨A', cap', rfl, q1', q2', q3'⟩ := hv.form
  have HQ := Lib.hid q3; have HQ' := Lib.hid q3'
  clear q3 q3' hu hv
  unfold maxLen at q2 q2'
  by_cases h1 : a.length = b.length
  case neg =>
    have h1' : ¬ (a.length : Int) = b.length := by omega
    have hne : Hid (decide (a = b) = false) := decide_eq_false (by rintro rfl; exact h1 rfl)
    go_enter Tryd.func14, Tryd.ntmps14
    go_wp2
    go_ret
    exact ⟨by rw [hne.out]; rfl, Grows.refl _⟩
  have h1' : (a.length : Int) = b.length := by omega
  go_enter Tryd.func14, Tryd.ntmps14
  go_wp2
  go_loopw [5] (fun i wr => ∃ k : Nat, k ≤ a.length ∧ i = .int .i64 k ∧ a.take k = b.take k ∧ Grows w wr) (fun i _ => a.length - (intOf i).toNat)
  case atStart => exact ⟨0, Nat.zero_le _, rfl, rfl, Grows.refl _⟩
  case round =>
    obtain ⟨k, hk, rfl, hg, hb⟩ := hrel
    have HT := Lib.hid hg; have HB := Lib.hid hb
    clear hg hb
    by_cases hlt : k < a.length
    · obtain ⟨g1, o1, rfl, hg1, hcA⟩ := HQ.out (by omega)
      obtain ⟨g2, o2, rfl, hg2, hcB⟩ := HQ'.out (by omega)
      have e1 : a[k]? = some a[k] := List.getElem?_eq_getElem hlt
      have e2 : b[k]? = some (b[k]'(by omega)) := List.getElem?_eq_getElem (by omega)
      have hltb : (k : Int) < b.length := by omega
      obtain ⟨r, hr, hc⟩ := hcA k _ e1
      obtain ⟨r', hr', hc'⟩ := hcB k _ e2
      have HC := Lib.hid (raw_at (rangeAt_keep hc (fun p hp => Below.cell HB.out (by omega))))
      have HC' := Lib.hid (raw_at (rangeAt_keep hc' (fun p hp => Below.cell HB.out (by omega))))
      have HR := Lib.hid (hr.grows HB.out)
      have HR' := Lib.hid (hr'.grows HB.out)
      have a0 := HC.out.1; have a1 := HC.out.2.1; have a3 := HC.out.2.2.2.1
      have b0 := HC'.out.1; have b1 := HC'.out.2.1; have b3 := HC'.out.2.2.2.1
      have HP := Lib.hid HC.out.2.2.2.2; have HP' := Lib.hid HC'.out.2.2.2.2
      have HS := Lib.hid (fun f1 f2 f3 f4 => its_step HT.out e1 e2 f1 f2 f3 f4)
      have HNe := Lib.hid (fun h => its_ne e1 e2 h)
      have k3 := HR.out.2.2.1; have k4 := HR.out.2.2.2
      have k3' := HR'.out.2.2.1; have k4' := HR'.out.2.2.2
      clear e1 e2 hcA hcB hc hc' hr hr' HC HC'
      generalize a[k] = x at *
      generalize b[k]'(by omega) = y at *
      rw [k3] at HP; rw [k3'] at HP'; rw [k4] at a3; rw [k4'] at b3
      have HK := Lib.hid HR.out.1; have HV := Lib.hid HR.out.2.1
      have HK' := Lib.hid HR'.out.1; have HV' := Lib.hid HR'.out.2.1
      have e3 : Hid (x.key ≠ y.key → decide (a = b) = false) := fun h => HNe.out (fun e => h (by rw [e]))
      have e4 : Hid (x.val ≠ y.val → decide (a = b) = false) := fun h => HNe.out (fun e => h (by rw [e]))
      have e5 : Hid (x.over ≠ y.over → decide (a = b) = false) := fun h => HNe.out (fun e => h (by rw [e]))
      have e6 : Hid (x.size ≠ y.size → decide (a = b) = false) := fun h => HNe.out (fun e => h (by rw [e]))
      clear k3 k4 k3' k4' HR HR' HNe
      by_cases hkey : x.key = y.key
      case neg =>
        have HF : Hid (decide (a = b) = false) := e3.out hkey
        have sk := str_ne hkey
        clear hkey
        go_wp2
        refine wp_region_free 54 71 (by kernel_rfl) (by kernel_rfl) rfl (by kernel_rfl) ?_; simp only [List.take_succ_cons, List.take_zero, List.drop_succ_cons, List.drop_zero]
        repeat (first | (apply free_pure rfl; focus (intro vs w hg hd; have q0 := hg.cell a0; (try simp [Region.binds] at hd); simp only [execOp, resolve, Option.map_some, Option.map_none, List.map_toArray, List.map_cons, List.map_nil, rho_const, rho_func]; (repeat (conv in rho _ _ _ _ (Operand.tmp _) => whnf)); (try simp only [hd]); go_simp; (repeat (conv in rho _ _ _ _ (Operand.tmp _) => whnf)); (try simp only [hd]);  rfl)) | (apply free_gpure; (focus (intro vs w hg hd; (try simp [Region.binds] at hd); (first | (simp [Region.wanted, yieldR]; (repeat (conv in rho _ _ _ _ (Operand.tmp _) => whnf)); simp [hd]; done) | (simp [Region.wanted, yieldR]; (repeat (conv in rho _ _ _ _ (Operand.tmp _) => whnf)); simp [hd, undef]; done) | (simp [Region.wanted, yieldR]; (repeat (conv in rho _ _ _ _ (Operand.tmp _) => whnf)); (try simp [hd]); simp [*])))); focus (intro vs w hg hd; have q0 := hg.cell a0; (try simp [Region.binds] at hd); simp only [execOp, resolve, Option.map_some, Option.map_none, List.map_toArray, List.map_cons, List.map_nil, rho_const, rho_func]; (repeat (conv in rho _ _ _ _ (Operand.tmp _) => whnf)); (try simp only [hd]); go_simp; (repeat (conv in rho _ _ _ _ (Operand.tmp _) => whnf)); (try simp only [hd]);  rfl)))
        refine free_op (fun v_ _ => v_ = .string (str (x.key))) rfl (dk_mono _) (fun vs wq hg hd => by (have e1 := run_str (P := Tryd.prog) (Sl.below HK.out (Grows.of_drew hg)) 37 5 9 Tryd.underlying37 Tryd.underlying5 Tryd.underlying9; (try simp [Region.binds] at hd); simp only [Does]; simp only [execOp, resolve, Option.map_some, Option.map_none, List.map_toArray, List.map_cons, List.map_nil, rho_const, rho_func]; (repeat (conv in rho _ _ _ _ (Operand.tmp _) => whnf)); (try simp only [hd]); go_simp; (repeat (conv in rho _ _ _ _ (Operand.tmp _) => whnf)); exact Grows.refl _)) ?_
        repeat (first | (apply free_pure rfl; focus (intro vs w hg hd; have q0 := hg.cell b0; (try simp [Region.binds] at hd); simp only [execOp, resolve, Option.map_some, Option.map_none, List.map_toArray, List.map_cons, List.map_nil, rho_const, rho_func]; (repeat (conv in rho _ _ _ _ (Operand.tmp _) => whnf)); (try simp only [hd]); go_simp; (repeat (conv in rho _ _ _ _ (Operand.tmp _) => whnf)); (try simp only [hd]);  rfl)) | (apply free_gpure; (focus (intro vs w hg hd; (try simp [Region.binds] at hd); (first | (simp [Region.wanted, yieldR]; (repeat (conv in rho _ _ _ _ (Operand.tmp _) => whnf)); simp [hd]; done) | (simp [Region.wanted, yieldR]; (repeat (conv in rho _ _ _ _ (Operand.tmp _) => whnf)); simp [hd, undef]; done) | (simp [Region.wanted, yieldR]; (repeat (conv in rho _ _ _ _ (Operand.tmp _) => whnf)); (try simp [hd]); simp [*])))); focus (intro vs w hg hd; have q0 := hg.cell b0; (try simp [Region.binds] at hd); simp only [execOp, resolve, Option.map_some, Option.map_none, List.map_toArray, List.map_cons, List.map_nil, rho_const, rho_func]; (repeat (conv in rho _ _ _ _ (Operand.tmp _) => whnf)); (try simp only [hd]); go_simp; (repeat (conv in rho _ _ _ _ (Operand.tmp _) => whnf)); (try simp only [hd]);  rfl)))
        refine free_op (fun v_ _ => v_ = .string (str (y.key))) rfl (dk_mono _) (fun vs wq hg hd => by (have e1 := run_str (P := Tryd.prog) (Sl.below HK'.out (Grows.of_drew hg)) 37 5 9 Tryd.underlying37 Tryd.underlying5 Tryd.underlying9; (try simp [Region.binds] at hd); simp only [Does]; simp only [execOp, resolve, Option.map_some, Option.map_none, List.map_toArray, List.map_cons, List.map_nil, rho_const, rho_func]; (repeat (conv in rho _ _ _ _ (Operand.tmp _) => whnf)); (try simp only [hd]); go_simp; (repeat (conv in rho _ _ _ _ (Operand.tmp _) => whnf)); exact Grows.refl _)) ?_
        repeat (first | (apply free_pure rfl; focus (intro vs w hg hd;  (try simp [Region.binds] at hd); simp only [execOp, resolve, Option.map_some, Option.map_none, List.map_toArray, List.map_cons, List.map_nil, rho_const, rho_func]; (repeat (conv in rho _ _ _ _ (Operand.tmp _) => whnf)); (try simp only [hd]); go_simp; (repeat (conv in rho _ _ _ _ (Operand.tmp _) => whnf)); (try simp only [hd]); (try simp only [sk]); rfl)) | (apply free_gpure; (focus (intro vs w hg hd; (try simp [Region.binds] at hd); (first | (simp [Region.wanted, yieldR]; (repeat (conv in rho _ _ _ _ (Operand.tmp _) => whnf)); simp [hd]; done) | (simp [Region.wanted, yieldR]; (repeat (conv in rho _ _ _ _ (Operand.tmp _) => whnf)); simp [hd, undef]; done) | (simp [Region.wanted, yieldR]; (repeat (conv in rho _ _ _ _ (Operand.tmp _) => whnf)); (try simp [hd]); simp [*])))); focus (intro vs w hg hd;  (try simp [Region.binds] at hd); simp only [execOp, resolve, Option.map_some, Option.map_none, List.map_toArray, List.map_cons, List.map_nil, rho_const, rho_func]; (repeat (conv in rho _ _ _ _ (Operand.tmp _) => whnf)); (try simp only [hd]); go_simp; (repeat (conv in rho _ _ _ _ (Operand.tmp _) => whnf)); (try simp only [hd]); (try simp only [sk]); rfl)))
        repeat (refine free_passed (fun vs wq hg hd => ?_) ?_; focus ((try simp [Region.binds] at hd); (first | (simp [Region.wanted, yieldR]; (repeat (conv in rho _ _ _ _ (Operand.tmp _) => whnf)); simp [hd]; done) | (simp [Region.wanted, yieldR]; (repeat (conv in rho _ _ _ _ (Operand.tmp _) => whnf)); simp [hd, undef]; done) | (simp [Region.wanted, yieldR]; (repeat (conv in rho _ _ _ _ (Operand.tmp _) => whnf)); (try simp [hd]); simp [*]))))
        repeat (first | (apply free_pure rfl; focus (intro vs w hg hd;  (try simp [Region.binds] at hd); simp only [execOp, resolve, Option.map_some, Option.map_none, List.map_toArray, List.map_cons, List.map_nil, rho_const, rho_func]; (repeat (conv in rho _ _ _ _ (Operand.tmp _) => whnf)); (try simp only [hd]); go_simp; (repeat (conv in rho _ _ _ _ (Operand.tmp _) => whnf)); (try simp only [hd]);  rfl)) | (apply free_gpure; (focus (intro vs w hg hd; (try simp [Region.binds] at hd); (first | (simp [Region.wanted, yieldR]; (repeat (conv in rho _ _ _ _ (Operand.tmp _) => whnf)); simp [hd]; done) | (simp [Region.wanted, yieldR]; (repeat (conv in rho _ _ _ _ (Operand.tmp _) => whnf)); simp [hd, undef]; done) | (simp [Region.wanted, yieldR]; (repeat (conv in rho _ _ _ _ (Operand.tmp _) => whnf)); (try simp [hd]); simp [*])))); focus (intro vs w hg hd;  (try simp [Region.binds] at hd); simp only [execOp, resolve, Option.map_some, Option.map_none, List.map_toArray, List.map_cons, List.map_nil, rho_const, rho_func]; (repeat (conv in rho _ _ _ _ (Operand.tmp _) => whnf)); (try simp only [hd]); go_simp; (repeat (conv in rho _ _ _ _ (Operand.tmp _) => whnf)); (try simp only [hd]);  rfl)))
        repeat (refine free_passed (fun vs wq hg hd => ?_) ?_; focus ((try simp [Region.binds] at hd); (first | (simp [Region.wanted, yieldR]; (repeat (conv in rho _ _ _ _ (Operand.tmp _) => whnf)); simp [hd]; done) | (simp [Region.wanted, yieldR]; (repeat (conv in rho _ _ _ _ (Operand.tmp _) => whnf)); simp [hd, undef]; done) | (simp [Region.wanted, yieldR]; (repeat (conv in rho _ _ _ _ (Operand.tmp _) => whnf)); (try simp [hd]); simp [*]))))
        repeat (first | (apply free_pure rfl; focus (intro vs w hg hd;  (try simp [Region.binds] at hd); simp only [execOp, resolve, Option.map_some, Option.map_none, List.map_toArray, List.map_cons, List.map_nil, rho_const, rho_func]; (repeat (conv in rho _ _ _ _ (Operand.tmp _) => whnf)); (try simp only [hd]); go_simp; (repeat (conv in rho _ _ _ _ (Operand.tmp _) => whnf)); (try simp only [hd]);  rfl)) | (apply free_gpure; (focus (intro vs w hg hd; (try simp [Region.binds] at hd); (first | (simp [Region.wanted, yieldR]; (repeat (conv in rho _ _ _ _ (Operand.tmp _) => whnf)); simp [hd]; done) | (simp [Region.wanted, yieldR]; (repeat (conv in rho _ _ _ _ (Operand.tmp _) => whnf)); simp [hd, undef]; done) | (simp [Region.wanted, yieldR]; (repeat (conv in rho _ _ _ _ (Operand.tmp _) => whnf)); (try simp [hd]); simp [*])))); focus (intro vs w hg hd;  (try simp [Region.binds] at hd); simp only [execOp, resolve, Option.map_some, Option.map_none, List.map_toArray, List.map_cons, List.map_nil, rho_const, rho_func]; (repeat (conv in rho _ _ _ _ (Operand.tmp _) => whnf)); (try simp only [hd]); go_simp; (repeat (conv in rho _ _ _ _ (Operand.tmp _) => whnf)); (try simp only [hd]);  rfl)))
        repeat (refine free_passed (fun vs wq hg hd => ?_) ?_; focus ((try simp [Region.binds] at hd); (first | (simp [Region.wanted, yieldR]; (repeat (conv in rho _ _ _ _ (Operand.tmp _) => whnf)); simp [hd]; done) | (simp [Region.wanted, yieldR]; (repeat (conv in rho _ _ _ _ (Operand.tmp _) => whnf)); simp [hd, undef]; done) | (simp [Region.wanted, yieldR]; (repeat (conv in rho _ _ _ _ (Operand.tmp _) => whnf)); (try simp [hd]); simp [*]))))
        repeat (first | (apply free_pure rfl; focus (intro vs w hg hd;  (try simp [Region.binds] at hd); simp only [execOp, resolve, Option.map_some, Option.map_none, List.map_toArray, List.map_cons, List.map_nil, rho_const, rho_func]; (repeat (conv in rho _ _ _ _ (Operand.tmp _) => whnf)); (try simp only [hd]); go_simp; (repeat (conv in rho _ _ _ _ (Operand.tmp _) => whnf)); (try simp only [hd]);  rfl)) | (apply free_gpure; (focus (intro vs w hg hd; (try simp [Region.binds] at hd); (first | (simp [Region.wanted, yieldR]; (repeat (conv in rho _ _ _ _ (Operand.tmp _) => whnf)); simp [hd]; done) | (simp [Region.wanted, yieldR]; (repeat (conv in rho _ _ _ _ (Operand.tmp _) => whnf)); simp [hd, undef]; done) | (simp [Region.wanted, yieldR]; (repeat (conv in rho _ _ _ _ (Operand.tmp _) => whnf)); (try simp [hd]); simp [*])))); focus (intro vs w hg hd;  (try simp [Region.binds] at hd); simp only [execOp, resolve, Option.map_some, Option.map_none, List.map_toArray, List.map_cons, List.map_nil, rho_const, rho_func]; (repeat (conv in rho _ _ _ _ (Operand.tmp _) => whnf)); (try simp only [hd]); go_simp; (repeat (conv in rho _ _ _ _ (Operand.tmp _) => whnf)); (try simp only [hd]);  rfl)))
        intro vs w' hg hv; have h53 := hv 53 (by omega); simp at h53; simp only [putL, dstAt, List.range, List.range.loop, if_true, List.getElem?_toArray, List.getElem?_cons_zero, List.getElem?_cons_succ, Option.bind_some, Act.put, List.setIfInBounds_toArray, List.set_cons_zero, List.set_cons_succ]
        rw [h53]
        have hgW := Lib.hid (HB.out.trans (Grows.of_drew hg))
        clear hv h53 hg
        generalize vs 0 = z0, vs 1 = z1, vs 2 = z2, vs 3 = z3, vs 4 = z4, vs 5 = z5, vs 6 = z6, vs 7 = z7, vs 8 = z8, vs 9 = z9, vs 10 = z10, vs 11 = z11, vs 12 = z12, vs 13 = z13, vs 14 = z14, vs 15 = z15, vs 16 = z16, vs 17 = z17, vs 18 = z18, vs 19 = z19, vs 20 = z20, vs 21 = z21, vs 22 = z22, vs 23 = z23, vs 24 = z24, vs 25 = z25, vs 26 = z26, vs 27 = z27, vs 28 = z28, vs 29 = z29, vs 30 = z30, vs 31 = z31, vs 32 = z32, vs 33 = z33, vs 34 = z34, vs 35 = z35, vs 36 = z36, vs 37 = z37, vs 38 = z38, vs 39 = z39, vs 40 = z40, vs 41 = z41, vs 42 = z42, vs 43 = z43, vs 44 = z44, vs 45 = z45, vs 46 = z46, vs 47 = z47, vs 48 = z48, vs 49 = z49, vs 50 = z50, vs 51 = z51, vs 52 = z52, vs 53 = z53 at *
        go_wp2
        go_ret
        exact ⟨by rw [HF.out]; rfl, hgW.out⟩
      have sk := str_eq hkey
      have hkey := Lib.hid hkey
      by_cases hval : x.val = y.val
      case neg =>
        have HF : Hid (decide (a = b) = false) := e4.out hval
        have sv := str_ne hval
        clear hval
        go_wp2
        refine wp_region_free 54 71 (by kernel_rfl) (by kernel_rfl) rfl (by kernel_rfl) ?_; simp only [List.take_succ_cons, List.take_zero, List.drop_succ_cons, List.drop_zero]
        repeat (first | (apply free_pure rfl; focus (intro vs w hg hd; have q0 := hg.cell a0; (try simp [Region.binds] at hd); simp only [execOp, resolve, Option.map_some, Option.map_none, List.map_toArray, List.map_cons, List.map_nil, rho_const, rho_func]; (repeat (conv in rho _ _ _ _ (Operand.tmp _) => whnf)); (try simp only [hd]); go_simp; (repeat (conv in rho _ _ _ _ (Operand.tmp _) => whnf)); (try simp only [hd]);  rfl)) | (apply free_gpure; (focus (intro vs w hg hd; (try simp [Region.binds] at hd); (first | (simp [Region.wanted, yieldR]; (repeat (conv in rho _ _ _ _ (Operand.tmp _) => whnf)); simp [hd]; done) | (simp [Region.wanted, yieldR]; (repeat (conv in rho _ _ _ _ (Operand.tmp _) => whnf)); simp [hd, undef]; done) | (simp [Region.wanted, yieldR]; (repeat (conv in rho _ _ _ _ (Operand.tmp _) => whnf)); (try simp [hd]); simp [*])))); focus (intro vs w hg hd; have q0 := hg.cell a0; (try simp [Region.binds] at hd); simp only [execOp, resolve, Option.map_some, Option.map_none, List.map_toArray, List.map_cons, List.map_nil, rho_const, rho_func]; (repeat (conv in rho _ _ _ _ (Operand.tmp _) => whnf)); (try simp only [hd]); go_simp; (repeat (conv in rho _ _ _ _ (Operand.tmp _) => whnf)); (try simp only [hd]);  rfl)))
        refine free_op (fun v_ _ => v_ = .string (str (x.key))) rfl (dk_mono _) (fun vs wq hg hd => by (have e1 := run_str (P := Tryd.prog) (Sl.below HK.out (Grows.of_drew hg)) 37 5 9 Tryd.underlying37 Tryd.underlying5 Tryd.underlying9; (try simp [Region.binds] at hd); simp only [Does]; simp only [execOp, resolve, Option.map_some, Option.map_none, List.map_toArray, List.map_cons, List.map_nil, rho_const, rho_func]; (repeat (conv in rho _ _ _ _ (Operand.tmp _) => whnf)); (try simp only [hd]); go_simp; (repeat (conv in rho _ _ _ _ (Operand.tmp _) => whnf)); exact Grows.refl _)) ?_
        repeat (first | (apply free_pure rfl; focus (intro vs w hg hd; have q0 := hg.cell b0; (try simp [Region.binds] at hd); simp only [execOp, resolve, Option.map_some, Option.map_none, List.map_toArray, List.map_cons, List.map_nil, rho_const, rho_func]; (repeat (conv in rho _ _ _ _ (Operand.tmp _) => whnf)); (try simp only [hd]); go_simp; (repeat (conv in rho _ _ _ _ (Operand.tmp _) => whnf)); (try simp only [hd]);  rfl)) | (apply free_gpure; (focus (intro vs w hg hd; (try simp [Region.binds] at hd); (first | (simp [Region.wanted, yieldR]; (repeat (conv in rho _ _ _ _ (Operand.tmp _) => whnf)); simp [hd]; done) | (simp [Region.wanted, yieldR]; (repeat (conv in rho _ _ _ _ (Operand.tmp _) => whnf)); simp [hd, undef]; done) | (simp [Region.wanted, yieldR]; (repeat (conv in rho _ _ _ _ (Operand.tmp _) => whnf)); (try simp [hd]); simp [*])))); focus (intro vs w hg hd; have q0 := hg.cell b0; (try simp [Region.binds] at hd); simp only [execOp, resolve, Option.map_some, Option.map_none, List.map_toArray, List.map_cons, List.map_nil, rho_const, rho_func]; (repeat (conv in rho _ _ _ _ (Operand.tmp _) => whnf)); (try simp only [hd]); go_simp; (repeat (conv in rho _ _ _ _ (Operand.tmp _) => whnf)); (try simp only [hd]);  rfl)))
        refine free_op (fun v_ _ => v_ = .string (str (y.key))) rfl (dk_mono _) (fun vs wq hg hd => by (have e1 := run_str (P := Tryd.prog) (Sl.below HK'.out (Grows.of_drew hg)) 37 5 9 Tryd.underlying37 Tryd.underlying5 Tryd.underlying9; (try simp [Region.binds] at hd); simp only [Does]; simp only [execOp, resolve, Option.map_some, Option.map_none, List.map_toArray, List.map_cons, List.map_nil, rho_const, rho_func]; (repeat (conv in rho _ _ _ _ (Operand.tmp _) => whnf)); (try simp only [hd]); go_simp; (repeat (conv in rho _ _ _ _ (Operand.tmp _) => whnf)); exact Grows.refl _)) ?_
        repeat (first | (apply free_pure rfl; focus (intro vs w hg hd;  (try simp [Region.binds] at hd); simp only [execOp, resolve, Option.map_some, Option.map_none, List.map_toArray, List.map_cons, List.map_nil, rho_const, rho_func]; (repeat (conv in rho _ _ _ _ (Operand.tmp _) => whnf)); (try simp only [hd]); go_simp; (repeat (conv in rho _ _ _ _ (Operand.tmp _) => whnf)); (try simp only [hd]); (try simp only [sk]); rfl)) | (apply free_gpure; (focus (intro vs w hg hd; (try simp [Region.binds] at hd); (first | (simp [Region.wanted, yieldR]; (repeat (conv in rho _ _ _ _ (Operand.tmp _) => whnf)); simp [hd]; done) | (simp [Region.wanted, yieldR]; (repeat (conv in rho _ _ _ _ (Operand.tmp _) => whnf)); simp [hd, undef]; done) | (simp [Region.wanted, yieldR]; (repeat (conv in rho _ _ _ _ (Operand.tmp _) => whnf)); (try simp [hd]); simp [*])))); focus (intro vs w hg hd;  (try simp [Region.binds] at hd); simp only [execOp, resolve, Option.map_some, Option.map_none, List.map_toArray, List.map_cons, List.map_nil, rho_const, rho_func]; (repeat (conv in rho _ _ _ _ (Operand.tmp _) => whnf)); (try simp only [hd]); go_simp; (repeat (conv in rho _ _ _ _ (Operand.tmp _) => whnf)); (try simp only [hd]); (try simp only [sk]); rfl)))
        repeat (first | (apply free_pure rfl; focus (intro vs w hg hd; have q0 := hg.cell a1; (try simp [Region.binds] at hd); simp only [execOp, resolve, Option.map_some, Option.map_none, List.map_toArray, List.map_cons, List.map_nil, rho_const, rho_func]; (repeat (conv in rho _ _ _ _ (Operand.tmp _) => whnf)); (try simp only [hd]); go_simp; (repeat (conv in rho _ _ _ _ (Operand.tmp _) => whnf)); (try simp only [hd]);  rfl)) | (apply free_gpure; (focus (intro vs w hg hd; (try simp [Region.binds] at hd); (first | (simp [Region.wanted, yieldR]; (repeat (conv in rho _ _ _ _ (Operand.tmp _) => whnf)); simp [hd]; done) | (simp [Region.wanted, yieldR]; (repeat (conv in rho _ _ _ _ (Operand.tmp _) => whnf)); simp [hd, undef]; done) | (simp [Region.wanted, yieldR]; (repeat (conv in rho _ _ _ _ (Operand.tmp _) => whnf)); (try simp [hd]); simp [*])))); focus (intro vs w hg hd; have q0 := hg.cell a1; (try simp [Region.binds] at hd); simp only [execOp, resolve, Option.map_some, Option.map_none, List.map_toArray, List.map_cons, List.map_nil, rho_const, rho_func]; (repeat (conv in rho _ _ _ _ (Operand.tmp _) => whnf)); (try simp only [hd]); go_simp; (repeat (conv in rho _ _ _ _ (Operand.tmp _) => whnf)); (try simp only [hd]);  rfl)))
        refine free_guarded (fun v_ _ => v_ = .string (str (x.val))) (dk_mono _) (fun vs wq hg hd => by ((try simp [Region.binds] at hd); refine ⟨?_, ?_⟩; (focus (first | (simp [Region.wanted, yieldR]; (repeat (conv in rho _ _ _ _ (Operand.tmp _) => whnf)); simp [hd]; done) | (simp [Region.wanted, yieldR]; (repeat (conv in rho _ _ _ _ (Operand.tmp _) => whnf)); simp [hd, undef]; done) | (simp [Region.wanted, yieldR]; (repeat (conv in rho _ _ _ _ (Operand.tmp _) => whnf)); (try simp [hd]); simp [*]))); (focus (have e1 := run_str (P := Tryd.prog) (Sl.below HV.out (Grows.of_drew hg)) 37 5 9 Tryd.underlying37 Tryd.underlying5 Tryd.underlying9; simp only [Does]; simp only [execOp, resolve, Option.map_some, Option.map_none, List.map_toArray, List.map_cons, List.map_nil, rho_const, rho_func]; (repeat (conv in rho _ _ _ _ (Operand.tmp _) => whnf)); (try simp only [hd]); go_simp; (repeat (conv in rho _ _ _ _ (Operand.tmp _) => whnf)); exact Grows.refl _)))) ?_
        repeat (first | (apply free_pure rfl; focus (intro vs w hg hd; have q0 := hg.cell b1; (try simp [Region.binds] at hd); simp only [execOp, resolve, Option.map_some, Option.map_none, List.map_toArray, List.map_cons, List.map_nil, rho_const, rho_func]; (repeat (conv in rho _ _ _ _ (Operand.tmp _) => whnf)); (try simp only [hd]); go_simp; (repeat (conv in rho _ _ _ _ (Operand.tmp _) => whnf)); (try simp only [hd]);  rfl)) | (apply free_gpure; (focus (intro vs w hg hd; (try simp [Region.binds] at hd); (first | (simp [Region.wanted, yieldR]; (repeat (conv in rho _ _ _ _ (Operand.tmp _) => whnf)); simp [hd]; done) | (simp [Region.wanted, yieldR]; (repeat (conv in rho _ _ _ _ (Operand.tmp _) => whnf)); simp [hd, undef]; done) | (simp [Region.wanted, yieldR]; (repeat (conv in rho _ _ _ _ (Operand.tmp _) => whnf)); (try simp [hd]); simp [*])))); focus (intro vs w hg hd; have q0 := hg.cell b1; (try simp [Region.binds] at hd); simp only [execOp, resolve, Option.map_some, Option.map_none, List.map_toArray, List.map_cons, List.map_nil, rho_const, rho_func]; (repeat (conv in rho _ _ _ _ (Operand.tmp _) => whnf)); (try simp only [hd]); go_simp; (repeat (conv in rho _ _ _ _ (Operand.tmp _) => whnf)); (try simp only [hd]);  rfl)))
        refine free_guarded (fun v_ _ => v_ = .string (str (y.val))) (dk_mono _) (fun vs wq hg hd => by ((try simp [Region.binds] at hd); refine ⟨?_, ?_⟩; (focus (first | (simp [Region.wanted, yieldR]; (repeat (conv in rho _ _ _ _ (Operand.tmp _) => whnf)); simp [hd]; done) | (simp [Region.wanted, yieldR]; (repeat (conv in rho _ _ _ _ (Operand.tmp _) => whnf)); simp [hd, undef]; done) | (simp [Region.wanted, yieldR]; (repeat (conv in rho _ _ _ _ (Operand.tmp _) => whnf)); (try simp [hd]); simp [*]))); (focus (have e1 := run_str (P := Tryd.prog) (Sl.below HV'.out (Grows.of_drew hg)) 37 5 9 Tryd.underlying37 Tryd.underlying5 Tryd.underlying9; simp only [Does]; simp only [execOp, resolve, Option.map_some, Option.map_none, List.map_toArray, List.map_cons, List.map_nil, rho_const, rho_func]; (repeat (conv in rho _ _ _ _ (Operand.tmp _) => whnf)); (try simp only [hd]); go_simp; (repeat (conv in rho _ _ _ _ (Operand.tmp _) => whnf)); exact Grows.refl _)))) ?_
        repeat (first | (apply free_pure rfl; focus (intro vs w hg hd;  (try simp [Region.binds] at hd); simp only [execOp, resolve, Option.map_some, Option.map_none, List.map_toArray, List.map_cons, List.map_nil, rho_const, rho_func]; (repeat (conv in rho _ _ _ _ (Operand.tmp _) => whnf)); (try simp only [hd]); go_simp; (repeat (conv in rho _ _ _ _ (Operand.tmp _) => whnf)); (try simp only [hd]); (try simp only [sv]); rfl)) | (apply free_gpure; (focus (intro vs w hg hd; (try simp [Region.binds] at hd); (first | (simp [Region.wanted, yieldR]; (repeat (conv in rho _ _ _ _ (Operand.tmp _) => whnf)); simp [hd]; done) | (simp [Region.wanted, yieldR]; (repeat (conv in rho _ _ _ _ (Operand.tmp _) => whnf)); simp [hd, undef]; done) | (simp [Region.wanted, yieldR]; (repeat (conv in rho _ _ _ _ (Operand.tmp _) => whnf)); (try simp [hd]); simp [*])))); focus (intro vs w hg hd;  (try simp [Region.binds] at hd); simp only [execOp, resolve, Option.map_some, Option.map_none, List.map_toArray, List.map_cons, List.map_nil, rho_const, rho_func]; (repeat (conv in rho _ _ _ _ (Operand.tmp _) => whnf)); (try simp only [hd]); go_simp; (repeat (conv in rho _ _ _ _ (Operand.tmp _) => whnf)); (try simp only [hd]); (try simp only [sv]); rfl)))
        repeat (refine free_passed (fun vs wq hg hd => ?_) ?_; focus ((try simp [Region.binds] at hd); (first | (simp [Region.wanted, yieldR]; (repeat (conv in rho _ _ _ _ (Operand.tmp _) => whnf)); simp [hd]; done) | (simp [Region.wanted, yieldR]; (repeat (conv in rho _ _ _ _ (Operand.tmp _) => whnf)); simp [hd, undef]; done) | (simp [Region.wanted, yieldR]; (repeat (conv in rho _ _ _ _ (Operand.tmp _) => whnf)); (try simp [hd]); simp [*]))))
        repeat (first | (apply free_pure rfl; focus (intro vs w hg hd;  (try simp [Region.binds] at hd); simp only [execOp, resolve, Option.map_some, Option.map_none, List.map_toArray, List.map_cons, List.map_nil, rho_const, rho_func]; (repeat (conv in rho _ _ _ _ (Operand.tmp _) => whnf)); (try simp only [hd]); go_simp; (repeat (conv in rho _ _ _ _ (Operand.tmp _) => whnf)); (try simp only [hd]);  rfl)) | (apply free_gpure; (focus (intro vs w hg hd; (try simp [Region.binds] at hd); (first | (simp [Region.wanted, yieldR]; (repeat (conv in rho _ _ _ _ (Operand.tmp _) => whnf)); simp [hd]; done) | (simp [Region.wanted, yieldR]; (repeat (conv in rho _ _ _ _ (Operand.tmp _) => whnf)); simp [hd, undef]; done) | (simp [Region.wanted, yieldR]; (repeat (conv in rho _ _ _ _ (Operand.tmp _) => whnf)); (try simp [hd]); simp [*])))); focus (intro vs w hg hd;  (try simp [Region.binds] at hd); simp only [execOp, resolve, Option.map_some, Option.map_none, List.map_toArray, List.map_cons, List.map_nil, rho_const, rho_func]; (repeat (conv in rho _ _ _ _ (Operand.tmp _) => whnf)); (try simp only [hd]); go_simp; (repeat (conv in rho _ _ _ _ (Operand.tmp _) => whnf)); (try simp only [hd]);  rfl)))
        repeat (refine free_passed (fun vs wq hg hd => ?_) ?_; focus ((try simp [Region.binds] at hd); (first | (simp [Region.wanted, yieldR]; (repeat (conv in rho _ _ _ _ (Operand.tmp _) => whnf)); simp [hd]; done) | (simp [Region.wanted, yieldR]; (repeat (conv in rho _ _ _ _ (Operand.tmp _) => whnf)); simp [hd, undef]; done) | (simp [Region.wanted, yieldR]; (repeat (conv in rho _ _ _ _ (Operand.tmp _) => whnf)); (try simp [hd]); simp [*]))))
        repeat (first | (apply free_pure rfl; focus (intro vs w hg hd;  (try simp [Region.binds] at hd); simp only [execOp, resolve, Option.map_some, Option.map_none, List.map_toArray, List.map_cons, List.map_nil, rho_const, rho_func]; (repeat (conv in rho _ _ _ _ (Operand.tmp _) => whnf)); (try simp only [hd]); go_simp; (repeat (conv in rho _ _ _ _ (Operand.tmp _) => whnf)); (try simp only [hd]);  rfl)) | (apply free_gpure; (focus (intro vs w hg hd; (try simp [Region.binds] at hd); (first | (simp [Region.wanted, yieldR]; (repeat (conv in rho _ _ _ _ (Operand.tmp _) => whnf)); simp [hd]; done) | (simp [Region.wanted, yieldR]; (repeat (conv in rho _ _ _ _ (Operand.tmp _) => whnf)); simp [hd, undef]; done) | (simp [Region.wanted, yieldR]; (repeat (conv in rho _ _ _ _ (Operand.tmp _) => whnf)); (try simp [hd]); simp [*])))); focus (intro vs w hg hd;  (try simp [Region.binds] at hd); simp only [execOp, resolve, Option.map_some, Option.map_none, List.map_toArray, List.map_cons, List.map_nil, rho_const, rho_func]; (repeat (conv in rho _ _ _ _ (Operand.tmp _) => whnf)); (try simp only [hd]); go_simp; (repeat (conv in rho _ _ _ _ (Operand.tmp _) => whnf)); (try simp only [hd]);  rfl)))
        intro vs w' hg hv; have h53 := hv 53 (by omega); simp at h53; simp only [putL, dstAt, List.range, List.range.loop, if_true, List.getElem?_toArray, List.getElem?_cons_zero, List.getElem?_cons_succ, Option.bind_some, Act.put, List.setIfInBounds_toArray, List.set_cons_zero, List.set_cons_succ]
        rw [h53]
        have hgW := Lib.hid (HB.out.trans (Grows.of_drew hg))
        clear hv h53 hg
        generalize vs 0 = z0, vs 1 = z1, vs 2 = z2, vs 3 = z3, vs 4 = z4, vs 5 = z5, vs 6 = z6, vs 7 = z7, vs 8 = z8, vs 9 = z9, vs 10 = z10, vs 11 = z11, vs 12 = z12, vs 13 = z13, vs 14 = z14, vs 15 = z15, vs 16 = z16, vs 17 = z17, vs 18 = z18, vs 19 = z19, vs 20 = z20, vs 21 = z21, vs 22 = z22, vs 23 = z23, vs 24 = z24, vs 25 = z25, vs 26 = z26, vs 27 = z27, vs 28 = z28, vs 29 = z29, vs 30 = z30, vs 31 = z31, vs 32 = z32, vs 33 = z33, vs 34 = z34, vs 35 = z35, vs 36 = z36, vs 37 = z37, vs 38 = z38, vs 39 = z39, vs 40 = z40, vs 41 = z41, vs 42 = z42, vs 43 = z43, vs 44 = z44, vs 45 = z45, vs 46 = z46, vs 47 = z47, vs 48 = z48, vs 49 = z49, vs 50 = z50, vs 51 = z51, vs 52 = z52, vs 53 = z53 at *
        go_wp2
        go_ret
        exact ⟨by rw [HF.out]; rfl, hgW.out⟩
      have sv := str_eq hval
      have hval := Lib.hid hval
      by_cases hover : x.over = y.over
      case neg =>
        have HF : Hid (decide (a = b) = false) := e5.out hover
        have HO : Hid ((!decide (x.over = y.over)) = true) := by unfold Hid; rw [decide_eq_false hover]; rfl
        clear hover
        go_wp2
        refine wp_region_free 54 71 (by kernel_rfl) (by kernel_rfl) rfl (by kernel_rfl) ?_; simp only [List.take_succ_cons, List.take_zero, List.drop_succ_cons, List.drop_zero]
        repeat (first | (apply free_pure rfl; focus (intro vs w hg hd; have q0 := hg.cell a0; (try simp [Region.binds] at hd); simp only [execOp, resolve, Option.map_some, Option.map_none, List.map_toArray, List.map_cons, List.map_nil, rho_const, rho_func]; (repeat (conv in rho _ _ _ _ (Operand.tmp _) => whnf)); (try simp only [hd]); go_simp; (repeat (conv in rho _ _ _ _ (Operand.tmp _) => whnf)); (try simp only [hd]);  rfl)) | (apply free_gpure; (focus (intro vs w hg hd; (try simp [Region.binds] at hd); (first | (simp [Region.wanted, yieldR]; (repeat (conv in rho _ _ _ _ (Operand.tmp _) => whnf)); simp [hd]; done) | (simp [Region.wanted, yieldR]; (repeat (conv in rho _ _ _ _ (Operand.tmp _) => whnf)); simp [hd, undef]; done) | (simp [Region.wanted, yieldR]; (repeat (conv in rho _ _ _ _ (Operand.tmp _) => whnf)); (try simp [hd]); simp [*])))); focus (intro vs w hg hd; have q0 := hg.cell a0; (try simp [Region.binds] at hd); simp only [execOp, resolve, Option.map_some, Option.map_none, List.map_toArray, List.map_cons, List.map_nil, rho_const, rho_func]; (repeat (conv in rho _ _ _ _ (Operand.tmp _) => whnf)); (try simp only [hd]); go_simp; (repeat (conv in rho _ _ _ _ (Operand.tmp _) => whnf)); (try simp only [hd]);  rfl)))
        refine free_op (fun v_ _ => v_ = .string (str (x.key))) rfl (dk_mono _) (fun vs wq hg hd => by (have e1 := run_str (P := Tryd.prog) (Sl.below HK.out (Grows.of_drew hg)) 37 5 9 Tryd.underlying37 Tryd.underlying5 Tryd.underlying9; (try simp [Region.binds] at hd); simp only [Does]; simp only [execOp, resolve, Option.map_some, Option.map_none, List.map_toArray, List.map_cons, List.map_nil, rho_const, rho_func]; (repeat (conv in rho _ _ _ _ (Operand.tmp _) => whnf)); (try simp only [hd]); go_simp; (repeat (conv in rho _ _ _ _ (Operand.tmp _) => whnf)); exact Grows.refl _)) ?_
        repeat (first | (apply free_pure rfl; focus (intro vs w hg hd; have q0 := hg.cell b0; (try simp [Region.binds] at hd); simp only [execOp, resolve, Option.map_some, Option.map_none, List.map_toArray, List.map_cons, List.map_nil, rho_const, rho_func]; (repeat (conv in rho _ _ _ _ (Operand.tmp _) => whnf)); (try simp only [hd]); go_simp; (repeat (conv in rho _ _ _ _ (Operand.tmp _) => whnf)); (try simp only [hd]);  rfl)) | (apply free_gpure; (focus (intro vs w hg hd; (try simp [Region.binds] at hd); (first | (simp [Region.wanted, yieldR]; (repeat (conv in rho _ _ _ _ (Operand.tmp _) => whnf)); simp [hd]; done) | (simp [Region.wanted, yieldR]; (repeat (conv in rho _ _ _ _ (Operand.tmp _) => whnf)); simp [hd, undef]; done) | (simp [Region.wanted, yieldR]; (repeat (conv in rho _ _ _ _ (Operand.tmp _) => whnf)); (try simp [hd]); simp [*])))); focus (intro vs w hg hd; have q0 := hg.cell b0; (try simp [Region.binds] at hd); simp only [execOp, resolve, Option.map_some, Option.map_none, List.map_toArray, List.map_cons, List.map_nil, rho_const, rho_func]; (repeat (conv in rho _ _ _ _ (Operand.tmp _) => whnf)); (try simp only [hd]); go_simp; (repeat (conv in rho _ _ _ _ (Operand.tmp _) => whnf)); (try simp only [hd]);  rfl)))
        refine free_op (fun v_ _ => v_ = .string (str (y.key))) rfl (dk_mono _) (fun vs wq hg hd => by (have e1 := run_str (P := Tryd.prog) (Sl.below HK'.out (Grows.of_drew hg)) 37 5 9 Tryd.underlying37 Tryd.underlying5 Tryd.underlying9; (try simp [Region.binds] at hd); simp only [Does]; simp only [execOp, resolve, Option.map_some, Option.map_none, List.map_toArray, List.map_cons, List.map_nil, rho_const, rho_func]; (repeat (conv in rho _ _ _ _ (Operand.tmp _) => whnf)); (try simp only [hd]); go_simp; (repeat (conv in rho _ _ _ _ (Operand.tmp _) => whnf)); exact Grows.refl _)) ?_
        repeat (first | (apply free_pure rfl; focus (intro vs w hg hd;  (try simp [Region.binds] at hd); simp only [execOp, resolve, Option.map_some, Option.map_none, List.map_toArray, List.map_cons, List.map_nil, rho_const, rho_func]; (repeat (conv in rho _ _ _ _ (Operand.tmp _) => whnf)); (try simp only [hd]); go_simp; (repeat (conv in rho _ _ _ _ (Operand.tmp _) => whnf)); (try simp only [hd]); (try simp only [sk]); rfl)) | (apply free_gpure; (focus (intro vs w hg hd; (try simp [Region.binds] at hd); (first | (simp [Region.wanted, yieldR]; (repeat (conv in rho _ _ _ _ (Operand.tmp _) => whnf)); simp [hd]; done) | (simp [Region.wanted, yieldR]; (repeat (conv in rho _ _ _ _ (Operand.tmp _) => whnf)); simp [hd, undef]; done) | (simp [Region.wanted, yieldR]; (repeat (conv in rho _ _ _ _ (Operand.tmp _) => whnf)); (try simp [hd]); simp [*])))); focus (intro vs w hg hd;  (try simp [Region.binds] at hd); simp only [execOp, resolve, Option.map_some, Option.map_none, List.map_toArray, List.map_cons, List.map_nil, rho_const, rho_func]; (repeat (conv in rho _ _ _ _ (Operand.tmp _) => whnf)); (try simp only [hd]); go_simp; (repeat (conv in rho _ _ _ _ (Operand.tmp _) => whnf)); (try simp only [hd]); (try simp only [sk]); rfl)))
        repeat (first | (apply free_pure rfl; focus (intro vs w hg hd; have q0 := hg.cell a1; (try simp [Region.binds] at hd); simp only [execOp, resolve, Option.map_some, Option.map_none, List.map_toArray, List.map_cons, List.map_nil, rho_const, rho_func]; (repeat (conv in rho _ _ _ _ (Operand.tmp _) => whnf)); (try simp only [hd]); go_simp; (repeat (conv in rho _ _ _ _ (Operand.tmp _) => whnf)); (try simp only [hd]);  rfl)) | (apply free_gpure; (focus (intro vs w hg hd; (try simp [Region.binds] at hd); (first | (simp [Region.wanted, yieldR]; (repeat (conv in rho _ _ _ _ (Operand.tmp _) => whnf)); simp [hd]; done) | (simp [Region.wanted, yieldR]; (repeat (conv in rho _ _ _ _ (Operand.tmp _) => whnf)); simp [hd, undef]; done) | (simp [Region.wanted, yieldR]; (repeat (conv in rho _ _ _ _ (Operand.tmp _) => whnf)); (try simp [hd]); simp [*])))); focus (intro vs w hg hd; have q0 := hg.cell a1; (try simp [Region.binds] at hd); simp only [execOp, resolve, Option.map_some, Option.map_none, List.map_toArray, List.map_cons, List.map_nil, rho_const, rho_func]; (repeat (conv in rho _ _ _ _ (Operand.tmp _) => whnf)); (try simp only [hd]); go_simp; (repeat (conv in rho _ _ _ _ (Operand.tmp _) => whnf)); (try simp only [hd]);  rfl)))
        refine free_guarded (fun v_ _ => v_ = .string (str (x.val))) (dk_mono _) (fun vs wq hg hd => by ((try simp [Region.binds] at hd); refine ⟨?_, ?_⟩; (focus (first | (simp [Region.wanted, yieldR]; (repeat (conv in rho _ _ _ _ (Operand.tmp _) => whnf)); simp [hd]; done) | (simp [Region.wanted, yieldR]; (repeat (conv in rho _ _ _ _ (Operand.tmp _) => whnf)); simp [hd, undef]; done) | (simp [Region.wanted, yieldR]; (repeat (conv in rho _ _ _ _ (Operand.tmp _) => whnf)); (try simp [hd]); simp [*]))); (focus (have e1 := run_str (P := Tryd.prog) (Sl.below HV.out (Grows.of_drew hg)) 37 5 9 Tryd.underlying37 Tryd.underlying5 Tryd.underlying9; simp only [Does]; simp only [execOp, resolve, Option.map_some, Option.map_none, List.map_toArray, List.map_cons, List.map_nil, rho_const, rho_func]; (repeat (conv in rho _ _ _ _ (Operand.tmp _) => whnf)); (try simp only [hd]); go_simp; (repeat (conv in rho _ _ _ _ (Operand.tmp _) => whnf)); exact Grows.refl _)))) ?_
        repeat (first | (apply free_pure rfl; focus (intro vs w hg hd; have q0 := hg.cell b1; (try simp [Region.binds] at hd); simp only [execOp, resolve, Option.map_some, Option.map_none, List.map_toArray, List.map_cons, List.map_nil, rho_const, rho_func]; (repeat (conv in rho _ _ _ _ (Operand.tmp _) => whnf)); (try simp only [hd]); go_simp; (repeat (conv in rho _ _ _ _ (Operand.tmp _) => whnf)); (try simp only [hd]);  rfl)) | (apply free_gpure; (focus (intro vs w hg hd; (try simp [Region.binds] at hd); (first | (simp [Region.wanted, yieldR]; (repeat (conv in rho _ _ _ _ (Operand.tmp _) => whnf)); simp [hd]; done) | (simp [Region.wanted, yieldR]; (repeat (conv in rho _ _ _ _ (Operand.tmp _) => whnf)); simp [hd, undef]; done) | (simp [Region.wanted, yieldR]; (repeat (conv in rho _ _ _ _ (Operand.tmp _) => whnf)); (try simp [hd]); simp [*])))); focus (intro vs w hg hd; have q0 := hg.cell b1; (try simp [Region.binds] at hd); simp only [execOp, resolve, Option.map_some, Option.map_none, List.map_toArray, List.map_cons, List.map_nil, rho_const, rho_func]; (repeat (conv in rho _ _ _ _ (Operand.tmp _) => whnf)); (try simp only [hd]); go_simp; (repeat (conv in rho _ _ _ _ (Operand.tmp _) => whnf)); (try simp only [hd]);  rfl)))
        refine free_guarded (fun v_ _ => v_ = .string (str (y.val))) (dk_mono _) (fun vs wq hg hd => by ((try simp [Region.binds] at hd); refine ⟨?_, ?_⟩; (focus (first | (simp [Region.wanted, yieldR]; (repeat (conv in rho _ _ _ _ (Operand.tmp _) => whnf)); simp [hd]; done) | (simp [Region.wanted, yieldR]; (repeat (conv in rho _ _ _ _ (Operand.tmp _) => whnf)); simp [hd, undef]; done) | (simp [Region.wanted, yieldR]; (repeat (conv in rho _ _ _ _ (Operand.tmp _) => whnf)); (try simp [hd]); simp [*]))); (focus (have e1 := run_str (P := Tryd.prog) (Sl.below HV'.out (Grows.of_drew hg)) 37 5 9 Tryd.underlying37 Tryd.underlying5 Tryd.underlying9; simp only [Does]; simp only [execOp, resolve, Option.map_some, Option.map_none, List.map_toArray, List.map_cons, List.map_nil, rho_const, rho_func]; (repeat (conv in rho _ _ _ _ (Operand.tmp _) => whnf)); (try simp only [hd]); go_simp; (repeat (conv in rho _ _ _ _ (Operand.tmp _) => whnf)); exact Grows.refl _)))) ?_
        repeat (first | (apply free_pure rfl; focus (intro vs w hg hd;  (try simp [Region.binds] at hd); simp only [execOp, resolve, Option.map_some, Option.map_none, List.map_toArray, List.map_cons, List.map_nil, rho_const, rho_func]; (repeat (conv in rho _ _ _ _ (Operand.tmp _) => whnf)); (try simp only [hd]); go_simp; (repeat (conv in rho _ _ _ _ (Operand.tmp _) => whnf)); (try simp only [hd]); (try simp only [sv]); rfl)) | (apply free_gpure; (focus (intro vs w hg hd; (try simp [Region.binds] at hd); (first | (simp [Region.wanted, yieldR]; (repeat (conv in rho _ _ _ _ (Operand.tmp _) => whnf)); simp [hd]; done) | (simp [Region.wanted, yieldR]; (repeat (conv in rho _ _ _ _ (Operand.tmp _) => whnf)); simp [hd, undef]; done) | (simp [Region.wanted, yieldR]; (repeat (conv in rho _ _ _ _ (Operand.tmp _) => whnf)); (try simp [hd]); simp [*])))); focus (intro vs w hg hd;  (try simp [Region.binds] at hd); simp only [execOp, resolve, Option.map_some, Option.map_none, List.map_toArray, List.map_cons, List.map_nil, rho_const, rho_func]; (repeat (conv in rho _ _ _ _ (Operand.tmp _) => whnf)); (try simp only [hd]); go_simp; (repeat (conv in rho _ _ _ _ (Operand.tmp _) => whnf)); (try simp only [hd]); (try simp only [sv]); rfl)))
        refine free_guarded (fun v_ _ => v_ = .agg (ptA x.over)) (dk_mono _) (fun vs wq hg hd => by
          (try simp [Region.binds] at hd)
          refine ⟨?_, ?_⟩
          · (first | (simp [Region.wanted, yieldR]; (repeat (conv in rho _ _ _ _ (Operand.tmp _) => whnf)); simp [hd]; done) | (simp [Region.wanted, yieldR]; (repeat (conv in rho _ _ _ _ (Operand.tmp _) => whnf)); simp [hd, undef]; done) | (simp [Region.wanted, yieldR]; (repeat (conv in rho _ _ _ _ (Operand.tmp _) => whnf)); (try simp [hd]); simp [*]))
          · refine dk_load 43 (.tmp 49) ⟨g1, o1 + k * 8 + 2, none⟩ _ rfl ?_ (ptr_run_load (range_grows HP.out (Grows.of_drew hg))) ⟨Grows.refl _, rfl⟩
            (conv in rho _ _ _ _ (Operand.tmp _) => whnf)
            simp [hd]) ?_
        repeat (first | (apply free_pure rfl; focus (intro vs w hg hd;  (try simp [Region.binds] at hd); simp only [execOp, resolve, Option.map_some, Option.map_none, List.map_toArray, List.map_cons, List.map_nil, rho_const, rho_func]; (repeat (conv in rho _ _ _ _ (Operand.tmp _) => whnf)); (try simp only [hd]); go_simp; (repeat (conv in rho _ _ _ _ (Operand.tmp _) => whnf)); (try simp only [hd]);  rfl)) | (apply free_gpure; (focus (intro vs w hg hd; (try simp [Region.binds] at hd); (first | (simp [Region.wanted, yieldR]; (repeat (conv in rho _ _ _ _ (Operand.tmp _) => whnf)); simp [hd]; done) | (simp [Region.wanted, yieldR]; (repeat (conv in rho _ _ _ _ (Operand.tmp _) => whnf)); simp [hd, undef]; done) | (simp [Region.wanted, yieldR]; (repeat (conv in rho _ _ _ _ (Operand.tmp _) => whnf)); (try simp [hd]); simp [*])))); focus (intro vs w hg hd;  (try simp [Region.binds] at hd); simp only [execOp, resolve, Option.map_some, Option.map_none, List.map_toArray, List.map_cons, List.map_nil, rho_const, rho_func]; (repeat (conv in rho _ _ _ _ (Operand.tmp _) => whnf)); (try simp only [hd]); go_simp; (repeat (conv in rho _ _ _ _ (Operand.tmp _) => whnf)); (try simp only [hd]);  rfl)))
        refine free_guarded (fun v_ _ => v_ = .agg (ptA y.over)) (dk_mono _) (fun vs wq hg hd => by
          (try simp [Region.binds] at hd)
          refine ⟨?_, ?_⟩
          · (first | (simp [Region.wanted, yieldR]; (repeat (conv in rho _ _ _ _ (Operand.tmp _) => whnf)); simp [hd]; done) | (simp [Region.wanted, yieldR]; (repeat (conv in rho _ _ _ _ (Operand.tmp _) => whnf)); simp [hd, undef]; done) | (simp [Region.wanted, yieldR]; (repeat (conv in rho _ _ _ _ (Operand.tmp _) => whnf)); (try simp [hd]); simp [*]))
          · refine dk_load 43 (.tmp 54) ⟨g2, o2 + k * 8 + 2, none⟩ _ rfl ?_ (ptr_run_load (range_grows HP'.out (Grows.of_drew hg))) ⟨Grows.refl _, rfl⟩
            (conv in rho _ _ _ _ (Operand.tmp _) => whnf)
            simp [hd]) ?_
        refine free_guarded (fun v_ _ => v_ = .bool true) (dk_mono _) (fun vs wq hg hd => by
          (try simp [Region.binds] at hd)
          refine ⟨?_, ?_⟩
          · (first | (simp [Region.wanted, yieldR]; (repeat (conv in rho _ _ _ _ (Operand.tmp _) => whnf)); simp [hd]; done) | (simp [Region.wanted, yieldR]; (repeat (conv in rho _ _ _ _ (Operand.tmp _) => whnf)); simp [hd, undef]; done) | (simp [Region.wanted, yieldR]; (repeat (conv in rho _ _ _ _ (Operand.tmp _) => whnf)); (try simp [hd]); simp [*]))
          · refine does_neq_pt (.tmp 50) (.tmp 55) x.over y.over 43 rfl ?_ ?_ ?_
            · (conv in rho _ _ _ _ (Operand.tmp _) => whnf)
              simp [hd]
            · (conv in rho _ _ _ _ (Operand.tmp _) => whnf)
              simp [hd]
            · rw [HO.out]
              exact ⟨Grows.refl _, rfl⟩) ?_
        repeat (first | (apply free_pure rfl; focus (intro vs w hg hd;  (try simp [Region.binds] at hd); simp only [execOp, resolve, Option.map_some, Option.map_none, List.map_toArray, List.map_cons, List.map_nil, rho_const, rho_func]; (repeat (conv in rho _ _ _ _ (Operand.tmp _) => whnf)); (try simp only [hd]); go_simp; (repeat (conv in rho _ _ _ _ (Operand.tmp _) => whnf)); (try simp only [hd]);  rfl)) | (apply free_gpure; (focus (intro vs w hg hd; (try simp [Region.binds] at hd); (first | (simp [Region.wanted, yieldR]; (repeat (conv in rho _ _ _ _ (Operand.tmp _) => whnf)); simp [hd]; done) | (simp [Region.wanted, yieldR]; (repeat (conv in rho _ _ _ _ (Operand.tmp _) => whnf)); simp [hd, undef]; done) | (simp [Region.wanted, yieldR]; (repeat (conv in rho _ _ _ _ (Operand.tmp _) => whnf)); (try simp [hd]); simp [*])))); focus (intro vs w hg hd;  (try simp [Region.binds] at hd); simp only [execOp, resolve, Option.map_some, Option.map_none, List.map_toArray, List.map_cons, List.map_nil, rho_const, rho_func]; (repeat (conv in rho _ _ _ _ (Operand.tmp _) => whnf)); (try simp only [hd]); go_simp; (repeat (conv in rho _ _ _ _ (Operand.tmp _) => whnf)); (try simp only [hd]);  rfl)))
        repeat (refine free_passed (fun vs wq hg hd => ?_) ?_; focus ((try simp [Region.binds] at hd); (first | (simp [Region.wanted, yieldR]; (repeat (conv in rho _ _ _ _ (Operand.tmp _) => whnf)); simp [hd]; done) | (simp [Region.wanted, yieldR]; (repeat (conv in rho _ _ _ _ (Operand.tmp _) => whnf)); simp [hd, undef]; done) | (simp [Region.wanted, yieldR]; (repeat (conv in rho _ _ _ _ (Operand.tmp _) => whnf)); (try simp [hd]); simp [*]))))
        repeat (first | (apply free_pure rfl; focus (intro vs w hg hd;  (try simp [Region.binds] at hd); simp only [execOp, resolve, Option.map_some, Option.map_none, List.map_toArray, List.map_cons, List.map_nil, rho_const, rho_func]; (repeat (conv in rho _ _ _ _ (Operand.tmp _) => whnf)); (try simp only [hd]); go_simp; (repeat (conv in rho _ _ _ _ (Operand.tmp _) => whnf)); (try simp only [hd]);  rfl)) | (apply free_gpure; (focus (intro vs w hg hd; (try simp [Region.binds] at hd); (first | (simp [Region.wanted, yieldR]; (repeat (conv in rho _ _ _ _ (Operand.tmp _) => whnf)); simp [hd]; done) | (simp [Region.wanted, yieldR]; (repeat (conv in rho _ _ _ _ (Operand.tmp _) => whnf)); simp [hd, undef]; done) | (simp [Region.wanted, yieldR]; (repeat (conv in rho _ _ _ _ (Operand.tmp _) => whnf)); (try simp [hd]); simp [*])))); focus (intro vs w hg hd;  (try simp [Region.binds] at hd); simp only [execOp, resolve, Option.map_some, Option.map_none, List.map_toArray, List.map_cons, List.map_nil, rho_const, rho_func]; (repeat (conv in rho _ _ _ _ (Operand.tmp _) => whnf)); (try simp only [hd]); go_simp; (repeat (conv in rho _ _ _ _ (Operand.tmp _) => whnf)); (try simp only [hd]);  rfl)))
        intro vs w' hg hv; have h53 := hv 53 (by omega); simp at h53; simp only [putL, dstAt, List.range, List.range.loop, if_true, List.getElem?_toArray, List.getElem?_cons_zero, List.getElem?_cons_succ, Option.bind_some, Act.put, List.setIfInBounds_toArray, List.set_cons_zero, List.set_cons_succ]
        rw [h53]
        have hgW := Lib.hid (HB.out.trans (Grows.of_drew hg))
        clear hv h53 hg
        generalize vs 0 = z0, vs 1 = z1, vs 2 = z2, vs 3 = z3, vs 4 = z4, vs 5 = z5, vs 6 = z6, vs 7 = z7, vs 8 = z8, vs 9 = z9, vs 10 = z10, vs 11 = z11, vs 12 = z12, vs 13 = z13, vs 14 = z14, vs 15 = z15, vs 16 = z16, vs 17 = z17, vs 18 = z18, vs 19 = z19, vs 20 = z20, vs 21 = z21, vs 22 = z22, vs 23 = z23, vs 24 = z24, vs 25 = z25, vs 26 = z26, vs 27 = z27, vs 28 = z28, vs 29 = z29, vs 30 = z30, vs 31 = z31, vs 32 = z32, vs 33 = z33, vs 34 = z34, vs 35 = z35, vs 36 = z36, vs 37 = z37, vs 38 = z38, vs 39 = z39, vs 40 = z40, vs 41 = z41, vs 42 = z42, vs 43 = z43, vs 44 = z44, vs 45 = z45, vs 46 = z46, vs 47 = z47, vs 48 = z48, vs 49 = z49, vs 50 = z50, vs 51 = z51, vs 52 = z52, vs 53 = z53 at *
        go_wp2
        go_ret
        exact ⟨by rw [HF.out]; rfl, hgW.out⟩
      have HO : Hid ((!decide (x.over = y.over)) = false) := by unfold Hid; rw [decide_eq_true hover]; rfl
      have hover := Lib.hid hover
      by_cases hsize : x.size = y.size
      case neg =>
        have HF : Hid (decide (a = b) = false) := e6.out hsize
        have ss : (hI x.size == hI y.size) = false := by rw [hI_beq]; simpa using hsize
        have st : (hI x.size != hI y.size) = true := by rw [bne, ss]; rfl
        clear hsize
        go_wp2
        refine wp_region_free 54 71 (by kernel_rfl) (by kernel_rfl) rfl (by kernel_rfl) ?_; simp only [List.take_succ_cons, List.take_zero, List.drop_succ_cons, List.drop_zero]
        repeat (first | (apply free_pure rfl; focus (intro vs w hg hd; have q0 := hg.cell a0; (try simp [Region.binds] at hd); simp only [execOp, resolve, Option.map_some, Option.map_none, List.map_toArray, List.map_cons, List.map_nil, rho_const, rho_func]; (repeat (conv in rho _ _ _ _ (Operand.tmp _) => whnf)); (try simp only [hd]); go_simp; (repeat (conv in rho _ _ _ _ (Operand.tmp _) => whnf)); (try simp only [hd]);  rfl)) | (apply free_gpure; (focus (intro vs w hg hd; (try simp [Region.binds] at hd); (first | (simp [Region.wanted, yieldR]; (repeat (conv in rho _ _ _ _ (Operand.tmp _) => whnf)); simp [hd]; done) | (simp [Region.wanted, yieldR]; (repeat (conv in rho _ _ _ _ (Operand.tmp _) => whnf)); simp [hd, undef]; done) | (simp [Region.wanted, yieldR]; (repeat (conv in rho _ _ _ _ (Operand.tmp _) => whnf)); (try simp [hd]); simp [*])))); focus (intro vs w hg hd; have q0 := hg.cell a0; (try simp [Region.binds] at hd); simp only [execOp, resolve, Option.map_some, Option.map_none, List.map_toArray, List.map_cons, List.map_nil, rho_const, rho_func]; (repeat (conv in rho _ _ _ _ (Operand.tmp _) => whnf)); (try simp only [hd]); go_simp; (repeat (conv in rho _ _ _ _ (Operand.tmp _) => whnf)); (try simp only [hd]);  rfl)))
        refine free_op (fun v_ _ => v_ = .string (str (x.key))) rfl (dk_mono _) (fun vs wq hg hd => by (have e1 := run_str (P := Tryd.prog) (Sl.below HK.out (Grows.of_drew hg)) 37 5 9 Tryd.underlying37 Tryd.underlying5 Tryd.underlying9; (try simp [Region.binds] at hd); simp only [Does]; simp only [execOp, resolve, Option.map_some, Option.map_none, List.map_toArray, List.map_cons, List.map_nil, rho_const, rho_func]; (repeat (conv in rho _ _ _ _ (Operand.tmp _) => whnf)); (try simp only [hd]); go_simp; (repeat (conv in rho _ _ _ _ (Operand.tmp _) => whnf)); exact Grows.refl _)) ?_
        repeat (first | (apply free_pure rfl; focus (intro vs w hg hd; have q0 := hg.cell b0; (try simp [Region.binds] at hd); simp only [execOp, resolve, Option.map_some, Option.map_none, List.map_toArray, List.map_cons, List.map_nil, rho_const, rho_func]; (repeat (conv in rho _ _ _ _ (Operand.tmp _) => whnf)); (try simp only [hd]); go_simp; (repeat (conv in rho _ _ _ _ (Operand.tmp _) => whnf)); (try simp only [hd]);  rfl)) | (apply free_gpure; (focus (intro vs w hg hd; (try simp [Region.binds] at hd); (first | (simp [Region.wanted, yieldR]; (repeat (conv in rho _ _ _ _ (Operand.tmp _) => whnf)); simp [hd]; done) | (simp [Region.wanted, yieldR]; (repeat (conv in rho _ _ _ _ (Operand.tmp _) => whnf)); simp [hd, undef]; done) | (simp [Region.wanted, yieldR]; (repeat (conv in rho _ _ _ _ (Operand.tmp _) => whnf)); (try simp [hd]); simp [*])))); focus (intro vs w hg hd; have q0 := hg.cell b0; (try simp [Region.binds] at hd); simp only [execOp, resolve, Option.map_some, Option.map_none, List.map_toArray, List.map_cons, List.map_nil, rho_const, rho_func]; (repeat (conv in rho _ _ _ _ (Operand.tmp _) => whnf)); (try simp only [hd]); go_simp; (repeat (conv in rho _ _ _ _ (Operand.tmp _) => whnf)); (try simp only [hd]);  rfl)))
        refine free_op (fun v_ _ => v_ = .string (str (y.key))) rfl (dk_mono _) (fun vs wq hg hd => by (have e1 := run_str (P := Tryd.prog) (Sl.below HK'.out (Grows.of_drew hg)) 37 5 9 Tryd.underlying37 Tryd.underlying5 Tryd.underlying9; (try simp [Region.binds] at hd); simp only [Does]; simp only [execOp, resolve, Option.map_some, Option.map_none, List.map_toArray, List.map_cons, List.map_nil, rho_const, rho_func]; (repeat (conv in rho _ _ _ _ (Operand.tmp _) => whnf)); (try simp only [hd]); go_simp; (repeat (conv in rho _ _ _ _ (Operand.tmp _) => whnf)); exact Grows.refl _)) ?_
        repeat (first | (apply free_pure rfl; focus (intro vs w hg hd;  (try simp [Region.binds] at hd); simp only [execOp, resolve, Option.map_some, Option.map_none, List.map_toArray, List.map_cons, List.map_nil, rho_const, rho_func]; (repeat (conv in rho _ _ _ _ (Operand.tmp _) => whnf)); (try simp only [hd]); go_simp; (repeat (conv in rho _ _ _ _ (Operand.tmp _) => whnf)); (try simp only [hd]); (try simp only [sk]); rfl)) | (apply free_gpure; (focus (intro vs w hg hd; (try simp [Region.binds] at hd); (first | (simp [Region.wanted, yieldR]; (repeat (conv in rho _ _ _ _ (Operand.tmp _) => whnf)); simp [hd]; done) | (simp [Region.wanted, yieldR]; (repeat (conv in rho _ _ _ _ (Operand.tmp _) => whnf)); simp [hd, undef]; done) | (simp [Region.wanted, yieldR]; (repeat (conv in rho _ _ _ _ (Operand.tmp _) => whnf)); (try simp [hd]); simp [*])))); focus (intro vs w hg hd;  (try simp [Region.binds] at hd); simp only [execOp, resolve, Option.map_some, Option.map_none, List.map_toArray, List.map_cons, List.map_nil, rho_const, rho_func]; (repeat (conv in rho _ _ _ _ (Operand.tmp _) => whnf)); (try simp only [hd]); go_simp; (repeat (conv in rho _ _ _ _ (Operand.tmp _) => whnf)); (try simp only [hd]); (try simp only [sk]); rfl)))
        repeat (first | (apply free_pure rfl; focus (intro vs w hg hd; have q0 := hg.cell a1; (try simp [Region.binds] at hd); simp only [execOp, resolve, Option.map_some, Option.map_none, List.map_toArray, List.map_cons, List.map_nil, rho_const, rho_func]; (repeat (conv in rho _ _ _ _ (Operand.tmp _) => whnf)); (try simp only [hd]); go_simp; (repeat (conv in rho _ _ _ _ (Operand.tmp _) => whnf)); (try simp only [hd]);  rfl)) | (apply free_gpure; (focus (intro vs w hg hd; (try simp [Region.binds] at hd); (first | (simp [Region.wanted, yieldR]; (repeat (conv in rho _ _ _ _ (Operand.tmp _) => whnf)); simp [hd]; done) | (simp [Region.wanted, yieldR]; (repeat (conv in rho _ _ _ _ (Operand.tmp _) => whnf)); simp [hd, undef]; done) | (simp [Region.wanted, yieldR]; (repeat (conv in rho _ _ _ _ (Operand.tmp _) => whnf)); (try simp [hd]); simp [*])))); focus (intro vs w hg hd; have q0 := hg.cell a1; (try simp [Region.binds] at hd); simp only [execOp, resolve, Option.map_some, Option.map_none, List.map_toArray, List.map_cons, List.map_nil, rho_const, rho_func]; (repeat (conv in rho _ _ _ _ (Operand.tmp _) => whnf)); (try simp only [hd]); go_simp; (repeat (conv in rho _ _ _ _ (Operand.tmp _) => whnf)); (try simp only [hd]);  rfl)))
        refine free_guarded (fun v_ _ => v_ = .string (str (x.val))) (dk_mono _) (fun vs wq hg hd => by ((try simp [Region.binds] at hd); refine ⟨?_, ?_⟩; (focus (first | (simp [Region.wanted, yieldR]; (repeat (conv in rho _ _ _ _ (Operand.tmp _) => whnf)); simp [hd]; done) | (simp [Region.wanted, yieldR]; (repeat (conv in rho _ _ _ _ (Operand.tmp _) => whnf)); simp [hd, undef]; done) | (simp [Region.wanted, yieldR]; (repeat (conv in rho _ _ _ _ (Operand.tmp _) => whnf)); (try simp [hd]); simp [*]))); (focus (have e1 := run_str (P := Tryd.prog) (Sl.below HV.out (Grows.of_drew hg)) 37 5 9 Tryd.underlying37 Tryd.underlying5 Tryd.underlying9; simp only [Does]; simp only [execOp, resolve, Option.map_some, Option.map_none, List.map_toArray, List.map_cons, List.map_nil, rho_const, rho_func]; (repeat (conv in rho _ _ _ _ (Operand.tmp _) => whnf)); (try simp only [hd]); go_simp; (repeat (conv in rho _ _ _ _ (Operand.tmp _) => whnf)); exact Grows.refl _)))) ?_
        repeat (first | (apply free_pure rfl; focus (intro vs w hg hd; have q0 := hg.cell b1; (try simp [Region.binds] at hd); simp only [execOp, resolve, Option.map_some, Option.map_none, List.map_toArray, List.map_cons, List.map_nil, rho_const, rho_func]; (repeat (conv in rho _ _ _ _ (Operand.tmp _) => whnf)); (try simp only [hd]); go_simp; (repeat (conv in rho _ _ _ _ (Operand.tmp _) => whnf)); (try simp only [hd]);  rfl)) | (apply free_gpure; (focus (intro vs w hg hd; (try simp [Region.binds] at hd); (first | (simp [Region.wanted, yieldR]; (repeat (conv in rho _ _ _ _ (Operand.tmp _) => whnf)); simp [hd]; done) | (simp [Region.wanted, yieldR]; (repeat (conv in rho _ _ _ _ (Operand.tmp _) => whnf)); simp [hd, undef]; done) | (simp [Region.wanted, yieldR]; (repeat (conv in rho _ _ _ _ (Operand.tmp _) => whnf)); (try simp [hd]); simp [*])))); focus (intro vs w hg hd; have q0 := hg.cell b1; (try simp [Region.binds] at hd); simp only [execOp, resolve, Option.map_some, Option.map_none, List.map_toArray, List.map_cons, List.map_nil, rho_const, rho_func]; (repeat (conv in rho _ _ _ _ (Operand.tmp _) => whnf)); (try simp only [hd]); go_simp; (repeat (conv in rho _ _ _ _ (Operand.tmp _) => whnf)); (try simp only [hd]);  rfl)))
        refine free_guarded (fun v_ _ => v_ = .string (str (y.val))) (dk_mono _) (fun vs wq hg hd => by ((try simp [Region.binds] at hd); refine ⟨?_, ?_⟩; (focus (first | (simp [Region.wanted, yieldR]; (repeat (conv in rho _ _ _ _ (Operand.tmp _) => whnf)); simp [hd]; done) | (simp [Region.wanted, yieldR]; (repeat (conv in rho _ _ _ _ (Operand.tmp _) => whnf)); simp [hd, undef]; done) | (simp [Region.wanted, yieldR]; (repeat (conv in rho _ _ _ _ (Operand.tmp _) => whnf)); (try simp [hd]); simp [*]))); (focus (have e1 := run_str (P := Tryd.prog) (Sl.below HV'.out (Grows.of_drew hg)) 37 5 9 Tryd.underlying37 Tryd.underlying5 Tryd.underlying9; simp only [Does]; simp only [execOp, resolve, Option.map_some, Option.map_none, List.map_toArray, List.map_cons, List.map_nil, rho_const, rho_func]; (repeat (conv in rho _ _ _ _ (Operand.tmp _) => whnf)); (try simp only [hd]); go_simp; (repeat (conv in rho _ _ _ _ (Operand.tmp _) => whnf)); exact Grows.refl _)))) ?_
        repeat (first | (apply free_pure rfl; focus (intro vs w hg hd;  (try simp [Region.binds] at hd); simp only [execOp, resolve, Option.map_some, Option.map_none, List.map_toArray, List.map_cons, List.map_nil, rho_const, rho_func]; (repeat (conv in rho _ _ _ _ (Operand.tmp _) => whnf)); (try simp only [hd]); go_simp; (repeat (conv in rho _ _ _ _ (Operand.tmp _) => whnf)); (try simp only [hd]); (try simp only [sv]); rfl)) | (apply free_gpure; (focus (intro vs w hg hd; (try simp [Region.binds] at hd); (first | (simp [Region.wanted, yieldR]; (repeat (conv in rho _ _ _ _ (Operand.tmp _) => whnf)); simp [hd]; done) | (simp [Region.wanted, yieldR]; (repeat (conv in rho _ _ _ _ (Operand.tmp _) => whnf)); simp [hd, undef]; done) | (simp [Region.wanted, yieldR]; (repeat (conv in rho _ _ _ _ (Operand.tmp _) => whnf)); (try simp [hd]); simp [*])))); focus (intro vs w hg hd;  (try simp [Region.binds] at hd); simp only [execOp, resolve, Option.map_some, Option.map_none, List.map_toArray, List.map_cons, List.map_nil, rho_const, rho_func]; (repeat (conv in rho _ _ _ _ (Operand.tmp _) => whnf)); (try simp only [hd]); go_simp; (repeat (conv in rho _ _ _ _ (Operand.tmp _) => whnf)); (try simp only [hd]); (try simp only [sv]); rfl)))
        refine free_guarded (fun v_ _ => v_ = .agg (ptA x.over)) (dk_mono _) (fun vs wq hg hd => by
          (try simp [Region.binds] at hd)
          refine ⟨?_, ?_⟩
          · (first | (simp [Region.wanted, yieldR]; (repeat (conv in rho _ _ _ _ (Operand.tmp _) => whnf)); simp [hd]; done) | (simp [Region.wanted, yieldR]; (repeat (conv in rho _ _ _ _ (Operand.tmp _) => whnf)); simp [hd, undef]; done) | (simp [Region.wanted, yieldR]; (repeat (conv in rho _ _ _ _ (Operand.tmp _) => whnf)); (try simp [hd]); simp [*]))
          · refine dk_load 43 (.tmp 49) ⟨g1, o1 + k * 8 + 2, none⟩ _ rfl ?_ (ptr_run_load (range_grows HP.out (Grows.of_drew hg))) ⟨Grows.refl _, rfl⟩
            (conv in rho _ _ _ _ (Operand.tmp _) => whnf)
            simp [hd]) ?_
        repeat (first | (apply free_pure rfl; focus (intro vs w hg hd;  (try simp [Region.binds] at hd); simp only [execOp, resolve, Option.map_some, Option.map_none, List.map_toArray, List.map_cons, List.map_nil, rho_const, rho_func]; (repeat (conv in rho _ _ _ _ (Operand.tmp _) => whnf)); (try simp only [hd]); go_simp; (repeat (conv in rho _ _ _ _ (Operand.tmp _) => whnf)); (try simp only [hd]);  rfl)) | (apply free_gpure; (focus (intro vs w hg hd; (try simp [Region.binds] at hd); (first | (simp [Region.wanted, yieldR]; (repeat (conv in rho _ _ _ _ (Operand.tmp _) => whnf)); simp [hd]; done) | (simp [Region.wanted, yieldR]; (repeat (conv in rho _ _ _ _ (Operand.tmp _) => whnf)); simp [hd, undef]; done) | (simp [Region.wanted, yieldR]; (repeat (conv in rho _ _ _ _ (Operand.tmp _) => whnf)); (try simp [hd]); simp [*])))); focus (intro vs w hg hd;  (try simp [Region.binds] at hd); simp only [execOp, resolve, Option.map_some, Option.map_none, List.map_toArray, List.map_cons, List.map_nil, rho_const, rho_func]; (repeat (conv in rho _ _ _ _ (Operand.tmp _) => whnf)); (try simp only [hd]); go_simp; (repeat (conv in rho _ _ _ _ (Operand.tmp _) => whnf)); (try simp only [hd]);  rfl)))
        refine free_guarded (fun v_ _ => v_ = .agg (ptA y.over)) (dk_mono _) (fun vs wq hg hd => by
          (try simp [Region.binds] at hd)
          refine ⟨?_, ?_⟩
          · (first | (simp [Region.wanted, yieldR]; (repeat (conv in rho _ _ _ _ (Operand.tmp _) => whnf)); simp [hd]; done) | (simp [Region.wanted, yieldR]; (repeat (conv in rho _ _ _ _ (Operand.tmp _) => whnf)); simp [hd, undef]; done) | (simp [Region.wanted, yieldR]; (repeat (conv in rho _ _ _ _ (Operand.tmp _) => whnf)); (try simp [hd]); simp [*]))
          · refine dk_load 43 (.tmp 54) ⟨g2, o2 + k * 8 + 2, none⟩ _ rfl ?_ (ptr_run_load (range_grows HP'.out (Grows.of_drew hg))) ⟨Grows.refl _, rfl⟩
            (conv in rho _ _ _ _ (Operand.tmp _) => whnf)
            simp [hd]) ?_
        refine free_guarded (fun v_ _ => v_ = .bool false) (dk_mono _) (fun vs wq hg hd => by
          (try simp [Region.binds] at hd)
          refine ⟨?_, ?_⟩
          · (first | (simp [Region.wanted, yieldR]; (repeat (conv in rho _ _ _ _ (Operand.tmp _) => whnf)); simp [hd]; done) | (simp [Region.wanted, yieldR]; (repeat (conv in rho _ _ _ _ (Operand.tmp _) => whnf)); simp [hd, undef]; done) | (simp [Region.wanted, yieldR]; (repeat (conv in rho _ _ _ _ (Operand.tmp _) => whnf)); (try simp [hd]); simp [*]))
          · refine does_neq_pt (.tmp 50) (.tmp 55) x.over y.over 43 rfl ?_ ?_ ?_
            · (conv in rho _ _ _ _ (Operand.tmp _) => whnf)
              simp [hd]
            · (conv in rho _ _ _ _ (Operand.tmp _) => whnf)
              simp [hd]
            · rw [HO.out]
              exact ⟨Grows.refl _, rfl⟩) ?_
        repeat (first | (apply free_pure rfl; focus (intro vs w hg hd;  (try simp [Region.binds] at hd); simp only [execOp, resolve, Option.map_some, Option.map_none, List.map_toArray, List.map_cons, List.map_nil, rho_const, rho_func]; (repeat (conv in rho _ _ _ _ (Operand.tmp _) => whnf)); (try simp only [hd]); go_simp; (repeat (conv in rho _ _ _ _ (Operand.tmp _) => whnf)); (try simp only [hd]);  rfl)) | (apply free_gpure; (focus (intro vs w hg hd; (try simp [Region.binds] at hd); (first | (simp [Region.wanted, yieldR]; (repeat (conv in rho _ _ _ _ (Operand.tmp _) => whnf)); simp [hd]; done) | (simp [Region.wanted, yieldR]; (repeat (conv in rho _ _ _ _ (Operand.tmp _) => whnf)); simp [hd, undef]; done) | (simp [Region.wanted, yieldR]; (repeat (conv in rho _ _ _ _ (Operand.tmp _) => whnf)); (try simp [hd]); simp [*])))); focus (intro vs w hg hd;  (try simp [Region.binds] at hd); simp only [execOp, resolve, Option.map_some, Option.map_none, List.map_toArray, List.map_cons, List.map_nil, rho_const, rho_func]; (repeat (conv in rho _ _ _ _ (Operand.tmp _) => whnf)); (try simp only [hd]); go_simp; (repeat (conv in rho _ _ _ _ (Operand.tmp _) => whnf)); (try simp only [hd]);  rfl)))
        repeat (first | (apply free_pure rfl; focus (intro vs w hg hd; have q0 := hg.cell a3; have q1 := hg.cell b3; (try simp [Region.binds] at hd); simp only [execOp, resolve, Option.map_some, Option.map_none, List.map_toArray, List.map_cons, List.map_nil, rho_const, rho_func]; (repeat (conv in rho _ _ _ _ (Operand.tmp _) => whnf)); (try simp only [hd]); go_simp; (repeat (conv in rho _ _ _ _ (Operand.tmp _) => whnf)); (try simp only [hd]); (try simp only [ss, st]); rfl)) | (apply free_gpure; (focus (intro vs w hg hd; (try simp [Region.binds] at hd); (first | (simp [Region.wanted, yieldR]; (repeat (conv in rho _ _ _ _ (Operand.tmp _) => whnf)); simp [hd]; done) | (simp [Region.wanted, yieldR]; (repeat (conv in rho _ _ _ _ (Operand.tmp _) => whnf)); simp [hd, undef]; done) | (simp [Region.wanted, yieldR]; (repeat (conv in rho _ _ _ _ (Operand.tmp _) => whnf)); (try simp [hd]); simp [*])))); focus (intro vs w hg hd; have q0 := hg.cell a3; have q1 := hg.cell b3; (try simp [Region.binds] at hd); simp only [execOp, resolve, Option.map_some, Option.map_none, List.map_toArray, List.map_cons, List.map_nil, rho_const, rho_func]; (repeat (conv in rho _ _ _ _ (Operand.tmp _) => whnf)); (try simp only [hd]); go_simp; (repeat (conv in rho _ _ _ _ (Operand.tmp _) => whnf)); (try simp only [hd]); (try simp only [ss, st]); rfl)))
        intro vs w' hg hv; have h53 := hv 53 (by omega); simp at h53; simp only [putL, dstAt, List.range, List.range.loop, if_true, List.getElem?_toArray, List.getElem?_cons_zero, List.getElem?_cons_succ, Option.bind_some, Act.put, List.setIfInBounds_toArray, List.set_cons_zero, List.set_cons_succ]
        rw [h53]
        have hgW := Lib.hid (HB.out.trans (Grows.of_drew hg))
        clear hv h53 hg
        generalize vs 0 = z0, vs 1 = z1, vs 2 = z2, vs 3 = z3, vs 4 = z4, vs 5 = z5, vs 6 = z6, vs 7 = z7, vs 8 = z8, vs 9 = z9, vs 10 = z10, vs 11 = z11, vs 12 = z12, vs 13 = z13, vs 14 = z14, vs 15 = z15, vs 16 = z16, vs 17 = z17, vs 18 = z18, vs 19 = z19, vs 20 = z20, vs 21 = z21, vs 22 = z22, vs 23 = z23, vs 24 = z24, vs 25 = z25, vs 26 = z26, vs 27 = z27, vs 28 = z28, vs 29 = z29, vs 30 = z30, vs 31 = z31, vs 32 = z32, vs 33 = z33, vs 34 = z34, vs 35 = z35, vs 36 = z36, vs 37 = z37, vs 38 = z38, vs 39 = z39, vs 40 = z40, vs 41 = z41, vs 42 = z42, vs 43 = z43, vs 44 = z44, vs 45 = z45, vs 46 = z46, vs 47 = z47, vs 48 = z48, vs 49 = z49, vs 50 = z50, vs 51 = z51, vs 52 = z52, vs 53 = z53 at *
        go_wp2
        go_ret
        exact ⟨by rw [HF.out]; rfl, hgW.out⟩
      have ss : (hI x.size == hI y.size) = true := by rw [hI_beq]; simpa using hsize
      have st : (hI x.size != hI y.size) = false := by rw [bne, ss]; rfl
      have hsize := Lib.hid hsize
      go_wp2
      refine wp_region_free 54 71 (by kernel_rfl) (by kernel_rfl) rfl (by kernel_rfl) ?_; simp only [List.take_succ_cons, List.take_zero, List.drop_succ_cons, List.drop_zero]
      repeat (first | (apply free_pure rfl; focus (intro vs w hg hd; have q0 := hg.cell a0; (try simp [Region.binds] at hd); simp only [execOp, resolve, Option.map_some, Option.map_none, List.map_toArray, List.map_cons, List.map_nil, rho_const, rho_func]; (repeat (conv in rho _ _ _ _ (Operand.tmp _) => whnf)); (try simp only [hd]); go_simp; (repeat (conv in rho _ _ _ _ (Operand.tmp _) => whnf)); (try simp only [hd]);  rfl)) | (apply free_gpure; (focus (intro vs w hg hd; (try simp [Region.binds] at hd); (first | (simp [Region.wanted, yieldR]; (repeat (conv in rho _ _ _ _ (Operand.tmp _) => whnf)); simp [hd]; done) | (simp [Region.wanted, yieldR]; (repeat (conv in rho _ _ _ _ (Operand.tmp _) => whnf)); simp [hd, undef]; done) | (simp [Region.wanted, yieldR]; (repeat (conv in rho _ _ _ _ (Operand.tmp _) => whnf)); (try simp [hd]); simp [*])))); focus (intro vs w hg hd; have q0 := hg.cell a0; (try simp [Region.binds] at hd); simp only [execOp, resolve, Option.map_some, Option.map_none, List.map_toArray, List.map_cons, List.map_nil, rho_const, rho_func]; (repeat (conv in rho _ _ _ _ (Operand.tmp _) => whnf)); (try simp only [hd]); go_simp; (repeat (conv in rho _ _ _ _ (Operand.tmp _) => whnf)); (try simp only [hd]);  rfl)))
      refine free_op (fun v_ _ => v_ = .string (str (x.key))) rfl (dk_mono _) (fun vs wq hg hd => by (have e1 := run_str (P := Tryd.prog) (Sl.below HK.out (Grows.of_drew hg)) 37 5 9 Tryd.underlying37 Tryd.underlying5 Tryd.underlying9; (try simp [Region.binds] at hd); simp only [Does]; simp only [execOp, resolve, Option.map_some, Option.map_none, List.map_toArray, List.map_cons, List.map_nil, rho_const, rho_func]; (repeat (conv in rho _ _ _ _ (Operand.tmp _) => whnf)); (try simp only [hd]); go_simp; (repeat (conv in rho _ _ _ _ (Operand.tmp _) => whnf)); exact Grows.refl _)) ?_
      repeat (first | (apply free_pure rfl; focus (intro vs w hg hd; have q0 := hg.cell b0; (try simp [Region.binds] at hd); simp only [execOp, resolve, Option.map_some, Option.map_none, List.map_toArray, List.map_cons, List.map_nil, rho_const, rho_func]; (repeat (conv in rho _ _ _ _ (Operand.tmp _) => whnf)); (try simp only [hd]); go_simp; (repeat (conv in rho _ _ _ _ (Operand.tmp _) => whnf)); (try simp only [hd]);  rfl)) | (apply free_gpure; (focus (intro vs w hg hd; (try simp [Region.binds] at hd); (first | (simp [Region.wanted, yieldR]; (repeat (conv in rho _ _ _ _ (Operand.tmp _) => whnf)); simp [hd]; done) | (simp [Region.wanted, yieldR]; (repeat (conv in rho _ _ _ _ (Operand.tmp _) => whnf)); simp [hd, undef]; done) | (simp [Region.wanted, yieldR]; (repeat (conv in rho _ _ _ _ (Operand.tmp _) => whnf)); (try simp [hd]); simp [*])))); focus (intro vs w hg hd; have q0 := hg.cell b0; (try simp [Region.binds] at hd); simp only [execOp, resolve, Option.map_some, Option.map_none, List.map_toArray, List.map_cons, List.map_nil, rho_const, rho_func]; (repeat (conv in rho _ _ _ _ (Operand.tmp _) => whnf)); (try simp only [hd]); go_simp; (repeat (conv in rho _ _ _ _ (Operand.tmp _) => whnf)); (try simp only [hd]);  rfl)))
      refine free_op (fun v_ _ => v_ = .string (str (y.key))) rfl (dk_mono _) (fun vs wq hg hd => by (have e1 := run_str (P := Tryd.prog) (Sl.below HK'.out (Grows.of_drew hg)) 37 5 9 Tryd.underlying37 Tryd.underlying5 Tryd.underlying9; (try simp [Region.binds] at hd); simp only [Does]; simp only [execOp, resolve, Option.map_some, Option.map_none, List.map_toArray, List.map_cons, List.map_nil, rho_const, rho_func]; (repeat (conv in rho _ _ _ _ (Operand.tmp _) => whnf)); (try simp only [hd]); go_simp; (repeat (conv in rho _ _ _ _ (Operand.tmp _) => whnf)); exact Grows.refl _)) ?_
      repeat (first | (apply free_pure rfl; focus (intro vs w hg hd;  (try simp [Region.binds] at hd); simp only [execOp, resolve, Option.map_some, Option.map_none, List.map_toArray, List.map_cons, List.map_nil, rho_const, rho_func]; (repeat (conv in rho _ _ _ _ (Operand.tmp _) => whnf)); (try simp only [hd]); go_simp; (repeat (conv in rho _ _ _ _ (Operand.tmp _) => whnf)); (try simp only [hd]); (try simp only [sk]); rfl)) | (apply free_gpure; (focus (intro vs w hg hd; (try simp [Region.binds] at hd); (first | (simp [Region.wanted, yieldR]; (repeat (conv in rho _ _ _ _ (Operand.tmp _) => whnf)); simp [hd]; done) | (simp [Region.wanted, yieldR]; (repeat (conv in rho _ _ _ _ (Operand.tmp _) => whnf)); simp [hd, undef]; done) | (simp [Region.wanted, yieldR]; (repeat (conv in rho _ _ _ _ (Operand.tmp _) => whnf)); (try simp [hd]); simp [*])))); focus (intro vs w hg hd;  (try simp [Region.binds] at hd); simp only [execOp, resolve, Option.map_some, Option.map_none, List.map_toArray, List.map_cons, List.map_nil, rho_const, rho_func]; (repeat (conv in rho _ _ _ _ (Operand.tmp _) => whnf)); (try simp only [hd]); go_simp; (repeat (conv in rho _ _ _ _ (Operand.tmp _) => whnf)); (try simp only [hd]); (try simp only [sk]); rfl)))
      repeat (first | (apply free_pure rfl; focus (intro vs w hg hd; have q0 := hg.cell a1; (try simp [Region.binds] at hd); simp only [execOp, resolve, Option.map_some, Option.map_none, List.map_toArray, List.map_cons, List.map_nil, rho_const, rho_func]; (repeat (conv in rho _ _ _ _ (Operand.tmp _) => whnf)); (try simp only [hd]); go_simp; (repeat (conv in rho _ _ _ _ (Operand.tmp _) => whnf)); (try simp only [hd]);  rfl)) | (apply free_gpure; (focus (intro vs w hg hd; (try simp [Region.binds] at hd); (first | (simp [Region.wanted, yieldR]; (repeat (conv in rho _ _ _ _ (Operand.tmp _) => whnf)); simp [hd]; done) | (simp [Region.wanted, yieldR]; (repeat (conv in rho _ _ _ _ (Operand.tmp _) => whnf)); simp [hd, undef]; done) | (simp [Region.wanted, yieldR]; (repeat (conv in rho _ _ _ _ (Operand.tmp _) => whnf)); (try simp [hd]); simp [*])))); focus (intro vs w hg hd; have q0 := hg.cell a1; (try simp [Region.binds] at hd); simp only [execOp, resolve, Option.map_some, Option.map_none, List.map_toArray, List.map_cons, List.map_nil, rho_const, rho_func]; (repeat (conv in rho _ _ _ _ (Operand.tmp _) => whnf)); (try simp only [hd]); go_simp; (repeat (conv in rho _ _ _ _ (Operand.tmp _) => whnf)); (try simp only [hd]);  rfl)))
      refine free_guarded (fun v_ _ => v_ = .string (str (x.val))) (dk_mono _) (fun vs wq hg hd => by ((try simp [Region.binds] at hd); refine ⟨?_, ?_⟩; (focus (first | (simp [Region.wanted, yieldR]; (repeat (conv in rho _ _ _ _ (Operand.tmp _) => whnf)); simp [hd]; done) | (simp [Region.wanted, yieldR]; (repeat (conv in rho _ _ _ _ (Operand.tmp _) => whnf)); simp [hd, undef]; done) | (simp [Region.wanted, yieldR]; (repeat (conv in rho _ _ _ _ (Operand.tmp _) => whnf)); (try simp [hd]); simp [*]))); (focus (have e1 := run_str (P := Tryd.prog) (Sl.below HV.out (Grows.of_drew hg)) 37 5 9 Tryd.underlying37 Tryd.underlying5 Tryd.underlying9; simp only [Does]; simp only [execOp, resolve, Option.map_some, Option.map_none, List.map_toArray, List.map_cons, List.map_nil, rho_const, rho_func]; (repeat (conv in rho _ _ _ _ (Operand.tmp _) => whnf)); (try simp only [hd]); go_simp; (repeat (conv in rho _ _ _ _ (Operand.tmp _) => whnf)); exact Grows.refl _)))) ?_
      repeat (first | (apply free_pure rfl; focus (intro vs w hg hd; have q0 := hg.cell b1; (try simp [Region.binds] at hd); simp only [execOp, resolve, Option.map_some, Option.map_none, List.map_toArray, List.map_cons, List.map_nil, rho_const, rho_func]; (repeat (conv in rho _ _ _ _ (Operand.tmp _) => whnf)); (try simp only [hd]); go_simp; (repeat (conv in rho _ _ _ _ (Operand.tmp _) => whnf)); (try simp only [hd]);  rfl)) | (apply free_gpure; (focus (intro vs w hg hd; (try simp [Region.binds] at hd); (first | (simp [Region.wanted, yieldR]; (repeat (conv in rho _ _ _ _ (Operand.tmp _) => whnf)); simp [hd]; done) | (simp [Region.wanted, yieldR]; (repeat (conv in rho _ _ _ _ (Operand.tmp _) => whnf)); simp [hd, undef]; done) | (simp [Region.wanted, yieldR]; (repeat (conv in rho _ _ _ _ (Operand.tmp _) => whnf)); (try simp [hd]); simp [*])))); focus (intro vs w hg hd; have q0 := hg.cell b1; (try simp [Region.binds] at hd); simp only [execOp, resolve, Option.map_some, Option.map_none, List.map_toArray, List.map_cons, List.map_nil, rho_const, rho_func]; (repeat (conv in rho _ _ _ _ (Operand.tmp _) => whnf)); (try simp only [hd]); go_simp; (repeat (conv in rho _ _ _ _ (Operand.tmp _) => whnf)); (try simp only [hd]);  rfl)))
      refine free_guarded (fun v_ _ => v_ = .string (str (y.val))) (dk_mono _) (fun vs wq hg hd => by ((try simp [Region.binds] at hd); refine ⟨?_, ?_⟩; (focus (first | (simp [Region.wanted, yieldR]; (repeat (conv in rho _ _ _ _ (Operand.tmp _) => whnf)); simp [hd]; done) | (simp [Region.wanted, yieldR]; (repeat (conv in rho _ _ _ _ (Operand.tmp _) => whnf)); simp [hd, undef]; done) | (simp [Region.wanted, yieldR]; (repeat (conv in rho _ _ _ _ (Operand.tmp _) => whnf)); (try simp [hd]); simp [*]))); (focus (have e1 := run_str (P := Tryd.prog) (Sl.below HV'.out (Grows.of_drew hg)) 37 5 9 Tryd.underlying37 Tryd.underlying5 Tryd.underlying9; simp only [Does]; simp only [execOp, resolve, Option.map_some, Option.map_none, List.map_toArray, List.map_cons, List.map_nil, rho_const, rho_func]; (repeat (conv in rho _ _ _ _ (Operand.tmp _) => whnf)); (try simp only [hd]); go_simp; (repeat (conv in rho _ _ _ _ (Operand.tmp _) => whnf)); exact Grows.refl _)))) ?_
      repeat (first | (apply free_pure rfl; focus (intro vs w hg hd;  (try simp [Region.binds] at hd); simp only [execOp, resolve, Option.map_some, Option.map_none, List.map_toArray, List.map_cons, List.map_nil, rho_const, rho_func]; (repeat (conv in rho _ _ _ _ (Operand.tmp _) => whnf)); (try simp only [hd]); go_simp; (repeat (conv in rho _ _ _ _ (Operand.tmp _) => whnf)); (try simp only [hd]); (try simp only [sv]); rfl)) | (apply free_gpure; (focus (intro vs w hg hd; (try simp [Region.binds] at hd); (first | (simp [Region.wanted, yieldR]; (repeat (conv in rho _ _ _ _ (Operand.tmp _) => whnf)); simp [hd]; done) | (simp [Region.wanted, yieldR]; (repeat (conv in rho _ _ _ _ (Operand.tmp _) => whnf)); simp [hd, undef]; done) | (simp [Region.wanted, yieldR]; (repeat (conv in rho _ _ _ _ (Operand.tmp _) => whnf)); (try simp [hd]); simp [*])))); focus (intro vs w hg hd;  (try simp [Region.binds] at hd); simp only [execOp, resolve, Option.map_some, Option.map_none, List.map_toArray, List.map_cons, List.map_nil, rho_const, rho_func]; (repeat (conv in rho _ _ _ _ (Operand.tmp _) => whnf)); (try simp only [hd]); go_simp; (repeat (conv in rho _ _ _ _ (Operand.tmp _) => whnf)); (try simp only [hd]); (try simp only [sv]); rfl)))
      refine free_guarded (fun v_ _ => v_ = .agg (ptA x.over)) (dk_mono _) (fun vs wq hg hd => by
        (try simp [Region.binds] at hd)
        refine ⟨?_, ?_⟩
        · (first | (simp [Region.wanted, yieldR]; (repeat (conv in rho _ _ _ _ (Operand.tmp _) => whnf)); simp [hd]; done) | (simp [Region.wanted, yieldR]; (repeat (conv in rho _ _ _ _ (Operand.tmp _) => whnf)); simp [hd, undef]; done) | (simp [Region.wanted, yieldR]; (repeat (conv in rho _ _ _ _ (Operand.tmp _) => whnf)); (try simp [hd]); simp [*]))
        · refine dk_load 43 (.tmp 49) ⟨g1, o1 + k * 8 + 2, none⟩ _ rfl ?_ (ptr_run_load (range_grows HP.out (Grows.of_drew hg))) ⟨Grows.refl _, rfl⟩
          (conv in rho _ _ _ _ (Operand.tmp _) => whnf)
          simp [hd]) ?_
      repeat (first | (apply free_pure rfl; focus (intro vs w hg hd;  (try simp [Region.binds] at hd); simp only [execOp, resolve, Option.map_some, Option.map_none, List.map_toArray, List.map_cons, List.map_nil, rho_const, rho_func]; (repeat (conv in rho _ _ _ _ (Operand.tmp _) => whnf)); (try simp only [hd]); go_simp; (repeat (conv in rho _ _ _ _ (Operand.tmp _) => whnf)); (try simp only [hd]);  rfl)) | (apply free_gpure; (focus (intro vs w hg hd; (try simp [Region.binds] at hd); (first | (simp [Region.wanted, yieldR]; (repeat (conv in rho _ _ _ _ (Operand.tmp _) => whnf)); simp [hd]; done) | (simp [Region.wanted, yieldR]; (repeat (conv in rho _ _ _ _ (Operand.tmp _) => whnf)); simp [hd, undef]; done) | (simp [Region.wanted, yieldR]; (repeat (conv in rho _ _ _ _ (Operand.tmp _) => whnf)); (try simp [hd]); simp [*])))); focus (intro vs w hg hd;  (try simp [Region.binds] at hd); simp only [execOp, resolve, Option.map_some, Option.map_none, List.map_toArray, List.map_cons, List.map_nil, rho_const, rho_func]; (repeat (conv in rho _ _ _ _ (Operand.tmp _) => whnf)); (try simp only [hd]); go_simp; (repeat (conv in rho _ _ _ _ (Operand.tmp _) => whnf)); (try simp only [hd]);  rfl)))
      refine free_guarded (fun v_ _ => v_ = .agg (ptA y.over)) (dk_mono _) (fun vs wq hg hd => by
        (try simp [Region.binds] at hd)
        refine ⟨?_, ?_⟩
        · (first | (simp [Region.wanted, yieldR]; (repeat (conv in rho _ _ _ _ (Operand.tmp _) => whnf)); simp [hd]; done) | (simp [Region.wanted, yieldR]; (repeat (conv in rho _ _ _ _ (Operand.tmp _) => whnf)); simp [hd, undef]; done) | (simp [Region.wanted, yieldR]; (repeat (conv in rho _ _ _ _ (Operand.tmp _) => whnf)); (try simp [hd]); simp [*]))
        · refine dk_load 43 (.tmp 54) ⟨g2, o2 + k * 8 + 2, none⟩ _ rfl ?_ (ptr_run_load (range_grows HP'.out (Grows.of_drew hg))) ⟨Grows.refl _, rfl⟩
          (conv in rho _ _ _ _ (Operand.tmp _) => whnf)
          simp [hd]) ?_
      refine free_guarded (fun v_ _ => v_ = .bool false) (dk_mono _) (fun vs wq hg hd => by
        (try simp [Region.binds] at hd)
        refine ⟨?_, ?_⟩
        · (first | (simp [Region.wanted, yieldR]; (repeat (conv in rho _ _ _ _ (Operand.tmp _) => whnf)); simp [hd]; done) | (simp [Region.wanted, yieldR]; (repeat (conv in rho _ _ _ _ (Operand.tmp _) => whnf)); simp [hd, undef]; done) | (simp [Region.wanted, yieldR]; (repeat (conv in rho _ _ _ _ (Operand.tmp _) => whnf)); (try simp [hd]); simp [*]))
        · refine does_neq_pt (.tmp 50) (.tmp 55) x.over y.over 43 rfl ?_ ?_ ?_
          · (conv in rho _ _ _ _ (Operand.tmp _) => whnf)
            simp [hd]
          · (conv in rho _ _ _ _ (Operand.tmp _) => whnf)
            simp [hd]
          · rw [HO.out]
            exact ⟨Grows.refl _, rfl⟩) ?_
      repeat (first | (apply free_pure rfl; focus (intro vs w hg hd;  (try simp [Region.binds] at hd); simp only [execOp, resolve, Option.map_some, Option.map_none, List.map_toArray, List.map_cons, List.map_nil, rho_const, rho_func]; (repeat (conv in rho _ _ _ _ (Operand.tmp _) => whnf)); (try simp only [hd]); go_simp; (repeat (conv in rho _ _ _ _ (Operand.tmp _) => whnf)); (try simp only [hd]);  rfl)) | (apply free_gpure; (focus (intro vs w hg hd; (try simp [Region.binds] at hd); (first | (simp [Region.wanted, yieldR]; (repeat (conv in rho _ _ _ _ (Operand.tmp _) => whnf)); simp [hd]; done) | (simp [Region.wanted, yieldR]; (repeat (conv in rho _ _ _ _ (Operand.tmp _) => whnf)); simp [hd, undef]; done) | (simp [Region.wanted, yieldR]; (repeat (conv in rho _ _ _ _ (Operand.tmp _) => whnf)); (try simp [hd]); simp [*])))); focus (intro vs w hg hd;  (try simp [Region.binds] at hd); simp only [execOp, resolve, Option.map_some, Option.map_none, List.map_toArray, List.map_cons, List.map_nil, rho_const, rho_func]; (repeat (conv in rho _ _ _ _ (Operand.tmp _) => whnf)); (try simp only [hd]); go_simp; (repeat (conv in rho _ _ _ _ (Operand.tmp _) => whnf)); (try simp only [hd]);  rfl)))
      repeat (first | (apply free_pure rfl; focus (intro vs w hg hd; have q0 := hg.cell a3; have q1 := hg.cell b3; (try simp [Region.binds] at hd); simp only [execOp, resolve, Option.map_some, Option.map_none, List.map_toArray, List.map_cons, List.map_nil, rho_const, rho_func]; (repeat (conv in rho _ _ _ _ (Operand.tmp _) => whnf)); (try simp only [hd]); go_simp; (repeat (conv in rho _ _ _ _ (Operand.tmp _) => whnf)); (try simp only [hd]); (try simp only [ss, st]); rfl)) | (apply free_gpure; (focus (intro vs w hg hd; (try simp [Region.binds] at hd); (first | (simp [Region.wanted, yieldR]; (repeat (conv in rho _ _ _ _ (Operand.tmp _) => whnf)); simp [hd]; done) | (simp [Region.wanted, yieldR]; (repeat (conv in rho _ _ _ _ (Operand.tmp _) => whnf)); simp [hd, undef]; done) | (simp [Region.wanted, yieldR]; (repeat (conv in rho _ _ _ _ (Operand.tmp _) => whnf)); (try simp [hd]); simp [*])))); focus (intro vs w hg hd; have q0 := hg.cell a3; have q1 := hg.cell b3; (try simp [Region.binds] at hd); simp only [execOp, resolve, Option.map_some, Option.map_none, List.map_toArray, List.map_cons, List.map_nil, rho_const, rho_func]; (repeat (conv in rho _ _ _ _ (Operand.tmp _) => whnf)); (try simp only [hd]); go_simp; (repeat (conv in rho _ _ _ _ (Operand.tmp _) => whnf)); (try simp only [hd]); (try simp only [ss, st]); rfl)))
      intro vs w' hg hv; have h53 := hv 53 (by omega); simp at h53; simp only [putL, dstAt, List.range, List.range.loop, if_true, List.getElem?_toArray, List.getElem?_cons_zero, List.getElem?_cons_succ, Option.bind_some, Act.put, List.setIfInBounds_toArray, List.set_cons_zero, List.set_cons_succ]
      rw [h53]
      have hgW := Lib.hid (HB.out.trans (Grows.of_drew hg))
      clear hv h53 hg
      generalize vs 0 = z0, vs 1 = z1, vs 2 = z2, vs 3 = z3, vs 4 = z4, vs 5 = z5, vs 6 = z6, vs 7 = z7, vs 8 = z8, vs 9 = z9, vs 10 = z10, vs 11 = z11, vs 12 = z12, vs 13 = z13, vs 14 = z14, vs 15 = z15, vs 16 = z16, vs 17 = z17, vs 18 = z18, vs 19 = z19, vs 20 = z20, vs 21 = z21, vs 22 = z22, vs 23 = z23, vs 24 = z24, vs 25 = z25, vs 26 = z26, vs 27 = z27, vs 28 = z28, vs 29 = z29, vs 30 = z30, vs 31 = z31, vs 32 = z32, vs 33 = z33, vs 34 = z34, vs 35 = z35, vs 36 = z36, vs 37 = z37, vs 38 = z38, vs 39 = z39, vs 40 = z40, vs 41 = z41, vs 42 = z42, vs 43 = z43, vs 44 = z44, vs 45 = z45, vs 46 = z46, vs 47 = z47, vs 48 = z48, vs 49 = z49, vs 50 = z50, vs 51 = z51, vs 52 = z52, vs 53 = z53 at *
      go_wp2
      go_roundw
      case rel => exact ⟨k + 1, by omega, by go_num, HS.out hkey.out hval.out hover.out hsize.out, hgW.out⟩
      case measure => simp [intOf]; omega
    · obtain rfl : k = a.length := by omega
      have HE : Hid (decide (a = b) = true) := decide_eq_true (by have h := HT.out; rw [List.take_length, h1, List.take_length] at h; exact h)
      have hltb : ¬ (a.length : Int) < b.length := by omega
      go_wp2
      go_ret
      exact ⟨by rw [HE.out]; rfl, HB.out⟩
end Go.Proofs.YthdncpkmhodokaaDoor
/- Layer 6's own answer: are two rows of items the same? -/
namespace Go.Proofs.YthdncpkmhodokaaDoor
open Go.RowKit
set_option linter.unusedVariables false
set_option linter.unusedSimpArgs false
theorem it_decide (x y : It) : decide (x = y) = (decide (x.key = y.key) && decide (x.val = y.val) && decide (x.over = y.over) && decide (hI x.size = hI y.size)) := by
  have h4 : decide (hI x.size = hI y.size) = decide (x.size = y.size) := by
    rw [Bool.eq_iff_iff]; simp only [decide_eq_true_eq]; exact ⟨fun h => by have := hI_beq x.size y.size; simpa [h] using this.symm, fun h => by rw [h]⟩
  rw [h4, Bool.eq_iff_iff]
  simp only [Bool.and_eq_true, decide_eq_true_eq]
  rw [← It.eq_iff]
  exact ⟨fun h => ⟨⟨⟨h.1, h.2.1⟩, h.2.2.1⟩, h.2.2.2⟩, fun h => ⟨h.1.1.1, h.1.1.2, h.1.2, h.2⟩⟩
set_option maxHeartbeats 4000000 in
theorem lsame_any (r s : Raw) (x y : It) (w : World) (hr : RawIs w.heap.size w r x) (hs : RawIs w.heap.size w s y) :
    Calls Tryd.prog 33 #[.agg (rawA r), .agg (rawA s)] w fun e w' => e = .returned (.bool (decide (x = y))) ∧ Grows w w' := by
  have HX := Lib.hid ((Row.new w 45 (rawA r)).alloc (.cells (rawA s) 45))
  have HY : Hid (Row ((w.alloc (.cells (rawA r) 45)).alloc (.cells (rawA s) 45)) (w.heap.size + 1) 45 (rawA s)) := by
    have := Row.new (w.alloc (.cells (rawA r) 45)) 45 (rawA s)
    rwa [World.size_alloc] at this
  have HG := Lib.hid ((Grows.alloc w (.cells (rawA r) 45)).trans (Grows.alloc _ (.cells (rawA s) 45)))
  have HE1 := Lib.hid (bequal_any _ _ _ _ _ (hr.grows HG.out).1 (hs.grows HG.out).1)
  have HE2 := Lib.hid (fun W (h : Grows w W) => bequal_any _ _ _ _ W (hr.grows h).2.1 (hs.grows h).2.1)
  have HP := Lib.hid (fun W (h : Row W w.heap.size 45 (rawA r)) => (raw_at (rawA_row h)).2.2.2.2)
  have HQ := Lib.hid (fun W (h : Row W (w.heap.size + 1) 45 (rawA s)) => (raw_at (rawA_row h)).2.2.2.2)
  have HD := it_decide x y
  rw [← hr.2.2.1, ← hr.2.2.2, ← hs.2.2.1, ← hs.2.2.2] at HD
  clear hr hs
  generalize decide (x = y) = t at *
  generalize decide (x.key = y.key) = t1 at *
  generalize decide (x.val = y.val) = t2 at *
  generalize ht3 : decide (r.over = s.over) = t3 at *
  have HO := Lib.hid ht3
  clear ht3
  cases t1
  case false =>
    rw [Bool.false_and, Bool.false_and, Bool.false_and] at HD
    obtain rfl := HD
    go_enter Tryd.func33, Tryd.ntmps33
    go_wp2_with (first
      | (go_at_call 51; (with_reducible refine HE1.out.mono ?_); rintro e w3 ⟨rfl, hb⟩; have G3 := Lib.hid (HG.out.trans hb); have X3 := Lib.hid (Row.grows HX.out hb); have Y3 := Lib.hid (Row.grows HY.out hb); have x1 := (X3.out.cell 1).trans (rawA_1 r); have y1 := (Y3.out.cell 1).trans (rawA_1 s); clear hb))
    go_ret
    exact ⟨by first | rfl | (simp [h5]; done), G3.out⟩
  rw [Bool.true_and] at HD
  cases t2
  case false =>
    rw [Bool.false_and, Bool.false_and] at HD
    obtain rfl := HD
    go_enter Tryd.func33, Tryd.ntmps33
    go_wp2_with (first
      | (go_at_call 51; (with_reducible refine HE1.out.mono ?_); rintro e w3 ⟨rfl, hb⟩; have G3 := Lib.hid (HG.out.trans hb); have X3 := Lib.hid (Row.grows HX.out hb); have Y3 := Lib.hid (Row.grows HY.out hb); have x1 := (X3.out.cell 1).trans (rawA_1 r); have y1 := (Y3.out.cell 1).trans (rawA_1 s); clear hb)
      | (go_at_call 51; (with_reducible refine (HE2.out _ G3.out).mono ?_); rintro e w4 ⟨rfl, hb⟩; have G4 := Lib.hid (G3.out.trans hb); have X4 := Lib.hid (Row.grows X3.out hb); have Y4 := Lib.hid (Row.grows Y3.out hb); have x7 := (X4.out.cell 7).trans (rawA_7 r); have y7 := (Y4.out.cell 7).trans (rawA_7 s); have P4 := Lib.hid (HP.out _ X4.out); have Q4 := Lib.hid (HQ.out _ Y4.out); clear hb))
    go_ret
    exact ⟨by first | rfl | (simp [h5]; done), G4.out⟩
  rw [Bool.true_and] at HD
  cases t3
  case false =>
    rw [Bool.false_and] at HD
    obtain rfl := HD
    go_enter Tryd.func33, Tryd.ntmps33
    go_wp2_with (first
      | (go_at_call 51; (with_reducible refine HE1.out.mono ?_); rintro e w3 ⟨rfl, hb⟩; have G3 := Lib.hid (HG.out.trans hb); have X3 := Lib.hid (Row.grows HX.out hb); have Y3 := Lib.hid (Row.grows HY.out hb); have x1 := (X3.out.cell 1).trans (rawA_1 r); have y1 := (Y3.out.cell 1).trans (rawA_1 s); clear hb)
      | (go_at_call 51; (with_reducible refine (HE2.out _ G3.out).mono ?_); rintro e w4 ⟨rfl, hb⟩; have G4 := Lib.hid (G3.out.trans hb); have X4 := Lib.hid (Row.grows X3.out hb); have Y4 := Lib.hid (Row.grows Y3.out hb); have x7 := (X4.out.cell 7).trans (rawA_7 r); have y7 := (Y4.out.cell 7).trans (rawA_7 s); have P4 := Lib.hid (HP.out _ X4.out); have Q4 := Lib.hid (HQ.out _ Y4.out); clear hb)
      | ((with_reducible refine wpList_loadG_ptAt (op := ⟨some 19, _, _, _, _, _⟩) ?_ (.tmp 18) ?_ w.heap.size 2 r.over ?_ ?_ ?_); exact rfl; exact rfl; exact rfl; rw [Nat.zero_add] at P4; exact P4.out)
      | ((with_reducible refine wpList_loadG_ptAt (op := ⟨some 21, _, _, _, _, _⟩) ?_ (.tmp 20) ?_ (w.heap.size + 1) 2 s.over ?_ ?_ ?_); exact rfl; exact rfl; exact rfl; rw [Nat.zero_add] at Q4; exact Q4.out)
      | ((with_reducible refine wpList_eqlG_ptr (op := ⟨some 22, _, _, _, _, _⟩) ?_ (.tmp 19) (.tmp 21) 43 ?_ r.over s.over ?_ ?_ ?_); exact rfl; exact rfl; exact rfl; exact rfl; rw [HO.out]))
    go_ret
    exact ⟨by first | rfl | (simp [h5]; done), G4.out⟩
  rw [Bool.true_and] at HD
  by_cases h4 : hI r.size = hI s.size
  case neg =>
    rw [decide_eq_false h4] at HD
    have h5 : (hI r.size == hI s.size) = false := by simpa using h4
    obtain rfl := HD
    go_enter Tryd.func33, Tryd.ntmps33
    go_wp2_with (first
      | (go_at_call 51; (with_reducible refine HE1.out.mono ?_); rintro e w3 ⟨rfl, hb⟩; have G3 := Lib.hid (HG.out.trans hb); have X3 := Lib.hid (Row.grows HX.out hb); have Y3 := Lib.hid (Row.grows HY.out hb); have x1 := (X3.out.cell 1).trans (rawA_1 r); have y1 := (Y3.out.cell 1).trans (rawA_1 s); clear hb)
      | (go_at_call 51; (with_reducible refine (HE2.out _ G3.out).mono ?_); rintro e w4 ⟨rfl, hb⟩; have G4 := Lib.hid (G3.out.trans hb); have X4 := Lib.hid (Row.grows X3.out hb); have Y4 := Lib.hid (Row.grows Y3.out hb); have x7 := (X4.out.cell 7).trans (rawA_7 r); have y7 := (Y4.out.cell 7).trans (rawA_7 s); have P4 := Lib.hid (HP.out _ X4.out); have Q4 := Lib.hid (HQ.out _ Y4.out); clear hb)
      | ((with_reducible refine wpList_loadG_ptAt (op := ⟨some 19, _, _, _, _, _⟩) ?_ (.tmp 18) ?_ w.heap.size 2 r.over ?_ ?_ ?_); exact rfl; exact rfl; exact rfl; rw [Nat.zero_add] at P4; exact P4.out)
      | ((with_reducible refine wpList_loadG_ptAt (op := ⟨some 21, _, _, _, _, _⟩) ?_ (.tmp 20) ?_ (w.heap.size + 1) 2 s.over ?_ ?_ ?_); exact rfl; exact rfl; exact rfl; rw [Nat.zero_add] at Q4; exact Q4.out)
      | ((with_reducible refine wpList_eqlG_ptr (op := ⟨some 22, _, _, _, _, _⟩) ?_ (.tmp 19) (.tmp 21) 43 ?_ r.over s.over ?_ ?_ ?_); exact rfl; exact rfl; exact rfl; exact rfl; rw [HO.out]))
    go_ret
    exact ⟨by first | rfl | (simp [h5]; done), G4.out⟩
  rw [decide_eq_true h4] at HD
  have h5 : (hI r.size == hI s.size) = true := by simpa using h4
  obtain rfl := HD
  go_enter Tryd.func33, Tryd.ntmps33
  go_wp2_with (first
    | (go_at_call 51; (with_reducible refine HE1.out.mono ?_); rintro e w3 ⟨rfl, hb⟩; have G3 := Lib.hid (HG.out.trans hb); have X3 := Lib.hid (Row.grows HX.out hb); have Y3 := Lib.hid (Row.grows HY.out hb); have x1 := (X3.out.cell 1).trans (rawA_1 r); have y1 := (Y3.out.cell 1).trans (rawA_1 s); clear hb)
    | (go_at_call 51; (with_reducible refine (HE2.out _ G3.out).mono ?_); rintro e w4 ⟨rfl, hb⟩; have G4 := Lib.hid (G3.out.trans hb); have X4 := Lib.hid (Row.grows X3.out hb); have Y4 := Lib.hid (Row.grows Y3.out hb); have x7 := (X4.out.cell 7).trans (rawA_7 r); have y7 := (Y4.out.cell 7).trans (rawA_7 s); have P4 := Lib.hid (HP.out _ X4.out); have Q4 := Lib.hid (HQ.out _ Y4.out); clear hb)
    | ((with_reducible refine wpList_loadG_ptAt (op := ⟨some 19, _, _, _, _, _⟩) ?_ (.tmp 18) ?_ w.heap.size 2 r.over ?_ ?_ ?_); exact rfl; exact rfl; exact rfl; rw [Nat.zero_add] at P4; exact P4.out)
    | ((with_reducible refine wpList_loadG_ptAt (op := ⟨some 21, _, _, _, _, _⟩) ?_ (.tmp 20) ?_ (w.heap.size + 1) 2 s.over ?_ ?_ ?_); exact rfl; exact rfl; exact rfl; rw [Nat.zero_add] at Q4; exact Q4.out)
    | ((with_reducible refine wpList_eqlG_ptr (op := ⟨some 22, _, _, _, _, _⟩) ?_ (.tmp 19) (.tmp 21) 43 ?_ r.over s.over ?_ ?_ ?_); exact rfl; exact rfl; exact rfl; exact rfl; rw [HO.out]))
  go_ret
  exact ⟨by first | rfl | (simp [h5]; done), G4.out⟩
set_option maxRecDepth 20000 in
set_option maxHeartbeats 4000000 in
theorem equalFunc_any (u v : Value) (a b : List It) (w : World) (hu : Its w.heap.size w u a) (hv : Its w.heap.size w v b) :
    Calls Tryd.prog 32 #[u, v, .func (.func 33) #[] #[]] w fun e w' => e = .returned (.bool (decide (a = b))) ∧ Grows w w' := by
  obtain ⟨A, cap, rfl, q1, q2, q3⟩ := hu.form
  obtain ⟨A', cap', rfl, q1', q2', q3'⟩ := hv.form
  have HQ := Lib.hid q3; have HQ' := Lib.hid q3'
  clear q3 q3' hu hv
  unfold maxLen at q2 q2'
  by_cases h1 : a.length = b.length
  case neg =>
    have h1' : ¬ (a.length : Int) = b.length := by omega
    have hne : Hid (decide (a = b) = false) := decide_eq_false (by rintro rfl; exact h1 rfl)
    go_enter Tryd.func32, Tryd.ntmps32
    go_wp2
    go_ret
    exact ⟨by rw [hne.out]; rfl, Grows.refl _⟩
  have h1' : (a.length : Int) = b.length := by omega
  go_enter Tryd.func32, Tryd.ntmps32
  go_wp2
  have H1 := Lib.hid h1
  clear h1 h1'
  go_loopw [7, 8, 9, 17] (fun _ _ _ i wr => ∃ k : Nat, k ≤ a.length ∧ i = .int .i64 k ∧ a.take k = b.take k ∧ Grows w wr) (fun _ _ _ i _ => a.length - (intOf i).toNat)
  case atStart => exact ⟨0, Nat.zero_le _, rfl, rfl, Grows.refl _⟩
  case round =>
    obtain ⟨k, hk, rfl, hg, hb⟩ := hrel
    have HT := Lib.hid hg; have HB := Lib.hid hb
    clear hg hb
    by_cases hlt : k < a.length
    · have hlb : k < b.length := by have := H1.out; omega
      obtain ⟨g1, o1, rfl, hg1, hcA⟩ := HQ.out (by omega)
      obtain ⟨g2, o2, rfl, hg2, hcB⟩ := HQ'.out (by omega)
      have e1 : a[k]? = some a[k] := List.getElem?_eq_getElem hlt
      have e2 : b[k]? = some (b[k]'hlb) := List.getElem?_eq_getElem hlb
      have hltb : (k : Int) < b.length := by omega
      obtain ⟨r, hr, hc⟩ := hcA k _ e1
      obtain ⟨s, hs, hc'⟩ := hcB k _ e2
      have HC := Lib.hid (rangeAt_keep hc (fun p hp => Below.cell HB.out (by omega)))
      have HC' := Lib.hid (fun W (h : Grows w W) => rangeAt_keep hc' (fun p hp => Below.cell h (by omega)))
      have HSm := Lib.hid (fun W (h : Grows w W) => lsame_any r s _ _ W (hr.grows h) (hs.grows h))
      have HS := Lib.hid (fun (h : decide (a[k] = b[k]'hlb) = true) => (show a.take (k + 1) = b.take (k + 1) by rw [List.take_add_one, List.take_add_one, HT.out, e1, e2, of_decide_eq_true h]))
      have HNe := Lib.hid (fun (h : decide (a[k] = b[k]'hlb) = false) => its_ne e1 e2 (of_decide_eq_false h))
      clear e1 e2 hcA hcB hc hc' hr hs
      generalize a[k] = x at *
      generalize b[k]'hlb = y at *
      generalize decide (x = y) = t at *
      have HZ := Lib.hid (fun W => Row.new W 45 #[.slice none 0 0, .slice none 0 0, .int .u8 0, .int .u16 0, .int .u16 0, .int .u32 0, .int .u64 0, .int .u16 0])
      cases t
      · go_wp2_with (first
          | ((with_reducible refine wpList_load_itAt (op := ⟨some 21, _, _, _, _, _⟩) ?_ (.tmp 20) ?_ g1 (o1 + k * 8) r ?_ ?_ ?_); exact rfl; exact rfl; exact rfl; exact HC.out)
          | ((with_reducible refine wpList_store_it ?_ (.tmp 8) (.tmp 21) ?_ wr.heap.size r #[.slice none 0 0, .slice none 0 0, .int .u8 0, .int .u16 0, .int .u16 0, .int .u32 0, .int .u64 0, .int .u16 0] ?_ ?_ ?_ ?_ ?_); exact rfl; exact rfl; exact rfl; exact rfl; exact rfl; exact HZ.out _; intro w1 hp hg; have P1 := Lib.hid hp; have G1 := Lib.hid (HB.out.trans (grown_fresh (W := wr) (W' := w1) rfl hg)); clear hp hg)
          | ((with_reducible refine wpList_load_itAt (op := ⟨some 25, _, _, _, _, _⟩) ?_ (.tmp 24) ?_ g2 (o2 + k * 8) s ?_ ?_ ?_); exact rfl; exact rfl; exact rfl; exact HC'.out _ G1.out)
          | ((with_reducible refine wpList_store_it ?_ (.tmp 9) (.tmp 25) ?_ w1.heap.size s #[.slice none 0 0, .slice none 0 0, .int .u8 0, .int .u16 0, .int .u16 0, .int .u32 0, .int .u64 0, .int .u16 0] ?_ ?_ ?_ ?_ ?_); exact rfl; exact rfl; exact rfl; exact rfl; exact rfl; exact HZ.out _; intro w2 hp hg; have S2 := Lib.hid hp; have g := grown_fresh (W := w1) (W' := w2) rfl hg; have P2 := Lib.hid (Row.grows P1.out g); have G2 := Lib.hid (G1.out.trans g); clear hp hg g)
          | ((with_reducible refine wpList_load_itAt (op := ⟨some 27, _, _, _, _, _⟩) ?_ (.tmp 8) ?_ wr.heap.size 0 r ?_ ?_ ?_); exact rfl; exact rfl; exact rfl; exact rawA_row P2.out)
          | ((with_reducible refine wpList_load_itAt (op := ⟨some 28, _, _, _, _, _⟩) ?_ (.tmp 9) ?_ w1.heap.size 0 s ?_ ?_ ?_); exact rfl; exact rfl; exact rfl; exact rawA_row S2.out)
          | (go_at_call 33; (with_reducible refine (HSm.out _ G2.out).mono ?_); rintro e w3 ⟨rfl, hb⟩; have G3 := Lib.hid (G2.out.trans hb); clear hb))
        go_ret
        exact ⟨by rw [HNe.out (by trivial)]; rfl, G3.out⟩
      · go_wp2_with (first
          | ((with_reducible refine wpList_load_itAt (op := ⟨some 21, _, _, _, _, _⟩) ?_ (.tmp 20) ?_ g1 (o1 + k * 8) r ?_ ?_ ?_); exact rfl; exact rfl; exact rfl; exact HC.out)
          | ((with_reducible refine wpList_store_it ?_ (.tmp 8) (.tmp 21) ?_ wr.heap.size r #[.slice none 0 0, .slice none 0 0, .int .u8 0, .int .u16 0, .int .u16 0, .int .u32 0, .int .u64 0, .int .u16 0] ?_ ?_ ?_ ?_ ?_); exact rfl; exact rfl; exact rfl; exact rfl; exact rfl; exact HZ.out _; intro w1 hp hg; have P1 := Lib.hid hp; have G1 := Lib.hid (HB.out.trans (grown_fresh (W := wr) (W' := w1) rfl hg)); clear hp hg)
          | ((with_reducible refine wpList_load_itAt (op := ⟨some 25, _, _, _, _, _⟩) ?_ (.tmp 24) ?_ g2 (o2 + k * 8) s ?_ ?_ ?_); exact rfl; exact rfl; exact rfl; exact HC'.out _ G1.out)
          | ((with_reducible refine wpList_store_it ?_ (.tmp 9) (.tmp 25) ?_ w1.heap.size s #[.slice none 0 0, .slice none 0 0, .int .u8 0, .int .u16 0, .int .u16 0, .int .u32 0, .int .u64 0, .int .u16 0] ?_ ?_ ?_ ?_ ?_); exact rfl; exact rfl; exact rfl; exact rfl; exact rfl; exact HZ.out _; intro w2 hp hg; have S2 := Lib.hid hp; have g := grown_fresh (W := w1) (W' := w2) rfl hg; have P2 := Lib.hid (Row.grows P1.out g); have G2 := Lib.hid (G1.out.trans g); clear hp hg g)
          | ((with_reducible refine wpList_load_itAt (op := ⟨some 27, _, _, _, _, _⟩) ?_ (.tmp 8) ?_ wr.heap.size 0 r ?_ ?_ ?_); exact rfl; exact rfl; exact rfl; exact rawA_row P2.out)
          | ((with_reducible refine wpList_load_itAt (op := ⟨some 28, _, _, _, _, _⟩) ?_ (.tmp 9) ?_ w1.heap.size 0 s ?_ ?_ ?_); exact rfl; exact rfl; exact rfl; exact rawA_row S2.out)
          | (go_at_call 33; (with_reducible refine (HSm.out _ G2.out).mono ?_); rintro e w3 ⟨rfl, hb⟩; have G3 := Lib.hid (G2.out.trans hb); clear hb))
        go_roundw
        case rel => exact ⟨k + 1, by omega, by go_num, HS.out (by trivial), G3.out⟩
        case measure => simp [intOf]; omega
    · obtain rfl : k = a.length := by omega
      have HE : Hid (decide (a = b) = true) := decide_eq_true (by have h := HT.out; rw [List.take_length, H1.out, List.take_length] at h; exact h)
      have hnl : ¬ a.length < b.length := by have := H1.out; omega
      go_wp2
      go_ret
      exact ⟨by rw [HE.out]; rfl, HB.out⟩
theorem same6_any (u v : Value) (a b : List It) (w : World) (hu : Its w.heap.size w u a) (hv : Its w.heap.size w v b) :
    Calls Tryd.prog 17 #[u, v] w fun e w' => e = .returned (.bool (decide (a = b))) ∧ Grows w w' := by
  have HE := Lib.hid (equalFunc_any u v a b w hu hv)
  clear hu hv
  generalize decide (a = b) = t at *
  go_enter Tryd.func17, Tryd.ntmps17
  go_wp2_with (first
    | (go_at_call 32; (with_reducible refine HE.out.mono ?_); rintro e w3 ⟨rfl, hb⟩; have G3 := Lib.hid hb; clear hb))
  go_ret
  exact ⟨rfl, G3.out⟩
end Go.Proofs.YthdncpkmhodokaaDoor
