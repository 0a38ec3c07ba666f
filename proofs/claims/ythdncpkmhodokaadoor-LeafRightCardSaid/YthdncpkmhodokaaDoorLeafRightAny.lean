/- LeafRightAny -/
import Derived.Test.YthdncpkmhodokaaDoorLfWakes
import Derived.Test.YthdncpkmhodokaaDoorLfC
/- LeafRight: what the call answers. -/
namespace Go.Proofs.YthdncpkmhodokaaDoor
open Go.RowKit
set_option linter.unusedVariables false
set_option linter.unusedSimpArgs false
namespace LeafM
def plain (k v : List (BitVec 8)) : It := ⟨k, v, PtM.none, 0#16⟩
theorem ok_plain (k v : List (BitVec 8)) : ok (plain k v) = ((decide (1 ≤ k.length) && decide (k.length ≤ 8)) && decide (v.length ≤ 16)) := by
  unfold ok plain
  simp only [show PtM.none.kind = 0#8 from rfl, if_true, decide_true, Bool.and_true, BEq.rfl]
theorem right_two (x y : It) : right [x, y] = (ok x && (ok y && lt x.key y.key)) := by
  have h : List.range ([x, y] : List It).length = [0, 1] := rfl
  unfold right
  rw [h]
  simp [okAt]
theorem right_pair (a b c : List (BitVec 8)) : right [plain a c, plain b []] = (decide (1 ≤ a.length) && (decide (a.length ≤ 8) && (decide (1 ≤ b.length) && (decide (b.length ≤ 8) && (decide (c.length ≤ 16) && lt a b))))) := by
  rw [right_two, ok_plain, ok_plain]
  show ((decide (1 ≤ a.length) && decide (a.length ≤ 8)) && decide (c.length ≤ 16) && (((decide (1 ≤ b.length) && decide (b.length ≤ 8)) && decide (([] : List (BitVec 8)).length ≤ 16)) && lt a b)) = _
  generalize decide (1 ≤ a.length) = t1
  generalize decide (a.length ≤ 8) = t2
  generalize decide (1 ≤ b.length) = t3
  generalize decide (b.length ≤ 8) = t4
  generalize decide (c.length ≤ 16) = t5
  generalize lt a b = t6
  rw [show decide (([] : List (BitVec 8)).length ≤ 16) = true from rfl]
  revert t1 t2 t3 t4 t5 t6
  decide
/-- So many items, whose keys are one byte each, rising. -/
def rowOf (n : Nat) : List It := (List.range n).map fun i => plain [BitVec.ofNat 8 (i + 1)] []
theorem rowOf_succ (n : Nat) : rowOf (n + 1) = rowOf n ++ [plain [BitVec.ofNat 8 (n + 1)] []] := by unfold rowOf; rw [List.range_succ, List.map_append]; rfl
theorem rowOf_len (n : Nat) : (rowOf n).length = n := by simp [rowOf]
theorem right_row : ∀ n : Nat, n < 21 → right (rowOf n) = decide (n ≤ 6) := by decide +kernel
theorem right_bad : right [⟨[107#8], [], PtM.none, 3#16⟩] = false := by decide +kernel
end LeafM
theorem builtSlice_two (r s : Raw) : Tryd.prog.builtSlice 45 2 [(0, .agg (rawA r)), (1, .agg (rawA s))] = some (rawA r ++ rawA s) := by kernel_rfl
theorem built_two (A A' : Option Addr) (n c n' c' : Nat) : Tryd.prog.built 45 [(0, .slice A n c), (1, .slice A' n' c')] = some (rawA { noR with ka := A, kn := n, kc := c, va := A', vn := n', vc := c' }) := by kernel_rfl
theorem built_bad (A : Option Addr) (n c : Nat) : Tryd.prog.built 45 [(0, .slice A n c), (3, .int .u16 3)] = some (rawA { noR with ka := A, kn := n, kc := c, size := 3#16 }) := by kernel_rfl
theorem wpList_slice_it2 {w : World} {ops : Array Oper} {rest : List Oper} {o : Oper} {a : Act} {Q : Exit → Act → World → Prop} (hgd : o.guard = none) (x y : Operand) (ho : o.op = .buildSlice 22 2 #[(0, x), (1, y)]) (r s : Raw) (hx : a.eval x = .agg (rawA r)) (hy : a.eval y = .agg (rawA s))
    (h : wpList Tryd.prog ops Q rest (a.put o.dst (.slice (some ⟨w.heap.size, 0, none⟩) 2 2)) (w.alloc (.cells (rawA r ++ rawA s) 45))) : wpList Tryd.prog ops Q (o :: rest) a w :=
  Great.wpList_buildSliceTo hgd 22 45 2 _ ho w.heap.size rfl o.dst rfl Tryd.underlying22 (rawA r ++ rawA s) (by simp only [List.map_toArray, List.map_cons, List.map_nil, hx, hy]; exact builtSlice_two r s) h
theorem its_two {W : World} {r s : Raw} {x y : It} (hr : RawIs W.heap.size W r x) (hs : RawIs W.heap.size W s y) : Its (W.alloc (.cells (rawA r ++ rawA s) 45)).heap.size (W.alloc (.cells (rawA r ++ rawA s) 45)) (.slice (some ⟨W.heap.size, 0, none⟩) 2 2) [x, y] := by
  rw [World.size_alloc]
  refine ⟨[r, s], ⟨fun y hy => rfl, _, 2, rfl, Nat.le_refl _, by decide, fun _ => ⟨W.heap.size, 0, rfl, Nat.lt_succ_self _, fun j u hu => ?_⟩⟩, rfl, fun j r' x' hr' hx' => ?_⟩
  · rw [Nat.zero_add, (Row.new W 45 (rawA r ++ rawA s)).cell]
    have e : rawA r ++ rawA s = ([r, s].flatMap rawE).toArray := by simp [rawA]
    rw [e]
    simpa using hu
  · have hj := (List.getElem?_eq_some_iff.1 hr').1
    have hb := Grows.alloc W (.cells (rawA r ++ rawA s) 45)
    rcases j with _ | _ | j
    · simp only [List.getElem?_cons_zero, Option.some.injEq] at hr' hx'
      subst hr' hx'
      exact (hr.below hb).more (Nat.le_succ _)
    · simp only [List.getElem?_cons_succ, List.getElem?_cons_zero, Option.some.injEq] at hr' hx'
      subst hr' hx'
      exact (hs.below hb).more (Nat.le_succ _)
    · simp only [List.length_cons, List.length_nil] at hj; omega
theorem wpList_loadG_it {w : World} {ops : Array Oper} {rest : List Oper} {o : Oper} {a : Act} {Q : Exit → Act → World → Prop} (hw : Region.wanted o (yielded ops a.tmps) = true) (y : Operand) (ho : o.op = .load 45 y) (g : Nat) (r : Raw) (hx : a.eval y = .pointer (some ⟨g, 0, none⟩)) (hr : Row w g 45 (rawA r))
    (h : wpList Tryd.prog ops Q rest (a.put o.dst (.agg (rawA r))) w) : wpList Tryd.prog ops Q (o :: rest) a w :=
  wpList_does hw (R := fun v w' => v = .agg (rawA r) ∧ w = w') (dk_load 45 y ⟨g, 0, none⟩ _ ho hx (item_run_load (rawA_row hr)) ⟨rfl, rfl⟩) (by rintro v w' ⟨rfl, rfl⟩; exact h)
theorem own_slice {base : Nat} {W : World} {v : Value} {l : List It} (h : OwnIts base W v l) : ∃ A n c, v = .slice A n c := by
  obtain ⟨A, c, e, _⟩ := h.form; exact ⟨A, _, c, e⟩
theorem key_byte {k : Nat} (h : k < 20) : bI (BitVec.ofNat 8 (k + 1)) = (k : Int) + 1 := by
  rw [bI_ofNat _ (by omega)]; omega
set_option maxHeartbeats 8000000 in
set_option maxRecDepth 100000 in
theorem leafRight_any (u : Value) (la : List (BitVec 8)) (v : Value) (lb : List (BitVec 8)) (t : Value) (lv : List (BitVec 8)) (n : Int) (w : World) (hu : Bytes w.heap.size w u la) (hv : Bytes w.heap.size w v lb) (ht : Bytes w.heap.size w t lv) (n1 : -9223372036854775808 ≤ n) (n2 : n ≤ 9223372036854775807) (hG : Glob w) :
    Calls Tryd.prog 6 #[u, v, t, .int .i64 n] w fun e w' => e = .returned (.bool true) ∧ Below w.heap.size w w' := by
  have G0 := Lib.hid (Grows.refl w)
  have CWakes := Lib.hid (fun W (h : Grows w W) => wakes6_any W (hG.grows h))
  have HU := Lib.hid hu; have HV := Lib.hid hv; have HT := Lib.hid ht
  obtain ⟨A, cap, rfl, _⟩ := hu
  obtain ⟨A', cap', rfl, _⟩ := hv
  obtain ⟨A3, cap3, rfl, _⟩ := ht
  simp only [List.length_map] at HU HV HT ⊢
  clear hG
  by_cases z0 : 40 < la.length
  · have y0 : (40 : Int) < la.length := by omega
    go_enter Tryd.func6, Tryd.ntmps6
    go_wp2_with (first
      | (go_at_call 9; (with_reducible refine (CWakes.out _ G0.out).mono ?_); rintro e w1 ⟨rfl, g⟩; have G1 := Lib.hid (G0.out.trans g); clear g))
    go_ret
    exact ⟨rfl, G1.out⟩
  have y0 : ¬ (40 : Int) < la.length := by omega
  by_cases z1 : 40 < lb.length
  · have y1 : (40 : Int) < lb.length := by omega
    go_enter Tryd.func6, Tryd.ntmps6
    go_wp2_with (first
      | (go_at_call 9; (with_reducible refine (CWakes.out _ G0.out).mono ?_); rintro e w1 ⟨rfl, g⟩; have G1 := Lib.hid (G0.out.trans g); clear g))
    go_ret
    exact ⟨rfl, G1.out⟩
  have y1 : ¬ (40 : Int) < lb.length := by omega
  by_cases z2 : 40 < lv.length
  · have y2 : (40 : Int) < lv.length := by omega
    go_enter Tryd.func6, Tryd.ntmps6
    go_wp2_with (first
      | (go_at_call 9; (with_reducible refine (CWakes.out _ G0.out).mono ?_); rintro e w1 ⟨rfl, g⟩; have G1 := Lib.hid (G0.out.trans g); clear g))
    go_ret
    exact ⟨rfl, G1.out⟩
  have y2 : ¬ (40 : Int) < lv.length := by omega
  by_cases z3 : n < 0
  · go_enter Tryd.func6, Tryd.ntmps6
    go_wp2_with (first
      | (go_at_call 9; (with_reducible refine (CWakes.out _ G0.out).mono ?_); rintro e w1 ⟨rfl, g⟩; have G1 := Lib.hid (G0.out.trans g); clear g))
    go_ret
    exact ⟨rfl, G1.out⟩
  by_cases z4 : 20 < n
  · go_enter Tryd.func6, Tryd.ntmps6
    go_wp2_with (first
      | (go_at_call 9; (with_reducible refine (CWakes.out _ G0.out).mono ?_); rintro e w1 ⟨rfl, g⟩; have G1 := Lib.hid (G0.out.trans g); clear g))
    go_ret
    exact ⟨rfl, G1.out⟩
  obtain ⟨N, rfl⟩ : ∃ N : Nat, n = N := ⟨n.toNat, by omega⟩
  have hN20 : N ≤ 20 := by omega
  have HRP := LeafM.right_pair la lb lv
  have HRR := LeafM.right_row N (by omega)
  have CPair := Lib.hid (fun W (h : Grows w W) => right6_any _ _ _ (its_two (W := W) (r := { noR with ka := A, kn := la.length, kc := cap, va := A3, vn := lv.length, vc := cap3 }) (s := { noR with ka := A', kn := lb.length, kc := cap' }) (x := LeafM.plain la lv) (y := LeafM.plain lb []) ⟨(HU.out.below h).more h.size, (HT.out.below h).more h.size, rfl, rfl⟩ ⟨(HV.out.below h).more h.size, Sl.nil _ _, rfl, rfl⟩))
  have CRow := Lib.hid (fun r W (h : Its (World.heap W).size W r (LeafM.rowOf N)) => right6_any r _ W h)
  rw [HRR] at CRow
  have CSame := Lib.hid (fun r W (h : Its (World.heap W).size W r (LeafM.rowOf N)) => same6_any r r _ _ W h h)
  simp only [decide_true] at CSame
  have CNil := Lib.hid (fun W => right6_any (.slice none 0 0) [] W (Its.nil _ _))
  rw [right_nil] at CNil
  have CBad := Lib.hid (fun W Bk (h : Bytes (World.heap W).size W (.slice (some ⟨Bk, 0, none⟩) 1 1) [107#8]) => right6_any _ _ _ (its_one' (W := W) (r := { noR with ka := some ⟨Bk, 0, none⟩, kn := 1, kc := 1, size := 3#16 }) (x := ⟨[107#8], [], PtM.none, 3#16⟩) ⟨h, Sl.nil _ _, rfl, rfl⟩))
  rw [LeafM.right_bad] at CBad
  have HRS := Lib.hid (fun k => LeafM.rowOf_succ k)
  have HRL := Lib.hid (fun k => LeafM.rowOf_len k)
  have HB2 := Lib.hid built_two; have HB1 := Lib.hid built_key; have HB3 := Lib.hid built_bad
  have kc := fun (w : World) (C : Array Value) (n c : Nat) => Lib.run_convert_bytes_const (P := Tryd.prog) w 37 5 C n c Tryd.underlying37 Tryd.underlying5
  have es1 := Lib.hid (fun W (h : Grows w W) => run_str (P := Tryd.prog) (HU.out.below h) 37 5 9 Tryd.underlying37 Tryd.underlying5 Tryd.underlying9)
  have es2 := Lib.hid (fun W (h : Grows w W) => run_str (P := Tryd.prog) (HV.out.below h) 37 5 9 Tryd.underlying37 Tryd.underlying5 Tryd.underlying9)
  have HLT : Hid (LeafM.lt la lb = Op.bytesLess (str la).toList (str lb).toList) := rfl
  generalize LeafM.right [LeafM.plain la lv, LeafM.plain lb []] = RP at *
  generalize LeafM.lt la lb = tl at *
  have hlt := HLT.out.symm
  clear HRR HLT
  by_cases c0 : 1 ≤ la.length
  case neg =>
    have d0 : ¬ (1 : Int) ≤ la.length := by omega
    rw [decide_eq_false c0, Bool.false_and] at HRP
    subst HRP
    go_enter Tryd.func6, Tryd.ntmps6
    go_wp2_with (first
      | ((with_reducible refine wpList_buildG (o := ⟨some 60, _, _, _, _, _⟩) ?_ 45 #[(0, .tmp 58), (1, .tmp 59)] (rawA { noR with ka := A, kn := la.length, kc := cap, va := A3, vn := lv.length, vc := cap3 }) ?_ ?_ ?_); exact rfl; exact rfl; exact HB2.out _ _ _ _ _ _)
      | ((with_reducible refine wpList_buildG (o := ⟨some 62, _, _, _, _, _⟩) ?_ 45 #[(0, .tmp 61)] (rawA { noR with ka := A', kn := lb.length, kc := cap' }) ?_ ?_ ?_); exact rfl; exact rfl; exact HB1.out _ _ _)
      | ((with_reducible refine wpList_slice_it2 (o := ⟨some 63, _, _, _, _, _⟩) ?_ (.tmp 60) (.tmp 62) ?_ { noR with ka := A, kn := la.length, kc := cap, va := A3, vn := lv.length, vc := cap3 } { noR with ka := A', kn := lb.length, kc := cap' } ?_ ?_ ?_); exact rfl; exact rfl; exact rfl; exact rfl)
      | (go_at_call 15; (with_reducible refine (CPair.out w G0.out).mono ?_); rintro e w1 ⟨rfl, g⟩; have G1 := Lib.hid ((Grows.alloc w (.cells (rawA { noR with ka := A, kn := la.length, kc := cap, va := A3, vn := lv.length, vc := cap3 } ++ rawA { noR with ka := A', kn := lb.length, kc := cap' }) 45)).trans g); clear g))
    go_loopw [10, 11] (fun out i wr => ∃ k : Nat, k ≤ N ∧ i = .int .i64 k ∧ OwnIts w.heap.size wr out (LeafM.rowOf k) ∧ Grows w wr) (fun _ i _ => N - (intOf i).toNat)
    case atStart => exact ⟨0, Nat.zero_le _, rfl, OwnIts.nil _ _, G1.out⟩
    case round =>
      obtain ⟨k, hk, rfl, ho, hb⟩ := hrel
      have HO := Lib.hid ho; have HB := Lib.hid hb
      obtain ⟨Ak, nk, ck, rfl⟩ := own_slice ho
      clear ho hb
      by_cases hltk : k < N
      · have hltk' : (k : Int) < N := by omega
        have w8 : IntKind.u8.wrap ((k : Int) + 1) = (k : Int) + 1 := IntWalk.u8_in _ (by omega)
        have M1 := Lib.hid (Mine.lit (base := w.heap.size) wr #[.int .u8 ((k : Int) + 1)] [BitVec.ofNat 8 (k + 1)] HB.out.size (by show 1 ≤ 1000000; decide) (by rw [List.map_cons, List.map_nil]; unfold byteV; rw [key_byte (by omega)]))
        have GA := Lib.hid (Grows.alloc wr (.cells #[.int .u8 ((k : Int) + 1)] 5))
        go_wp2_with (first
          | ((with_reducible refine wpList_buildG (o := ⟨some 84, _, _, _, _, _⟩) ?_ 45 #[(0, .tmp 83)] (rawA { noR with ka := some ⟨wr.heap.size, 0, none⟩, kn := 1, kc := 1 }) ?_ ?_ ?_); exact rfl; exact rfl; exact HB1.out _ _ _)
          | ((with_reducible refine wpList_slice_it (o := ⟨some 85, _, _, _, _, _⟩) ?_ (.tmp 84) ?_ { noR with ka := some ⟨wr.heap.size, 0, none⟩, kn := 1, kc := 1 } ?_ ?_); exact rfl; exact rfl; exact rfl)
          | ((with_reducible refine wpList_append_its (o := ⟨some 86, _, _, _, _, _⟩) ?_ (.tmp 79) (.tmp 85) ?_ w.heap.size ((World.heap (wr.alloc (.cells #[.int .u8 ((k : Int) + 1)] 5))).size + 1) (LeafM.rowOf k) { noR with ka := some ⟨wr.heap.size, 0, none⟩, kn := 1, kc := 1 } (LeafM.plain [BitVec.ofNat 8 (k + 1)] []) ?_ ?_ ?_ ?_ ?_ ?_); exact rfl; exact rfl; exact (HO.out.grows GA.out).grows (Grows.alloc _ _); exact raw_one _ _; exact ⟨M1.out.grows (Grows.alloc _ _), Mine.nil _ _, rfl, rfl⟩; (rw [HRL.out]; omega); exact Nat.le_trans HB.out.size (GA.out.trans (Grows.alloc _ _)).size; intro v6 w6 h6 g6; rw [← HRS.out] at h6; have O6 := Lib.hid h6; have G6 := Lib.hid (show Grows w w6 from Below.grown (HB.out.trans (GA.out.trans (Grows.alloc _ _))) g6 (HB.out.trans (GA.out.trans (Grows.alloc _ _))).size HO.out.low); clear h6 g6))
        go_roundw
        case rel => exact ⟨k + 1, by omega, by go_num, O6.out, G6.out⟩
        case measure => simp [intOf]; omega
      · obtain rfl : k = N := by omega
        have hltk' : ¬ (k : Int) < k := by omega
        have LT := Lib.hid (letter wr 107#8 1 2)
        have GL := Lib.hid (HB.out.trans (Grows.alloc wr (.cells #[.int .u8 107] 5 (1, 2))))
        have OL := Lib.hid (HO.out.grows (Grows.alloc wr (.cells #[.int .u8 107] 5 (1, 2))))
        have hIL : decide (((k : Nat) : Int) ≤ 6) = decide (k ≤ 6) := by rw [Bool.eq_iff_iff]; simp only [decide_eq_true_eq]; omega
        generalize decide (k ≤ 6) = tk at *
        go_wp2_with (first
          | ((with_reducible refine wpList_buildG (o := ⟨some 89, _, _, _, _, _⟩) ?_ 45 #[(0, .tmp 88), (3, .const (.int .u16 3))] (rawA { noR with ka := some ⟨wr.heap.size, 0, none⟩, kn := 1, kc := 1, size := 3#16 }) ?_ ?_ ?_); exact rfl; exact rfl; exact HB3.out _ _ _)
          | ((with_reducible refine wpList_store_it ?_ (.tmp 12) (.tmp 89) ?_ (wr.heap.size + 1) { noR with ka := some ⟨wr.heap.size, 0, none⟩, kn := 1, kc := 1, size := 3#16 } #[.slice none 0 0, .slice none 0 0, .int .u8 0, .int .u16 0, .int .u16 0, .int .u32 0, .int .u64 0, .int .u16 0] ?_ ?_ ?_ ?_ ?_); exact rfl; exact rfl; exact rfl; exact rfl; exact rfl; (have h := Row.new (wr.alloc (.cells #[.int .u8 107] 5 (1, 2))) 45 #[.slice none 0 0, .slice none 0 0, .int .u8 0, .int .u16 0, .int .u16 0, .int .u32 0, .int .u64 0, .int .u16 0]; rwa [World.size_alloc] at h); intro w3 hp hg; have g := grown_fresh (W := wr.alloc (.cells #[.int .u8 107] 5 (1, 2))) (W' := w3) rfl (by rw [World.size_alloc]; exact hg); have P3 := Lib.hid hp; have G3 := Lib.hid (GL.out.trans g); have O3 := Lib.hid (OL.out.grows g); have L3 := Lib.hid ((LT.out.below g).more g.size); clear hp hg g)
          | (go_at_call 15; (with_reducible refine (CRow.out _ w3 O3.out.its).mono ?_); rintro e w4 ⟨rfl, g⟩; have P4 := Lib.hid (Row.grows P3.out g); have G4 := Lib.hid (G3.out.trans g); have O4 := Lib.hid (O3.out.grows g); have L4 := Lib.hid ((L3.out.below g).more g.size); clear g)
          | ((with_reducible refine wpList_loadG_it (o := ⟨some 96, _, _, _, _, _⟩) ?_ (.tmp 12) ?_ (wr.heap.size + 1) { noR with ka := some ⟨wr.heap.size, 0, none⟩, kn := 1, kc := 1, size := 3#16 } ?_ ?_ ?_); exact rfl; exact rfl; exact rfl; exact P4.out)
          | ((with_reducible refine wpList_sliceG_it (o := ⟨some 97, _, _, _, _, _⟩) ?_ (.tmp 96) ?_ { noR with ka := some ⟨wr.heap.size, 0, none⟩, kn := 1, kc := 1, size := 3#16 } ?_ ?_); exact rfl; exact rfl; exact rfl)
          | (go_at_call 15; (with_reducible refine (CBad.out w4 wr.heap.size L4.out).mono ?_); rintro e w5 ⟨rfl, g⟩; have g' := (Grows.alloc w4 (.cells (rawA { noR with ka := some ⟨wr.heap.size, 0, none⟩, kn := 1, kc := 1, size := 3#16 }) 45)).trans g; have G5 := Lib.hid (G4.out.trans g'); have O5 := Lib.hid (O4.out.grows g'); clear g g')
          | (go_at_call 15; (with_reducible refine (CNil.out w5).mono ?_); rintro e w6 ⟨rfl, g⟩; have G6 := Lib.hid (G5.out.trans g); have O6 := Lib.hid (O5.out.grows g); clear g)
          | (go_at_call 17; (with_reducible refine (CSame.out _ w6 O6.out.its).mono ?_); rintro e w7 ⟨rfl, g⟩; have G7 := Lib.hid (G6.out.trans g); clear g)
          | (go_at_call 9; (with_reducible refine (CWakes.out w7 G7.out).mono ?_); rintro e w8 ⟨rfl, g⟩; have G8 := Lib.hid (G7.out.trans g); clear g))
        go_ret
        exact ⟨rfl, G8.out⟩
  have d0 : (1 : Int) ≤ la.length := by omega
  rw [decide_eq_true c0, Bool.true_and] at HRP
  by_cases c1 : la.length ≤ 8
  case neg =>
    have d1 : ¬ (la.length : Int) ≤ 8 := by omega
    rw [decide_eq_false c1, Bool.false_and] at HRP
    subst HRP
    go_enter Tryd.func6, Tryd.ntmps6
    go_wp2_with (first
      | ((with_reducible refine wpList_buildG (o := ⟨some 60, _, _, _, _, _⟩) ?_ 45 #[(0, .tmp 58), (1, .tmp 59)] (rawA { noR with ka := A, kn := la.length, kc := cap, va := A3, vn := lv.length, vc := cap3 }) ?_ ?_ ?_); exact rfl; exact rfl; exact HB2.out _ _ _ _ _ _)
      | ((with_reducible refine wpList_buildG (o := ⟨some 62, _, _, _, _, _⟩) ?_ 45 #[(0, .tmp 61)] (rawA { noR with ka := A', kn := lb.length, kc := cap' }) ?_ ?_ ?_); exact rfl; exact rfl; exact HB1.out _ _ _)
      | ((with_reducible refine wpList_slice_it2 (o := ⟨some 63, _, _, _, _, _⟩) ?_ (.tmp 60) (.tmp 62) ?_ { noR with ka := A, kn := la.length, kc := cap, va := A3, vn := lv.length, vc := cap3 } { noR with ka := A', kn := lb.length, kc := cap' } ?_ ?_ ?_); exact rfl; exact rfl; exact rfl; exact rfl)
      | (go_at_call 15; (with_reducible refine (CPair.out w G0.out).mono ?_); rintro e w1 ⟨rfl, g⟩; have G1 := Lib.hid ((Grows.alloc w (.cells (rawA { noR with ka := A, kn := la.length, kc := cap, va := A3, vn := lv.length, vc := cap3 } ++ rawA { noR with ka := A', kn := lb.length, kc := cap' }) 45)).trans g); clear g))
    go_loopw [10, 11] (fun out i wr => ∃ k : Nat, k ≤ N ∧ i = .int .i64 k ∧ OwnIts w.heap.size wr out (LeafM.rowOf k) ∧ Grows w wr) (fun _ i _ => N - (intOf i).toNat)
    case atStart => exact ⟨0, Nat.zero_le _, rfl, OwnIts.nil _ _, G1.out⟩
    case round =>
      obtain ⟨k, hk, rfl, ho, hb⟩ := hrel
      have HO := Lib.hid ho; have HB := Lib.hid hb
      obtain ⟨Ak, nk, ck, rfl⟩ := own_slice ho
      clear ho hb
      by_cases hltk : k < N
      · have hltk' : (k : Int) < N := by omega
        have w8 : IntKind.u8.wrap ((k : Int) + 1) = (k : Int) + 1 := IntWalk.u8_in _ (by omega)
        have M1 := Lib.hid (Mine.lit (base := w.heap.size) wr #[.int .u8 ((k : Int) + 1)] [BitVec.ofNat 8 (k + 1)] HB.out.size (by show 1 ≤ 1000000; decide) (by rw [List.map_cons, List.map_nil]; unfold byteV; rw [key_byte (by omega)]))
        have GA := Lib.hid (Grows.alloc wr (.cells #[.int .u8 ((k : Int) + 1)] 5))
        go_wp2_with (first
          | ((with_reducible refine wpList_buildG (o := ⟨some 84, _, _, _, _, _⟩) ?_ 45 #[(0, .tmp 83)] (rawA { noR with ka := some ⟨wr.heap.size, 0, none⟩, kn := 1, kc := 1 }) ?_ ?_ ?_); exact rfl; exact rfl; exact HB1.out _ _ _)
          | ((with_reducible refine wpList_slice_it (o := ⟨some 85, _, _, _, _, _⟩) ?_ (.tmp 84) ?_ { noR with ka := some ⟨wr.heap.size, 0, none⟩, kn := 1, kc := 1 } ?_ ?_); exact rfl; exact rfl; exact rfl)
          | ((with_reducible refine wpList_append_its (o := ⟨some 86, _, _, _, _, _⟩) ?_ (.tmp 79) (.tmp 85) ?_ w.heap.size ((World.heap (wr.alloc (.cells #[.int .u8 ((k : Int) + 1)] 5))).size + 1) (LeafM.rowOf k) { noR with ka := some ⟨wr.heap.size, 0, none⟩, kn := 1, kc := 1 } (LeafM.plain [BitVec.ofNat 8 (k + 1)] []) ?_ ?_ ?_ ?_ ?_ ?_); exact rfl; exact rfl; exact (HO.out.grows GA.out).grows (Grows.alloc _ _); exact raw_one _ _; exact ⟨M1.out.grows (Grows.alloc _ _), Mine.nil _ _, rfl, rfl⟩; (rw [HRL.out]; omega); exact Nat.le_trans HB.out.size (GA.out.trans (Grows.alloc _ _)).size; intro v6 w6 h6 g6; rw [← HRS.out] at h6; have O6 := Lib.hid h6; have G6 := Lib.hid (show Grows w w6 from Below.grown (HB.out.trans (GA.out.trans (Grows.alloc _ _))) g6 (HB.out.trans (GA.out.trans (Grows.alloc _ _))).size HO.out.low); clear h6 g6))
        go_roundw
        case rel => exact ⟨k + 1, by omega, by go_num, O6.out, G6.out⟩
        case measure => simp [intOf]; omega
      · obtain rfl : k = N := by omega
        have hltk' : ¬ (k : Int) < k := by omega
        have LT := Lib.hid (letter wr 107#8 1 2)
        have GL := Lib.hid (HB.out.trans (Grows.alloc wr (.cells #[.int .u8 107] 5 (1, 2))))
        have OL := Lib.hid (HO.out.grows (Grows.alloc wr (.cells #[.int .u8 107] 5 (1, 2))))
        have hIL : decide (((k : Nat) : Int) ≤ 6) = decide (k ≤ 6) := by rw [Bool.eq_iff_iff]; simp only [decide_eq_true_eq]; omega
        generalize decide (k ≤ 6) = tk at *
        go_wp2_with (first
          | ((with_reducible refine wpList_buildG (o := ⟨some 89, _, _, _, _, _⟩) ?_ 45 #[(0, .tmp 88), (3, .const (.int .u16 3))] (rawA { noR with ka := some ⟨wr.heap.size, 0, none⟩, kn := 1, kc := 1, size := 3#16 }) ?_ ?_ ?_); exact rfl; exact rfl; exact HB3.out _ _ _)
          | ((with_reducible refine wpList_store_it ?_ (.tmp 12) (.tmp 89) ?_ (wr.heap.size + 1) { noR with ka := some ⟨wr.heap.size, 0, none⟩, kn := 1, kc := 1, size := 3#16 } #[.slice none 0 0, .slice none 0 0, .int .u8 0, .int .u16 0, .int .u16 0, .int .u32 0, .int .u64 0, .int .u16 0] ?_ ?_ ?_ ?_ ?_); exact rfl; exact rfl; exact rfl; exact rfl; exact rfl; (have h := Row.new (wr.alloc (.cells #[.int .u8 107] 5 (1, 2))) 45 #[.slice none 0 0, .slice none 0 0, .int .u8 0, .int .u16 0, .int .u16 0, .int .u32 0, .int .u64 0, .int .u16 0]; rwa [World.size_alloc] at h); intro w3 hp hg; have g := grown_fresh (W := wr.alloc (.cells #[.int .u8 107] 5 (1, 2))) (W' := w3) rfl (by rw [World.size_alloc]; exact hg); have P3 := Lib.hid hp; have G3 := Lib.hid (GL.out.trans g); have O3 := Lib.hid (OL.out.grows g); have L3 := Lib.hid ((LT.out.below g).more g.size); clear hp hg g)
          | (go_at_call 15; (with_reducible refine (CRow.out _ w3 O3.out.its).mono ?_); rintro e w4 ⟨rfl, g⟩; have P4 := Lib.hid (Row.grows P3.out g); have G4 := Lib.hid (G3.out.trans g); have O4 := Lib.hid (O3.out.grows g); have L4 := Lib.hid ((L3.out.below g).more g.size); clear g)
          | ((with_reducible refine wpList_loadG_it (o := ⟨some 96, _, _, _, _, _⟩) ?_ (.tmp 12) ?_ (wr.heap.size + 1) { noR with ka := some ⟨wr.heap.size, 0, none⟩, kn := 1, kc := 1, size := 3#16 } ?_ ?_ ?_); exact rfl; exact rfl; exact rfl; exact P4.out)
          | ((with_reducible refine wpList_sliceG_it (o := ⟨some 97, _, _, _, _, _⟩) ?_ (.tmp 96) ?_ { noR with ka := some ⟨wr.heap.size, 0, none⟩, kn := 1, kc := 1, size := 3#16 } ?_ ?_); exact rfl; exact rfl; exact rfl)
          | (go_at_call 15; (with_reducible refine (CBad.out w4 wr.heap.size L4.out).mono ?_); rintro e w5 ⟨rfl, g⟩; have g' := (Grows.alloc w4 (.cells (rawA { noR with ka := some ⟨wr.heap.size, 0, none⟩, kn := 1, kc := 1, size := 3#16 }) 45)).trans g; have G5 := Lib.hid (G4.out.trans g'); have O5 := Lib.hid (O4.out.grows g'); clear g g')
          | (go_at_call 15; (with_reducible refine (CNil.out w5).mono ?_); rintro e w6 ⟨rfl, g⟩; have G6 := Lib.hid (G5.out.trans g); have O6 := Lib.hid (O5.out.grows g); clear g)
          | (go_at_call 17; (with_reducible refine (CSame.out _ w6 O6.out.its).mono ?_); rintro e w7 ⟨rfl, g⟩; have G7 := Lib.hid (G6.out.trans g); clear g)
          | (go_at_call 9; (with_reducible refine (CWakes.out w7 G7.out).mono ?_); rintro e w8 ⟨rfl, g⟩; have G8 := Lib.hid (G7.out.trans g); clear g))
        go_ret
        exact ⟨rfl, G8.out⟩
  have d1 : (la.length : Int) ≤ 8 := by omega
  rw [decide_eq_true c1, Bool.true_and] at HRP
  by_cases c2 : 1 ≤ lb.length
  case neg =>
    have d2 : ¬ (1 : Int) ≤ lb.length := by omega
    rw [decide_eq_false c2, Bool.false_and] at HRP
    subst HRP
    go_enter Tryd.func6, Tryd.ntmps6
    go_wp2_with (first
      | ((with_reducible refine wpList_buildG (o := ⟨some 60, _, _, _, _, _⟩) ?_ 45 #[(0, .tmp 58), (1, .tmp 59)] (rawA { noR with ka := A, kn := la.length, kc := cap, va := A3, vn := lv.length, vc := cap3 }) ?_ ?_ ?_); exact rfl; exact rfl; exact HB2.out _ _ _ _ _ _)
      | ((with_reducible refine wpList_buildG (o := ⟨some 62, _, _, _, _, _⟩) ?_ 45 #[(0, .tmp 61)] (rawA { noR with ka := A', kn := lb.length, kc := cap' }) ?_ ?_ ?_); exact rfl; exact rfl; exact HB1.out _ _ _)
      | ((with_reducible refine wpList_slice_it2 (o := ⟨some 63, _, _, _, _, _⟩) ?_ (.tmp 60) (.tmp 62) ?_ { noR with ka := A, kn := la.length, kc := cap, va := A3, vn := lv.length, vc := cap3 } { noR with ka := A', kn := lb.length, kc := cap' } ?_ ?_ ?_); exact rfl; exact rfl; exact rfl; exact rfl)
      | (go_at_call 15; (with_reducible refine (CPair.out w G0.out).mono ?_); rintro e w1 ⟨rfl, g⟩; have G1 := Lib.hid ((Grows.alloc w (.cells (rawA { noR with ka := A, kn := la.length, kc := cap, va := A3, vn := lv.length, vc := cap3 } ++ rawA { noR with ka := A', kn := lb.length, kc := cap' }) 45)).trans g); clear g))
    go_loopw [10, 11] (fun out i wr => ∃ k : Nat, k ≤ N ∧ i = .int .i64 k ∧ OwnIts w.heap.size wr out (LeafM.rowOf k) ∧ Grows w wr) (fun _ i _ => N - (intOf i).toNat)
    case atStart => exact ⟨0, Nat.zero_le _, rfl, OwnIts.nil _ _, G1.out⟩
    case round =>
      obtain ⟨k, hk, rfl, ho, hb⟩ := hrel
      have HO := Lib.hid ho; have HB := Lib.hid hb
      obtain ⟨Ak, nk, ck, rfl⟩ := own_slice ho
      clear ho hb
      by_cases hltk : k < N
      · have hltk' : (k : Int) < N := by omega
        have w8 : IntKind.u8.wrap ((k : Int) + 1) = (k : Int) + 1 := IntWalk.u8_in _ (by omega)
        have M1 := Lib.hid (Mine.lit (base := w.heap.size) wr #[.int .u8 ((k : Int) + 1)] [BitVec.ofNat 8 (k + 1)] HB.out.size (by show 1 ≤ 1000000; decide) (by rw [List.map_cons, List.map_nil]; unfold byteV; rw [key_byte (by omega)]))
        have GA := Lib.hid (Grows.alloc wr (.cells #[.int .u8 ((k : Int) + 1)] 5))
        go_wp2_with (first
          | ((with_reducible refine wpList_buildG (o := ⟨some 84, _, _, _, _, _⟩) ?_ 45 #[(0, .tmp 83)] (rawA { noR with ka := some ⟨wr.heap.size, 0, none⟩, kn := 1, kc := 1 }) ?_ ?_ ?_); exact rfl; exact rfl; exact HB1.out _ _ _)
          | ((with_reducible refine wpList_slice_it (o := ⟨some 85, _, _, _, _, _⟩) ?_ (.tmp 84) ?_ { noR with ka := some ⟨wr.heap.size, 0, none⟩, kn := 1, kc := 1 } ?_ ?_); exact rfl; exact rfl; exact rfl)
          | ((with_reducible refine wpList_append_its (o := ⟨some 86, _, _, _, _, _⟩) ?_ (.tmp 79) (.tmp 85) ?_ w.heap.size ((World.heap (wr.alloc (.cells #[.int .u8 ((k : Int) + 1)] 5))).size + 1) (LeafM.rowOf k) { noR with ka := some ⟨wr.heap.size, 0, none⟩, kn := 1, kc := 1 } (LeafM.plain [BitVec.ofNat 8 (k + 1)] []) ?_ ?_ ?_ ?_ ?_ ?_); exact rfl; exact rfl; exact (HO.out.grows GA.out).grows (Grows.alloc _ _); exact raw_one _ _; exact ⟨M1.out.grows (Grows.alloc _ _), Mine.nil _ _, rfl, rfl⟩; (rw [HRL.out]; omega); exact Nat.le_trans HB.out.size (GA.out.trans (Grows.alloc _ _)).size; intro v6 w6 h6 g6; rw [← HRS.out] at h6; have O6 := Lib.hid h6; have G6 := Lib.hid (show Grows w w6 from Below.grown (HB.out.trans (GA.out.trans (Grows.alloc _ _))) g6 (HB.out.trans (GA.out.trans (Grows.alloc _ _))).size HO.out.low); clear h6 g6))
        go_roundw
        case rel => exact ⟨k + 1, by omega, by go_num, O6.out, G6.out⟩
        case measure => simp [intOf]; omega
      · obtain rfl : k = N := by omega
        have hltk' : ¬ (k : Int) < k := by omega
        have LT := Lib.hid (letter wr 107#8 1 2)
        have GL := Lib.hid (HB.out.trans (Grows.alloc wr (.cells #[.int .u8 107] 5 (1, 2))))
        have OL := Lib.hid (HO.out.grows (Grows.alloc wr (.cells #[.int .u8 107] 5 (1, 2))))
        have hIL : decide (((k : Nat) : Int) ≤ 6) = decide (k ≤ 6) := by rw [Bool.eq_iff_iff]; simp only [decide_eq_true_eq]; omega
        generalize decide (k ≤ 6) = tk at *
        go_wp2_with (first
          | ((with_reducible refine wpList_buildG (o := ⟨some 89, _, _, _, _, _⟩) ?_ 45 #[(0, .tmp 88), (3, .const (.int .u16 3))] (rawA { noR with ka := some ⟨wr.heap.size, 0, none⟩, kn := 1, kc := 1, size := 3#16 }) ?_ ?_ ?_); exact rfl; exact rfl; exact HB3.out _ _ _)
          | ((with_reducible refine wpList_store_it ?_ (.tmp 12) (.tmp 89) ?_ (wr.heap.size + 1) { noR with ka := some ⟨wr.heap.size, 0, none⟩, kn := 1, kc := 1, size := 3#16 } #[.slice none 0 0, .slice none 0 0, .int .u8 0, .int .u16 0, .int .u16 0, .int .u32 0, .int .u64 0, .int .u16 0] ?_ ?_ ?_ ?_ ?_); exact rfl; exact rfl; exact rfl; exact rfl; exact rfl; (have h := Row.new (wr.alloc (.cells #[.int .u8 107] 5 (1, 2))) 45 #[.slice none 0 0, .slice none 0 0, .int .u8 0, .int .u16 0, .int .u16 0, .int .u32 0, .int .u64 0, .int .u16 0]; rwa [World.size_alloc] at h); intro w3 hp hg; have g := grown_fresh (W := wr.alloc (.cells #[.int .u8 107] 5 (1, 2))) (W' := w3) rfl (by rw [World.size_alloc]; exact hg); have P3 := Lib.hid hp; have G3 := Lib.hid (GL.out.trans g); have O3 := Lib.hid (OL.out.grows g); have L3 := Lib.hid ((LT.out.below g).more g.size); clear hp hg g)
          | (go_at_call 15; (with_reducible refine (CRow.out _ w3 O3.out.its).mono ?_); rintro e w4 ⟨rfl, g⟩; have P4 := Lib.hid (Row.grows P3.out g); have G4 := Lib.hid (G3.out.trans g); have O4 := Lib.hid (O3.out.grows g); have L4 := Lib.hid ((L3.out.below g).more g.size); clear g)
          | ((with_reducible refine wpList_loadG_it (o := ⟨some 96, _, _, _, _, _⟩) ?_ (.tmp 12) ?_ (wr.heap.size + 1) { noR with ka := some ⟨wr.heap.size, 0, none⟩, kn := 1, kc := 1, size := 3#16 } ?_ ?_ ?_); exact rfl; exact rfl; exact rfl; exact P4.out)
          | ((with_reducible refine wpList_sliceG_it (o := ⟨some 97, _, _, _, _, _⟩) ?_ (.tmp 96) ?_ { noR with ka := some ⟨wr.heap.size, 0, none⟩, kn := 1, kc := 1, size := 3#16 } ?_ ?_); exact rfl; exact rfl; exact rfl)
          | (go_at_call 15; (with_reducible refine (CBad.out w4 wr.heap.size L4.out).mono ?_); rintro e w5 ⟨rfl, g⟩; have g' := (Grows.alloc w4 (.cells (rawA { noR with ka := some ⟨wr.heap.size, 0, none⟩, kn := 1, kc := 1, size := 3#16 }) 45)).trans g; have G5 := Lib.hid (G4.out.trans g'); have O5 := Lib.hid (O4.out.grows g'); clear g g')
          | (go_at_call 15; (with_reducible refine (CNil.out w5).mono ?_); rintro e w6 ⟨rfl, g⟩; have G6 := Lib.hid (G5.out.trans g); have O6 := Lib.hid (O5.out.grows g); clear g)
          | (go_at_call 17; (with_reducible refine (CSame.out _ w6 O6.out.its).mono ?_); rintro e w7 ⟨rfl, g⟩; have G7 := Lib.hid (G6.out.trans g); clear g)
          | (go_at_call 9; (with_reducible refine (CWakes.out w7 G7.out).mono ?_); rintro e w8 ⟨rfl, g⟩; have G8 := Lib.hid (G7.out.trans g); clear g))
        go_ret
        exact ⟨rfl, G8.out⟩
  have d2 : (1 : Int) ≤ lb.length := by omega
  rw [decide_eq_true c2, Bool.true_and] at HRP
  by_cases c3 : lb.length ≤ 8
  case neg =>
    have d3 : ¬ (lb.length : Int) ≤ 8 := by omega
    rw [decide_eq_false c3, Bool.false_and] at HRP
    subst HRP
    go_enter Tryd.func6, Tryd.ntmps6
    go_wp2_with (first
      | ((with_reducible refine wpList_buildG (o := ⟨some 60, _, _, _, _, _⟩) ?_ 45 #[(0, .tmp 58), (1, .tmp 59)] (rawA { noR with ka := A, kn := la.length, kc := cap, va := A3, vn := lv.length, vc := cap3 }) ?_ ?_ ?_); exact rfl; exact rfl; exact HB2.out _ _ _ _ _ _)
      | ((with_reducible refine wpList_buildG (o := ⟨some 62, _, _, _, _, _⟩) ?_ 45 #[(0, .tmp 61)] (rawA { noR with ka := A', kn := lb.length, kc := cap' }) ?_ ?_ ?_); exact rfl; exact rfl; exact HB1.out _ _ _)
      | ((with_reducible refine wpList_slice_it2 (o := ⟨some 63, _, _, _, _, _⟩) ?_ (.tmp 60) (.tmp 62) ?_ { noR with ka := A, kn := la.length, kc := cap, va := A3, vn := lv.length, vc := cap3 } { noR with ka := A', kn := lb.length, kc := cap' } ?_ ?_ ?_); exact rfl; exact rfl; exact rfl; exact rfl)
      | (go_at_call 15; (with_reducible refine (CPair.out w G0.out).mono ?_); rintro e w1 ⟨rfl, g⟩; have G1 := Lib.hid ((Grows.alloc w (.cells (rawA { noR with ka := A, kn := la.length, kc := cap, va := A3, vn := lv.length, vc := cap3 } ++ rawA { noR with ka := A', kn := lb.length, kc := cap' }) 45)).trans g); clear g))
    go_loopw [10, 11] (fun out i wr => ∃ k : Nat, k ≤ N ∧ i = .int .i64 k ∧ OwnIts w.heap.size wr out (LeafM.rowOf k) ∧ Grows w wr) (fun _ i _ => N - (intOf i).toNat)
    case atStart => exact ⟨0, Nat.zero_le _, rfl, OwnIts.nil _ _, G1.out⟩
    case round =>
      obtain ⟨k, hk, rfl, ho, hb⟩ := hrel
      have HO := Lib.hid ho; have HB := Lib.hid hb
      obtain ⟨Ak, nk, ck, rfl⟩ := own_slice ho
      clear ho hb
      by_cases hltk : k < N
      · have hltk' : (k : Int) < N := by omega
        have w8 : IntKind.u8.wrap ((k : Int) + 1) = (k : Int) + 1 := IntWalk.u8_in _ (by omega)
        have M1 := Lib.hid (Mine.lit (base := w.heap.size) wr #[.int .u8 ((k : Int) + 1)] [BitVec.ofNat 8 (k + 1)] HB.out.size (by show 1 ≤ 1000000; decide) (by rw [List.map_cons, List.map_nil]; unfold byteV; rw [key_byte (by omega)]))
        have GA := Lib.hid (Grows.alloc wr (.cells #[.int .u8 ((k : Int) + 1)] 5))
        go_wp2_with (first
          | ((with_reducible refine wpList_buildG (o := ⟨some 84, _, _, _, _, _⟩) ?_ 45 #[(0, .tmp 83)] (rawA { noR with ka := some ⟨wr.heap.size, 0, none⟩, kn := 1, kc := 1 }) ?_ ?_ ?_); exact rfl; exact rfl; exact HB1.out _ _ _)
          | ((with_reducible refine wpList_slice_it (o := ⟨some 85, _, _, _, _, _⟩) ?_ (.tmp 84) ?_ { noR with ka := some ⟨wr.heap.size, 0, none⟩, kn := 1, kc := 1 } ?_ ?_); exact rfl; exact rfl; exact rfl)
          | ((with_reducible refine wpList_append_its (o := ⟨some 86, _, _, _, _, _⟩) ?_ (.tmp 79) (.tmp 85) ?_ w.heap.size ((World.heap (wr.alloc (.cells #[.int .u8 ((k : Int) + 1)] 5))).size + 1) (LeafM.rowOf k) { noR with ka := some ⟨wr.heap.size, 0, none⟩, kn := 1, kc := 1 } (LeafM.plain [BitVec.ofNat 8 (k + 1)] []) ?_ ?_ ?_ ?_ ?_ ?_); exact rfl; exact rfl; exact (HO.out.grows GA.out).grows (Grows.alloc _ _); exact raw_one _ _; exact ⟨M1.out.grows (Grows.alloc _ _), Mine.nil _ _, rfl, rfl⟩; (rw [HRL.out]; omega); exact Nat.le_trans HB.out.size (GA.out.trans (Grows.alloc _ _)).size; intro v6 w6 h6 g6; rw [← HRS.out] at h6; have O6 := Lib.hid h6; have G6 := Lib.hid (show Grows w w6 from Below.grown (HB.out.trans (GA.out.trans (Grows.alloc _ _))) g6 (HB.out.trans (GA.out.trans (Grows.alloc _ _))).size HO.out.low); clear h6 g6))
        go_roundw
        case rel => exact ⟨k + 1, by omega, by go_num, O6.out, G6.out⟩
        case measure => simp [intOf]; omega
      · obtain rfl : k = N := by omega
        have hltk' : ¬ (k : Int) < k := by omega
        have LT := Lib.hid (letter wr 107#8 1 2)
        have GL := Lib.hid (HB.out.trans (Grows.alloc wr (.cells #[.int .u8 107] 5 (1, 2))))
        have OL := Lib.hid (HO.out.grows (Grows.alloc wr (.cells #[.int .u8 107] 5 (1, 2))))
        have hIL : decide (((k : Nat) : Int) ≤ 6) = decide (k ≤ 6) := by rw [Bool.eq_iff_iff]; simp only [decide_eq_true_eq]; omega
        generalize decide (k ≤ 6) = tk at *
        go_wp2_with (first
          | ((with_reducible refine wpList_buildG (o := ⟨some 89, _, _, _, _, _⟩) ?_ 45 #[(0, .tmp 88), (3, .const (.int .u16 3))] (rawA { noR with ka := some ⟨wr.heap.size, 0, none⟩, kn := 1, kc := 1, size := 3#16 }) ?_ ?_ ?_); exact rfl; exact rfl; exact HB3.out _ _ _)
          | ((with_reducible refine wpList_store_it ?_ (.tmp 12) (.tmp 89) ?_ (wr.heap.size + 1) { noR with ka := some ⟨wr.heap.size, 0, none⟩, kn := 1, kc := 1, size := 3#16 } #[.slice none 0 0, .slice none 0 0, .int .u8 0, .int .u16 0, .int .u16 0, .int .u32 0, .int .u64 0, .int .u16 0] ?_ ?_ ?_ ?_ ?_); exact rfl; exact rfl; exact rfl; exact rfl; exact rfl; (have h := Row.new (wr.alloc (.cells #[.int .u8 107] 5 (1, 2))) 45 #[.slice none 0 0, .slice none 0 0, .int .u8 0, .int .u16 0, .int .u16 0, .int .u32 0, .int .u64 0, .int .u16 0]; rwa [World.size_alloc] at h); intro w3 hp hg; have g := grown_fresh (W := wr.alloc (.cells #[.int .u8 107] 5 (1, 2))) (W' := w3) rfl (by rw [World.size_alloc]; exact hg); have P3 := Lib.hid hp; have G3 := Lib.hid (GL.out.trans g); have O3 := Lib.hid (OL.out.grows g); have L3 := Lib.hid ((LT.out.below g).more g.size); clear hp hg g)
          | (go_at_call 15; (with_reducible refine (CRow.out _ w3 O3.out.its).mono ?_); rintro e w4 ⟨rfl, g⟩; have P4 := Lib.hid (Row.grows P3.out g); have G4 := Lib.hid (G3.out.trans g); have O4 := Lib.hid (O3.out.grows g); have L4 := Lib.hid ((L3.out.below g).more g.size); clear g)
          | ((with_reducible refine wpList_loadG_it (o := ⟨some 96, _, _, _, _, _⟩) ?_ (.tmp 12) ?_ (wr.heap.size + 1) { noR with ka := some ⟨wr.heap.size, 0, none⟩, kn := 1, kc := 1, size := 3#16 } ?_ ?_ ?_); exact rfl; exact rfl; exact rfl; exact P4.out)
          | ((with_reducible refine wpList_sliceG_it (o := ⟨some 97, _, _, _, _, _⟩) ?_ (.tmp 96) ?_ { noR with ka := some ⟨wr.heap.size, 0, none⟩, kn := 1, kc := 1, size := 3#16 } ?_ ?_); exact rfl; exact rfl; exact rfl)
          | (go_at_call 15; (with_reducible refine (CBad.out w4 wr.heap.size L4.out).mono ?_); rintro e w5 ⟨rfl, g⟩; have g' := (Grows.alloc w4 (.cells (rawA { noR with ka := some ⟨wr.heap.size, 0, none⟩, kn := 1, kc := 1, size := 3#16 }) 45)).trans g; have G5 := Lib.hid (G4.out.trans g'); have O5 := Lib.hid (O4.out.grows g'); clear g g')
          | (go_at_call 15; (with_reducible refine (CNil.out w5).mono ?_); rintro e w6 ⟨rfl, g⟩; have G6 := Lib.hid (G5.out.trans g); have O6 := Lib.hid (O5.out.grows g); clear g)
          | (go_at_call 17; (with_reducible refine (CSame.out _ w6 O6.out.its).mono ?_); rintro e w7 ⟨rfl, g⟩; have G7 := Lib.hid (G6.out.trans g); clear g)
          | (go_at_call 9; (with_reducible refine (CWakes.out w7 G7.out).mono ?_); rintro e w8 ⟨rfl, g⟩; have G8 := Lib.hid (G7.out.trans g); clear g))
        go_ret
        exact ⟨rfl, G8.out⟩
  have d3 : (lb.length : Int) ≤ 8 := by omega
  rw [decide_eq_true c3, Bool.true_and] at HRP
  by_cases c4 : lv.length ≤ 16
  case neg =>
    have d4 : ¬ (lv.length : Int) ≤ 16 := by omega
    rw [decide_eq_false c4, Bool.false_and] at HRP
    subst HRP
    go_enter Tryd.func6, Tryd.ntmps6
    go_wp2_with (first
      | ((with_reducible refine wpList_buildG (o := ⟨some 60, _, _, _, _, _⟩) ?_ 45 #[(0, .tmp 58), (1, .tmp 59)] (rawA { noR with ka := A, kn := la.length, kc := cap, va := A3, vn := lv.length, vc := cap3 }) ?_ ?_ ?_); exact rfl; exact rfl; exact HB2.out _ _ _ _ _ _)
      | ((with_reducible refine wpList_buildG (o := ⟨some 62, _, _, _, _, _⟩) ?_ 45 #[(0, .tmp 61)] (rawA { noR with ka := A', kn := lb.length, kc := cap' }) ?_ ?_ ?_); exact rfl; exact rfl; exact HB1.out _ _ _)
      | ((with_reducible refine wpList_slice_it2 (o := ⟨some 63, _, _, _, _, _⟩) ?_ (.tmp 60) (.tmp 62) ?_ { noR with ka := A, kn := la.length, kc := cap, va := A3, vn := lv.length, vc := cap3 } { noR with ka := A', kn := lb.length, kc := cap' } ?_ ?_ ?_); exact rfl; exact rfl; exact rfl; exact rfl)
      | (go_at_call 15; (with_reducible refine (CPair.out w G0.out).mono ?_); rintro e w1 ⟨rfl, g⟩; have G1 := Lib.hid ((Grows.alloc w (.cells (rawA { noR with ka := A, kn := la.length, kc := cap, va := A3, vn := lv.length, vc := cap3 } ++ rawA { noR with ka := A', kn := lb.length, kc := cap' }) 45)).trans g); clear g))
    go_loopw [10, 11] (fun out i wr => ∃ k : Nat, k ≤ N ∧ i = .int .i64 k ∧ OwnIts w.heap.size wr out (LeafM.rowOf k) ∧ Grows w wr) (fun _ i _ => N - (intOf i).toNat)
    case atStart => exact ⟨0, Nat.zero_le _, rfl, OwnIts.nil _ _, G1.out⟩
    case round =>
      obtain ⟨k, hk, rfl, ho, hb⟩ := hrel
      have HO := Lib.hid ho; have HB := Lib.hid hb
      obtain ⟨Ak, nk, ck, rfl⟩ := own_slice ho
      clear ho hb
      by_cases hltk : k < N
      · have hltk' : (k : Int) < N := by omega
        have w8 : IntKind.u8.wrap ((k : Int) + 1) = (k : Int) + 1 := IntWalk.u8_in _ (by omega)
        have M1 := Lib.hid (Mine.lit (base := w.heap.size) wr #[.int .u8 ((k : Int) + 1)] [BitVec.ofNat 8 (k + 1)] HB.out.size (by show 1 ≤ 1000000; decide) (by rw [List.map_cons, List.map_nil]; unfold byteV; rw [key_byte (by omega)]))
        have GA := Lib.hid (Grows.alloc wr (.cells #[.int .u8 ((k : Int) + 1)] 5))
        go_wp2_with (first
          | ((with_reducible refine wpList_buildG (o := ⟨some 84, _, _, _, _, _⟩) ?_ 45 #[(0, .tmp 83)] (rawA { noR with ka := some ⟨wr.heap.size, 0, none⟩, kn := 1, kc := 1 }) ?_ ?_ ?_); exact rfl; exact rfl; exact HB1.out _ _ _)
          | ((with_reducible refine wpList_slice_it (o := ⟨some 85, _, _, _, _, _⟩) ?_ (.tmp 84) ?_ { noR with ka := some ⟨wr.heap.size, 0, none⟩, kn := 1, kc := 1 } ?_ ?_); exact rfl; exact rfl; exact rfl)
          | ((with_reducible refine wpList_append_its (o := ⟨some 86, _, _, _, _, _⟩) ?_ (.tmp 79) (.tmp 85) ?_ w.heap.size ((World.heap (wr.alloc (.cells #[.int .u8 ((k : Int) + 1)] 5))).size + 1) (LeafM.rowOf k) { noR with ka := some ⟨wr.heap.size, 0, none⟩, kn := 1, kc := 1 } (LeafM.plain [BitVec.ofNat 8 (k + 1)] []) ?_ ?_ ?_ ?_ ?_ ?_); exact rfl; exact rfl; exact (HO.out.grows GA.out).grows (Grows.alloc _ _); exact raw_one _ _; exact ⟨M1.out.grows (Grows.alloc _ _), Mine.nil _ _, rfl, rfl⟩; (rw [HRL.out]; omega); exact Nat.le_trans HB.out.size (GA.out.trans (Grows.alloc _ _)).size; intro v6 w6 h6 g6; rw [← HRS.out] at h6; have O6 := Lib.hid h6; have G6 := Lib.hid (show Grows w w6 from Below.grown (HB.out.trans (GA.out.trans (Grows.alloc _ _))) g6 (HB.out.trans (GA.out.trans (Grows.alloc _ _))).size HO.out.low); clear h6 g6))
        go_roundw
        case rel => exact ⟨k + 1, by omega, by go_num, O6.out, G6.out⟩
        case measure => simp [intOf]; omega
      · obtain rfl : k = N := by omega
        have hltk' : ¬ (k : Int) < k := by omega
        have LT := Lib.hid (letter wr 107#8 1 2)
        have GL := Lib.hid (HB.out.trans (Grows.alloc wr (.cells #[.int .u8 107] 5 (1, 2))))
        have OL := Lib.hid (HO.out.grows (Grows.alloc wr (.cells #[.int .u8 107] 5 (1, 2))))
        have hIL : decide (((k : Nat) : Int) ≤ 6) = decide (k ≤ 6) := by rw [Bool.eq_iff_iff]; simp only [decide_eq_true_eq]; omega
        generalize decide (k ≤ 6) = tk at *
        go_wp2_with (first
          | ((with_reducible refine wpList_buildG (o := ⟨some 89, _, _, _, _, _⟩) ?_ 45 #[(0, .tmp 88), (3, .const (.int .u16 3))] (rawA { noR with ka := some ⟨wr.heap.size, 0, none⟩, kn := 1, kc := 1, size := 3#16 }) ?_ ?_ ?_); exact rfl; exact rfl; exact HB3.out _ _ _)
          | ((with_reducible refine wpList_store_it ?_ (.tmp 12) (.tmp 89) ?_ (wr.heap.size + 1) { noR with ka := some ⟨wr.heap.size, 0, none⟩, kn := 1, kc := 1, size := 3#16 } #[.slice none 0 0, .slice none 0 0, .int .u8 0, .int .u16 0, .int .u16 0, .int .u32 0, .int .u64 0, .int .u16 0] ?_ ?_ ?_ ?_ ?_); exact rfl; exact rfl; exact rfl; exact rfl; exact rfl; (have h := Row.new (wr.alloc (.cells #[.int .u8 107] 5 (1, 2))) 45 #[.slice none 0 0, .slice none 0 0, .int .u8 0, .int .u16 0, .int .u16 0, .int .u32 0, .int .u64 0, .int .u16 0]; rwa [World.size_alloc] at h); intro w3 hp hg; have g := grown_fresh (W := wr.alloc (.cells #[.int .u8 107] 5 (1, 2))) (W' := w3) rfl (by rw [World.size_alloc]; exact hg); have P3 := Lib.hid hp; have G3 := Lib.hid (GL.out.trans g); have O3 := Lib.hid (OL.out.grows g); have L3 := Lib.hid ((LT.out.below g).more g.size); clear hp hg g)
          | (go_at_call 15; (with_reducible refine (CRow.out _ w3 O3.out.its).mono ?_); rintro e w4 ⟨rfl, g⟩; have P4 := Lib.hid (Row.grows P3.out g); have G4 := Lib.hid (G3.out.trans g); have O4 := Lib.hid (O3.out.grows g); have L4 := Lib.hid ((L3.out.below g).more g.size); clear g)
          | ((with_reducible refine wpList_loadG_it (o := ⟨some 96, _, _, _, _, _⟩) ?_ (.tmp 12) ?_ (wr.heap.size + 1) { noR with ka := some ⟨wr.heap.size, 0, none⟩, kn := 1, kc := 1, size := 3#16 } ?_ ?_ ?_); exact rfl; exact rfl; exact rfl; exact P4.out)
          | ((with_reducible refine wpList_sliceG_it (o := ⟨some 97, _, _, _, _, _⟩) ?_ (.tmp 96) ?_ { noR with ka := some ⟨wr.heap.size, 0, none⟩, kn := 1, kc := 1, size := 3#16 } ?_ ?_); exact rfl; exact rfl; exact rfl)
          | (go_at_call 15; (with_reducible refine (CBad.out w4 wr.heap.size L4.out).mono ?_); rintro e w5 ⟨rfl, g⟩; have g' := (Grows.alloc w4 (.cells (rawA { noR with ka := some ⟨wr.heap.size, 0, none⟩, kn := 1, kc := 1, size := 3#16 }) 45)).trans g; have G5 := Lib.hid (G4.out.trans g'); have O5 := Lib.hid (O4.out.grows g'); clear g g')
          | (go_at_call 15; (with_reducible refine (CNil.out w5).mono ?_); rintro e w6 ⟨rfl, g⟩; have G6 := Lib.hid (G5.out.trans g); have O6 := Lib.hid (O5.out.grows g); clear g)
          | (go_at_call 17; (with_reducible refine (CSame.out _ w6 O6.out.its).mono ?_); rintro e w7 ⟨rfl, g⟩; have G7 := Lib.hid (G6.out.trans g); clear g)
          | (go_at_call 9; (with_reducible refine (CWakes.out w7 G7.out).mono ?_); rintro e w8 ⟨rfl, g⟩; have G8 := Lib.hid (G7.out.trans g); clear g))
        go_ret
        exact ⟨rfl, G8.out⟩
  have d4 : (lv.length : Int) ≤ 16 := by omega
  rw [decide_eq_true c4, Bool.true_and] at HRP
  subst HRP
  cases RP
  · go_enter Tryd.func6, Tryd.ntmps6
    go_wp2_with (first
      | ((with_reducible refine wpList_buildG (o := ⟨some 60, _, _, _, _, _⟩) ?_ 45 #[(0, .tmp 58), (1, .tmp 59)] (rawA { noR with ka := A, kn := la.length, kc := cap, va := A3, vn := lv.length, vc := cap3 }) ?_ ?_ ?_); exact rfl; exact rfl; exact HB2.out _ _ _ _ _ _)
      | ((with_reducible refine wpList_buildG (o := ⟨some 62, _, _, _, _, _⟩) ?_ 45 #[(0, .tmp 61)] (rawA { noR with ka := A', kn := lb.length, kc := cap' }) ?_ ?_ ?_); exact rfl; exact rfl; exact HB1.out _ _ _)
      | ((with_reducible refine wpList_slice_it2 (o := ⟨some 63, _, _, _, _, _⟩) ?_ (.tmp 60) (.tmp 62) ?_ { noR with ka := A, kn := la.length, kc := cap, va := A3, vn := lv.length, vc := cap3 } { noR with ka := A', kn := lb.length, kc := cap' } ?_ ?_ ?_); exact rfl; exact rfl; exact rfl; exact rfl)
      | (go_at_call 15; (with_reducible refine (CPair.out w G0.out).mono ?_); rintro e w1 ⟨rfl, g⟩; have G1 := Lib.hid ((Grows.alloc w (.cells (rawA { noR with ka := A, kn := la.length, kc := cap, va := A3, vn := lv.length, vc := cap3 } ++ rawA { noR with ka := A', kn := lb.length, kc := cap' }) 45)).trans g); have s1 := es1.out w1 G1.out; have s2 := es2.out w1 G1.out; clear g))
    clear s1 s2
    go_loopw [10, 11] (fun out i wr => ∃ k : Nat, k ≤ N ∧ i = .int .i64 k ∧ OwnIts w.heap.size wr out (LeafM.rowOf k) ∧ Grows w wr) (fun _ i _ => N - (intOf i).toNat)
    case atStart => exact ⟨0, Nat.zero_le _, rfl, OwnIts.nil _ _, G1.out⟩
    case round =>
      obtain ⟨k, hk, rfl, ho, hb⟩ := hrel
      have HO := Lib.hid ho; have HB := Lib.hid hb
      obtain ⟨Ak, nk, ck, rfl⟩ := own_slice ho
      clear ho hb
      by_cases hltk : k < N
      · have hltk' : (k : Int) < N := by omega
        have w8 : IntKind.u8.wrap ((k : Int) + 1) = (k : Int) + 1 := IntWalk.u8_in _ (by omega)
        have M1 := Lib.hid (Mine.lit (base := w.heap.size) wr #[.int .u8 ((k : Int) + 1)] [BitVec.ofNat 8 (k + 1)] HB.out.size (by show 1 ≤ 1000000; decide) (by rw [List.map_cons, List.map_nil]; unfold byteV; rw [key_byte (by omega)]))
        have GA := Lib.hid (Grows.alloc wr (.cells #[.int .u8 ((k : Int) + 1)] 5))
        go_wp2_with (first
          | ((with_reducible refine wpList_buildG (o := ⟨some 84, _, _, _, _, _⟩) ?_ 45 #[(0, .tmp 83)] (rawA { noR with ka := some ⟨wr.heap.size, 0, none⟩, kn := 1, kc := 1 }) ?_ ?_ ?_); exact rfl; exact rfl; exact HB1.out _ _ _)
          | ((with_reducible refine wpList_slice_it (o := ⟨some 85, _, _, _, _, _⟩) ?_ (.tmp 84) ?_ { noR with ka := some ⟨wr.heap.size, 0, none⟩, kn := 1, kc := 1 } ?_ ?_); exact rfl; exact rfl; exact rfl)
          | ((with_reducible refine wpList_append_its (o := ⟨some 86, _, _, _, _, _⟩) ?_ (.tmp 79) (.tmp 85) ?_ w.heap.size ((World.heap (wr.alloc (.cells #[.int .u8 ((k : Int) + 1)] 5))).size + 1) (LeafM.rowOf k) { noR with ka := some ⟨wr.heap.size, 0, none⟩, kn := 1, kc := 1 } (LeafM.plain [BitVec.ofNat 8 (k + 1)] []) ?_ ?_ ?_ ?_ ?_ ?_); exact rfl; exact rfl; exact (HO.out.grows GA.out).grows (Grows.alloc _ _); exact raw_one _ _; exact ⟨M1.out.grows (Grows.alloc _ _), Mine.nil _ _, rfl, rfl⟩; (rw [HRL.out]; omega); exact Nat.le_trans HB.out.size (GA.out.trans (Grows.alloc _ _)).size; intro v6 w6 h6 g6; rw [← HRS.out] at h6; have O6 := Lib.hid h6; have G6 := Lib.hid (show Grows w w6 from Below.grown (HB.out.trans (GA.out.trans (Grows.alloc _ _))) g6 (HB.out.trans (GA.out.trans (Grows.alloc _ _))).size HO.out.low); clear h6 g6))
        go_roundw
        case rel => exact ⟨k + 1, by omega, by go_num, O6.out, G6.out⟩
        case measure => simp [intOf]; omega
      · obtain rfl : k = N := by omega
        have hltk' : ¬ (k : Int) < k := by omega
        have LT := Lib.hid (letter wr 107#8 1 2)
        have GL := Lib.hid (HB.out.trans (Grows.alloc wr (.cells #[.int .u8 107] 5 (1, 2))))
        have OL := Lib.hid (HO.out.grows (Grows.alloc wr (.cells #[.int .u8 107] 5 (1, 2))))
        have hIL : decide (((k : Nat) : Int) ≤ 6) = decide (k ≤ 6) := by rw [Bool.eq_iff_iff]; simp only [decide_eq_true_eq]; omega
        generalize decide (k ≤ 6) = tk at *
        go_wp2_with (first
          | ((with_reducible refine wpList_buildG (o := ⟨some 89, _, _, _, _, _⟩) ?_ 45 #[(0, .tmp 88), (3, .const (.int .u16 3))] (rawA { noR with ka := some ⟨wr.heap.size, 0, none⟩, kn := 1, kc := 1, size := 3#16 }) ?_ ?_ ?_); exact rfl; exact rfl; exact HB3.out _ _ _)
          | ((with_reducible refine wpList_store_it ?_ (.tmp 12) (.tmp 89) ?_ (wr.heap.size + 1) { noR with ka := some ⟨wr.heap.size, 0, none⟩, kn := 1, kc := 1, size := 3#16 } #[.slice none 0 0, .slice none 0 0, .int .u8 0, .int .u16 0, .int .u16 0, .int .u32 0, .int .u64 0, .int .u16 0] ?_ ?_ ?_ ?_ ?_); exact rfl; exact rfl; exact rfl; exact rfl; exact rfl; (have h := Row.new (wr.alloc (.cells #[.int .u8 107] 5 (1, 2))) 45 #[.slice none 0 0, .slice none 0 0, .int .u8 0, .int .u16 0, .int .u16 0, .int .u32 0, .int .u64 0, .int .u16 0]; rwa [World.size_alloc] at h); intro w3 hp hg; have g := grown_fresh (W := wr.alloc (.cells #[.int .u8 107] 5 (1, 2))) (W' := w3) rfl (by rw [World.size_alloc]; exact hg); have P3 := Lib.hid hp; have G3 := Lib.hid (GL.out.trans g); have O3 := Lib.hid (OL.out.grows g); have L3 := Lib.hid ((LT.out.below g).more g.size); clear hp hg g)
          | (go_at_call 15; (with_reducible refine (CRow.out _ w3 O3.out.its).mono ?_); rintro e w4 ⟨rfl, g⟩; have P4 := Lib.hid (Row.grows P3.out g); have G4 := Lib.hid (G3.out.trans g); have O4 := Lib.hid (O3.out.grows g); have L4 := Lib.hid ((L3.out.below g).more g.size); clear g)
          | ((with_reducible refine wpList_loadG_it (o := ⟨some 96, _, _, _, _, _⟩) ?_ (.tmp 12) ?_ (wr.heap.size + 1) { noR with ka := some ⟨wr.heap.size, 0, none⟩, kn := 1, kc := 1, size := 3#16 } ?_ ?_ ?_); exact rfl; exact rfl; exact rfl; exact P4.out)
          | ((with_reducible refine wpList_sliceG_it (o := ⟨some 97, _, _, _, _, _⟩) ?_ (.tmp 96) ?_ { noR with ka := some ⟨wr.heap.size, 0, none⟩, kn := 1, kc := 1, size := 3#16 } ?_ ?_); exact rfl; exact rfl; exact rfl)
          | (go_at_call 15; (with_reducible refine (CBad.out w4 wr.heap.size L4.out).mono ?_); rintro e w5 ⟨rfl, g⟩; have g' := (Grows.alloc w4 (.cells (rawA { noR with ka := some ⟨wr.heap.size, 0, none⟩, kn := 1, kc := 1, size := 3#16 }) 45)).trans g; have G5 := Lib.hid (G4.out.trans g'); have O5 := Lib.hid (O4.out.grows g'); clear g g')
          | (go_at_call 15; (with_reducible refine (CNil.out w5).mono ?_); rintro e w6 ⟨rfl, g⟩; have G6 := Lib.hid (G5.out.trans g); have O6 := Lib.hid (O5.out.grows g); clear g)
          | (go_at_call 17; (with_reducible refine (CSame.out _ w6 O6.out.its).mono ?_); rintro e w7 ⟨rfl, g⟩; have G7 := Lib.hid (G6.out.trans g); clear g)
          | (go_at_call 9; (with_reducible refine (CWakes.out w7 G7.out).mono ?_); rintro e w8 ⟨rfl, g⟩; have G8 := Lib.hid (G7.out.trans g); clear g))
        go_ret
        exact ⟨rfl, G8.out⟩
  · go_enter Tryd.func6, Tryd.ntmps6
    go_wp2_with (first
      | ((with_reducible refine wpList_buildG (o := ⟨some 60, _, _, _, _, _⟩) ?_ 45 #[(0, .tmp 58), (1, .tmp 59)] (rawA { noR with ka := A, kn := la.length, kc := cap, va := A3, vn := lv.length, vc := cap3 }) ?_ ?_ ?_); exact rfl; exact rfl; exact HB2.out _ _ _ _ _ _)
      | ((with_reducible refine wpList_buildG (o := ⟨some 62, _, _, _, _, _⟩) ?_ 45 #[(0, .tmp 61)] (rawA { noR with ka := A', kn := lb.length, kc := cap' }) ?_ ?_ ?_); exact rfl; exact rfl; exact HB1.out _ _ _)
      | ((with_reducible refine wpList_slice_it2 (o := ⟨some 63, _, _, _, _, _⟩) ?_ (.tmp 60) (.tmp 62) ?_ { noR with ka := A, kn := la.length, kc := cap, va := A3, vn := lv.length, vc := cap3 } { noR with ka := A', kn := lb.length, kc := cap' } ?_ ?_ ?_); exact rfl; exact rfl; exact rfl; exact rfl)
      | (go_at_call 15; (with_reducible refine (CPair.out w G0.out).mono ?_); rintro e w1 ⟨rfl, g⟩; have G1 := Lib.hid ((Grows.alloc w (.cells (rawA { noR with ka := A, kn := la.length, kc := cap, va := A3, vn := lv.length, vc := cap3 } ++ rawA { noR with ka := A', kn := lb.length, kc := cap' }) 45)).trans g); have s1 := es1.out w1 G1.out; have s2 := es2.out w1 G1.out; clear g))
    clear s1 s2
    go_loopw [10, 11] (fun out i wr => ∃ k : Nat, k ≤ N ∧ i = .int .i64 k ∧ OwnIts w.heap.size wr out (LeafM.rowOf k) ∧ Grows w wr) (fun _ i _ => N - (intOf i).toNat)
    case atStart => exact ⟨0, Nat.zero_le _, rfl, OwnIts.nil _ _, G1.out⟩
    case round =>
      obtain ⟨k, hk, rfl, ho, hb⟩ := hrel
      have HO := Lib.hid ho; have HB := Lib.hid hb
      obtain ⟨Ak, nk, ck, rfl⟩ := own_slice ho
      clear ho hb
      by_cases hltk : k < N
      · have hltk' : (k : Int) < N := by omega
        have w8 : IntKind.u8.wrap ((k : Int) + 1) = (k : Int) + 1 := IntWalk.u8_in _ (by omega)
        have M1 := Lib.hid (Mine.lit (base := w.heap.size) wr #[.int .u8 ((k : Int) + 1)] [BitVec.ofNat 8 (k + 1)] HB.out.size (by show 1 ≤ 1000000; decide) (by rw [List.map_cons, List.map_nil]; unfold byteV; rw [key_byte (by omega)]))
        have GA := Lib.hid (Grows.alloc wr (.cells #[.int .u8 ((k : Int) + 1)] 5))
        go_wp2_with (first
          | ((with_reducible refine wpList_buildG (o := ⟨some 84, _, _, _, _, _⟩) ?_ 45 #[(0, .tmp 83)] (rawA { noR with ka := some ⟨wr.heap.size, 0, none⟩, kn := 1, kc := 1 }) ?_ ?_ ?_); exact rfl; exact rfl; exact HB1.out _ _ _)
          | ((with_reducible refine wpList_slice_it (o := ⟨some 85, _, _, _, _, _⟩) ?_ (.tmp 84) ?_ { noR with ka := some ⟨wr.heap.size, 0, none⟩, kn := 1, kc := 1 } ?_ ?_); exact rfl; exact rfl; exact rfl)
          | ((with_reducible refine wpList_append_its (o := ⟨some 86, _, _, _, _, _⟩) ?_ (.tmp 79) (.tmp 85) ?_ w.heap.size ((World.heap (wr.alloc (.cells #[.int .u8 ((k : Int) + 1)] 5))).size + 1) (LeafM.rowOf k) { noR with ka := some ⟨wr.heap.size, 0, none⟩, kn := 1, kc := 1 } (LeafM.plain [BitVec.ofNat 8 (k + 1)] []) ?_ ?_ ?_ ?_ ?_ ?_); exact rfl; exact rfl; exact (HO.out.grows GA.out).grows (Grows.alloc _ _); exact raw_one _ _; exact ⟨M1.out.grows (Grows.alloc _ _), Mine.nil _ _, rfl, rfl⟩; (rw [HRL.out]; omega); exact Nat.le_trans HB.out.size (GA.out.trans (Grows.alloc _ _)).size; intro v6 w6 h6 g6; rw [← HRS.out] at h6; have O6 := Lib.hid h6; have G6 := Lib.hid (show Grows w w6 from Below.grown (HB.out.trans (GA.out.trans (Grows.alloc _ _))) g6 (HB.out.trans (GA.out.trans (Grows.alloc _ _))).size HO.out.low); clear h6 g6))
        go_roundw
        case rel => exact ⟨k + 1, by omega, by go_num, O6.out, G6.out⟩
        case measure => simp [intOf]; omega
      · obtain rfl : k = N := by omega
        have hltk' : ¬ (k : Int) < k := by omega
        have LT := Lib.hid (letter wr 107#8 1 2)
        have GL := Lib.hid (HB.out.trans (Grows.alloc wr (.cells #[.int .u8 107] 5 (1, 2))))
        have OL := Lib.hid (HO.out.grows (Grows.alloc wr (.cells #[.int .u8 107] 5 (1, 2))))
        have hIL : decide (((k : Nat) : Int) ≤ 6) = decide (k ≤ 6) := by rw [Bool.eq_iff_iff]; simp only [decide_eq_true_eq]; omega
        generalize decide (k ≤ 6) = tk at *
        go_wp2_with (first
          | ((with_reducible refine wpList_buildG (o := ⟨some 89, _, _, _, _, _⟩) ?_ 45 #[(0, .tmp 88), (3, .const (.int .u16 3))] (rawA { noR with ka := some ⟨wr.heap.size, 0, none⟩, kn := 1, kc := 1, size := 3#16 }) ?_ ?_ ?_); exact rfl; exact rfl; exact HB3.out _ _ _)
          | ((with_reducible refine wpList_store_it ?_ (.tmp 12) (.tmp 89) ?_ (wr.heap.size + 1) { noR with ka := some ⟨wr.heap.size, 0, none⟩, kn := 1, kc := 1, size := 3#16 } #[.slice none 0 0, .slice none 0 0, .int .u8 0, .int .u16 0, .int .u16 0, .int .u32 0, .int .u64 0, .int .u16 0] ?_ ?_ ?_ ?_ ?_); exact rfl; exact rfl; exact rfl; exact rfl; exact rfl; (have h := Row.new (wr.alloc (.cells #[.int .u8 107] 5 (1, 2))) 45 #[.slice none 0 0, .slice none 0 0, .int .u8 0, .int .u16 0, .int .u16 0, .int .u32 0, .int .u64 0, .int .u16 0]; rwa [World.size_alloc] at h); intro w3 hp hg; have g := grown_fresh (W := wr.alloc (.cells #[.int .u8 107] 5 (1, 2))) (W' := w3) rfl (by rw [World.size_alloc]; exact hg); have P3 := Lib.hid hp; have G3 := Lib.hid (GL.out.trans g); have O3 := Lib.hid (OL.out.grows g); have L3 := Lib.hid ((LT.out.below g).more g.size); clear hp hg g)
          | (go_at_call 15; (with_reducible refine (CRow.out _ w3 O3.out.its).mono ?_); rintro e w4 ⟨rfl, g⟩; have P4 := Lib.hid (Row.grows P3.out g); have G4 := Lib.hid (G3.out.trans g); have O4 := Lib.hid (O3.out.grows g); have L4 := Lib.hid ((L3.out.below g).more g.size); clear g)
          | ((with_reducible refine wpList_loadG_it (o := ⟨some 96, _, _, _, _, _⟩) ?_ (.tmp 12) ?_ (wr.heap.size + 1) { noR with ka := some ⟨wr.heap.size, 0, none⟩, kn := 1, kc := 1, size := 3#16 } ?_ ?_ ?_); exact rfl; exact rfl; exact rfl; exact P4.out)
          | ((with_reducible refine wpList_sliceG_it (o := ⟨some 97, _, _, _, _, _⟩) ?_ (.tmp 96) ?_ { noR with ka := some ⟨wr.heap.size, 0, none⟩, kn := 1, kc := 1, size := 3#16 } ?_ ?_); exact rfl; exact rfl; exact rfl)
          | (go_at_call 15; (with_reducible refine (CBad.out w4 wr.heap.size L4.out).mono ?_); rintro e w5 ⟨rfl, g⟩; have g' := (Grows.alloc w4 (.cells (rawA { noR with ka := some ⟨wr.heap.size, 0, none⟩, kn := 1, kc := 1, size := 3#16 }) 45)).trans g; have G5 := Lib.hid (G4.out.trans g'); have O5 := Lib.hid (O4.out.grows g'); clear g g')
          | (go_at_call 15; (with_reducible refine (CNil.out w5).mono ?_); rintro e w6 ⟨rfl, g⟩; have G6 := Lib.hid (G5.out.trans g); have O6 := Lib.hid (O5.out.grows g); clear g)
          | (go_at_call 17; (with_reducible refine (CSame.out _ w6 O6.out.its).mono ?_); rintro e w7 ⟨rfl, g⟩; have G7 := Lib.hid (G6.out.trans g); clear g)
          | (go_at_call 9; (with_reducible refine (CWakes.out w7 G7.out).mono ?_); rintro e w8 ⟨rfl, g⟩; have G8 := Lib.hid (G7.out.trans g); clear g))
        go_ret
        exact ⟨rfl, G8.out⟩
end Go.Proofs.YthdncpkmhodokaaDoor
