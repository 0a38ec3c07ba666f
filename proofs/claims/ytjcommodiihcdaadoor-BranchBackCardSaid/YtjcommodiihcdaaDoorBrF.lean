/- BrWakesOf BrWakes -/
import Derived.Test.YtjcommodiihcdaaDoorBrDecR
import Derived.Test.YtjcommodiihcdaaDoorBrB
import Derived.Test.YtjcommodiihcdaaDoorBrD
import Derived.Test.YtjcommodiihcdaaDoorBrDecO
import Derived.Great.Walk
/- The statements' wakes of layer 7, by the contracts of what it calls. -/
namespace Go.Proofs.YtjcommodiihcdaaDoor
open Go.RowKit
set_option linter.unusedVariables false
set_option linter.unusedSimpArgs false
theorem builtSlice_two (r s : KRaw) : Tryd.prog.builtSlice 47 2 [(0, .agg (kdA r)), (1, .agg (kdA s))] = some (kdA r ++ kdA s) := by kernel_rfl
theorem wpList_slice_two {w : World} {ops : Array Oper} {rest : List Oper} {o : Oper} {a : Act} {Q : Exit → Act → World → Prop} (hgd : o.guard = none) (x y : Operand) (ho : o.op = .buildSlice 22 2 #[(0, x), (1, y)]) (r s : KRaw) (hx : a.eval x = .agg (kdA r)) (hy : a.eval y = .agg (kdA s))
    (h : wpList Tryd.prog ops Q rest (a.put o.dst (.slice (some ⟨w.heap.size, 0, none⟩) 2 2)) (w.alloc (.cells (kdA r ++ kdA s) 47))) : wpList Tryd.prog ops Q (o :: rest) a w :=
  Great.wpList_buildSliceTo hgd 22 47 2 _ ho w.heap.size rfl o.dst rfl Tryd.underlying22 (kdA r ++ kdA s) (by simp only [List.map_toArray, List.map_cons, List.map_nil, hx, hy]; exact builtSlice_two r s) h
theorem kds_two {W : World} {r s : KRaw} {x y : Kd} (h1 : KdIs W.heap.size W r x) (h2 : KdIs W.heap.size W s y) :
    Kds (W.heap.size + 1) (W.alloc (.cells (kdA r ++ kdA s) 47)) (.slice (some ⟨W.heap.size, 0, none⟩) 2 2) [x, y] ∧ Kds (W.heap.size + 1) (W.alloc (.cells (kdA r ++ kdA s) 47)) (.slice (some ⟨W.heap.size, 0, none⟩) 1 2) [x] := by
  have H1 := (h1.below (Grows.alloc W (.cells (kdA r ++ kdA s) 47))).more (Nat.le_succ _)
  have H2 := (h2.below (Grows.alloc W (.cells (kdA r ++ kdA s) 47))).more (Nat.le_succ _)
  refine ⟨⟨[r, s], ⟨fun y hy => rfl, _, 2, rfl, Nat.le_refl _, by decide, fun _ => ⟨W.heap.size, 0, rfl, Nat.lt_succ_self _, fun j u hu => ?_⟩⟩, rfl, fun j q z hq hz => ?_⟩, ⟨[r], ⟨fun y hy => rfl, _, 2, rfl, Nat.le_succ 1, by decide, fun _ => ⟨W.heap.size, 0, rfl, Nat.lt_succ_self _, fun j u hu => ?_⟩⟩, rfl, fun j q z hq hz => ?_⟩⟩
  · rw [Nat.zero_add, (Row.new W 47 (kdA r ++ kdA s)).cell]
    simpa [kdA, List.getElem?_append] using hu
  · rcases j with _ | _ | j
    · cases hq; cases hz; exact H1
    · cases hq; cases hz; exact H2
    · simp at hq
  · rw [Nat.zero_add, (Row.new W 47 (kdA r ++ kdA s)).cell]
    have hj : j < 6 := by have := (List.getElem?_eq_some_iff.1 hu).1; simpa [kdE] using this
    rw [Array.getElem?_append_left (show j < (kdA r).size by exact hj)]
    simpa [kdA] using hu
  · rcases j with _ | j
    · cases hq; cases hz; exact H1
    · simp at hq
set_option maxHeartbeats 8000000 in
set_option maxRecDepth 100000 in
theorem wakes7_of (w : World)
    (hD : ∀ p W, p.length = 256 → Grows w W → Calls Tryd.prog 12 #[.agg (pageA p)] W fun e w' => ∃ v, e = .returned (.tuple #[v, .int .i64 (BrM.decE p)]) ∧ OwnKds W.heap.size w' v (BrM.decL p) ∧ Grows W w')
    (hE : ∀ v l W, Grows w W → Kds W.heap.size W v l → Calls Tryd.prog 10 #[v] W fun e w' => e = .returned (.tuple #[.agg (pageA (BrM.encP l)), .int .i64 (BrM.encE l)]) ∧ Grows W w')
    (hR : ∀ v l W, Grows w W → Kds W.heap.size W v l → Calls Tryd.prog 15 #[v] W fun e w' => e = .returned (.bool (BrM.right l)) ∧ Grows W w')
    (hB : ∀ v l W, Grows w W → Kds W.heap.size W v l → Calls Tryd.prog 19 #[v] W fun e w' => e = .returned (.int .u32 (BrM.birth l)) ∧ Grows W w') :
    Calls Tryd.prog 9 #[] w fun e w' => e = .returned (.bool true) ∧ Grows w w' := by
  have hz := fun w => zero_page w
  have G0 := Lib.hid (Grows.refl w)
  have CK1 : Hid (∀ W, Calls Tryd.prog 22 #[.string ⟨#[]⟩, .int .u16 4, .int .u32 1] W fun e w' => (∃ r, e = .returned (.agg (kdA r)) ∧ KdIs w'.heap.size w' r (BrM.kidOf [] 4#16 5#16 1#32)) ∧ Grows W w') := fun W => kid7_any ⟨#[]⟩ [] 4#16 5#16 1#32 W rfl (by decide) (by decide)
  have CK2 : Hid (∀ W, Calls Tryd.prog 22 #[.string ⟨#[97]⟩, .int .u16 6, .int .u32 7] W fun e w' => (∃ r, e = .returned (.agg (kdA r)) ∧ KdIs w'.heap.size w' r (BrM.kidOf [97#8] 6#16 7#16 7#32)) ∧ Grows W w') := fun W => kid7_any ⟨#[97]⟩ [97#8] 6#16 7#16 7#32 W rfl (by decide) (by decide)
  have CE := Lib.hid (fun v W h k => hE v BrM.two W h k)
  have CD1 := Lib.hid (fun W h => hD (BrM.encP BrM.two) W (BrM.encP_len _) h)
  have CD2 := Lib.hid (fun W h => hD noughts W noughts_length h)
  have CR1 := Lib.hid (fun v W h k => hR v [BrM.kidOf [] 4#16 5#16 1#32] W h k)
  have CR2 := Lib.hid (fun v W h k => hR v BrM.two W h k)
  have CB := Lib.hid (fun v W h k => hB v BrM.two W h k)
  have CS := Lib.hid (fun u v W h k => same7_any u v BrM.two BrM.two W h k)
  simp only [decide_true] at CS
  rw [BrM.right_one] at CR1
  rw [BrM.right_two] at CR2
  rw [BrM.birth_two] at CB
  rw [BrM.dec_two.1, BrM.dec_two.2] at CD1
  rw [BrM.dec_noughts.1, BrM.dec_noughts.2] at CD2
  rw [(BrM.enc_right BrM.right_two).1] at CE
  have HF := Lib.hid BrM.two_first
  have HPL := Lib.hid (BrM.encP_len BrM.two)
  have HT : Hid (BrM.two = [BrM.kidOf [] 4#16 5#16 1#32, BrM.kidOf [97#8] 6#16 7#16 7#32]) := rfl
  generalize BrM.encP BrM.two = pg at *
  generalize BrM.two = tw at *
  clear hD hE hR hB
  go_enter Tryd.func9, Tryd.ntmps9
  go_wp2_with (first
    | (go_at_call 22; (with_reducible refine (CK1.out w).mono ?_); rintro e w1 ⟨⟨r1, rfl, k1⟩, g⟩; have K1 := Lib.hid k1; have G1 := Lib.hid (G0.out.trans g); clear g k1)
    | (go_at_call 22; (with_reducible refine (CK2.out w1).mono ?_); rintro e w2 ⟨⟨r2, rfl, k2⟩, g⟩; have K2 := Lib.hid k2; have K12 := Lib.hid (K1.out.grows g); have G2 := Lib.hid (G1.out.trans g); clear g k2)
    | ((with_reducible refine wpList_slice_two (o := ⟨some 10, _, _, _, _, _⟩) ?_ (.tmp 8) (.tmp 9) ?_ r1 r2 ?_ ?_ ?_); exact rfl; exact rfl; exact rfl; exact rfl; obtain ⟨t2, t1⟩ := kds_two K12.out K2.out; have G3 := Lib.hid (G2.out.trans (Grows.alloc w2 (.cells (kdA r1 ++ kdA r2) 47))); have T3 : Hid (Kds (w2.alloc (.cells (kdA r1 ++ kdA r2) 47)).heap.size (w2.alloc (.cells (kdA r1 ++ kdA r2) 47)) (.slice (some ⟨w2.heap.size, 0, none⟩) 2 2) tw) := (by rw [HT.out, World.size_alloc]; exact t2); have U3 : Hid (Kds (w2.alloc (.cells (kdA r1 ++ kdA r2) 47)).heap.size (w2.alloc (.cells (kdA r1 ++ kdA r2) 47)) (.slice (some ⟨w2.heap.size, 0, none⟩) 1 2) [BrM.kidOf [] 4#16 5#16 1#32]) := (by rw [World.size_alloc]; exact t1); clear t2 t1)
    | (go_at_call 10; (with_reducible refine (CE.out _ _ G3.out T3.out).mono ?_); rintro e w4 ⟨rfl, g⟩; have G4 := Lib.hid (G3.out.trans g); have T4 := Lib.hid (T3.out.grows g); have U4 := Lib.hid (U3.out.grows g); clear g)
    | ((with_reducible refine wpList_store_page ?_ (.tmp 2) (.tmp 14) ?_ w4.heap.size pg noughts ?_ ?_ ?_ ?_ ?_); exact rfl; exact rfl; exact rfl; exact rfl; exact HPL.out; exact PRow.new w4 noughts_length; intro w5 hp5 hg5; have g := grown_fresh (W := w4) (W' := w5) rfl hg5; have N5 := Lib.hid hp5; have G5 := Lib.hid (G4.out.trans g); have T5 := Lib.hid (T4.out.grows g); have U5 := Lib.hid (U4.out.grows g); clear hp5 hg5 g)
    | ((with_reducible refine wpList_load_page (o := ⟨some 17, _, _, _, _, _⟩) ?_ (.tmp 2) ?_ w4.heap.size pg ?_ ?_ ?_); exact rfl; exact rfl; exact rfl; exact N5.out)
    | (go_at_call 12; (with_reducible refine (CD1.out _ G5.out).mono ?_); rintro e w6 ⟨v6, rfl, ho, g⟩; have D6 := Lib.hid ho; obtain ⟨A6, c6, rfl, _, _⟩ := ho.form; have N6 := Lib.hid (N5.out.grows g); have G6 := Lib.hid (G5.out.trans g); have T6 := Lib.hid (T5.out.grows g); have U6 := Lib.hid (U5.out.grows g); clear ho g)
    | (go_at_call 12; (with_reducible refine (CD2.out _ G6.out).mono ?_); rintro e w7 ⟨v7, rfl, ho, g⟩; obtain ⟨A7, c7, rfl, _, _⟩ := ho.form; have D7 := Lib.hid (D6.out.grows g); have N7 := Lib.hid (N6.out.grows g); have G7 := Lib.hid (G6.out.trans g); have T7 := Lib.hid (T6.out.grows g); have U7 := Lib.hid (U6.out.grows g); clear ho g)
    | (go_at_call 15; (with_reducible refine (CR1.out _ _ G7.out U7.out).mono ?_); rintro e w8 ⟨rfl, g⟩; have D8 := Lib.hid (D7.out.grows g); have N8 := Lib.hid (N7.out.grows g); have G8 := Lib.hid (G7.out.trans g); have T8 := Lib.hid (T7.out.grows g); clear g)
    | (go_at_call 15; (with_reducible refine (CR2.out _ _ G8.out T8.out).mono ?_); rintro e w9 ⟨rfl, g⟩; have D9 := Lib.hid (D8.out.grows g); have N9 := Lib.hid (N8.out.grows g); have G9 := Lib.hid (G8.out.trans g); have T9 := Lib.hid (T8.out.grows g); have f0 := N9.out.cell 0 _ HF.out.1; have f1 := N9.out.cell 1 _ HF.out.2; clear g)
    | (go_at_call 14; (with_reducible refine (CS.out _ _ _ D9.out.kds T9.out).mono ?_); rintro e w10 ⟨rfl, g⟩; have G10 := Lib.hid (G9.out.trans g); have T10 := Lib.hid (T9.out.grows g); clear g)
    | (go_at_call 19; (with_reducible refine (CB.out _ _ G10.out T10.out).mono ?_); rintro e w11 ⟨rfl, g⟩; have G11 := Lib.hid (G10.out.trans g); clear g))
  go_ret
  exact ⟨rfl, G11.out⟩
end Go.Proofs.YtjcommodiihcdaaDoor
/- The statements' wakes of layer 7, with the own functions as they are. -/
namespace Go.Proofs.YtjcommodiihcdaaDoor
open Go.RowKit
theorem wakes7_any (w : World) (hG : Glob w) : Calls Tryd.prog 9 #[] w fun e w' => e = .returned (.bool true) ∧ Grows w w' :=
  wakes7_of w (fun p W hp hg => decode7_any p W hp (hG.grows hg)) (fun v l W hg h => encode7_any v l W h (hG.grows hg)) (fun v l W _ h => right7_any v l W h) (fun v l W _ h => birth7_any v l W h)
end Go.Proofs.YtjcommodiihcdaaDoor
