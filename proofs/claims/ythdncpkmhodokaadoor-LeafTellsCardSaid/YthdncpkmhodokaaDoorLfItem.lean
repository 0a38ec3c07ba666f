/- LfItem -/
import Derived.Test.YthdncpkmhodokaaDoorLfA
import Derived.Test.YthdncpkmhodokaaDoorLfC
import Derived.Test.YthdncpkmhodokaaDoorPackRef2
import Derived.Test.YthdncpkmhodokaaDoorPtTake
/- The document's item for layer 6: the item ahead in a row of bytes. -/
namespace Go.Proofs.YthdncpkmhodokaaDoor
open Go.RowKit
set_option linter.unusedVariables false
set_option linter.unusedSimpArgs false
def noR : Raw := ⟨none, 0, 0, none, 0, 0, PtM.none, 0#16⟩
theorem noR_arr : rawA noR = #[.slice none 0 0, .slice none 0 0, .int .u8 0, .int .u16 0, .int .u16 0, .int .u32 0, .int .u64 0, .int .u16 0] := rfl
theorem results_it_three {w : World} {g : Nat} {x : Raw} {fn : Func} {p q r : Tmp} (h : fn.results = #[.cell p 45, .tmp q, .tmp r]) (tmps : Array Value) (u v : Value) (hp : tmps.getD p undef = .pointer (some ⟨g, 0, none⟩)) (hq : tmps.getD q undef = u) (hv : tmps.getD r undef = v) (hr : Row w g 45 (rawA x)) :
    (results fn tmps).run Tryd.prog w = .ok (.tuple #[.agg (rawA x), u, v]) w := by
  have hp' : tmps[p]?.getD undef = .pointer (some ⟨g, 0, none⟩) := by simpa using hp
  have hq' : tmps[q]?.getD undef = u := by simpa using hq
  have hv' : tmps[r]?.getD undef = v := by simpa using hv
  simp [results, h, hp', hq', hv', asAddr, item_run_load (rawA_row hr)]
theorem tbR_len (b : List (BitVec 8)) (m : Int) : (PackM.tbR b m).length ≤ b.length := by
  unfold PackM.tbR; split
  · rw [List.length_drop]; omega
  · exact Nat.le_refl _
theorem takeR_len (b : List (BitVec 8)) (m : Int) : (PackM.takeR b m).length ≤ b.length := by
  unfold PackM.takeR; split
  · exact Nat.le_refl _
  · rw [List.length_drop]; omega
theorem item_no {b : List (BitVec 8)} (h : ¬ (PackM.tbE b 8 = 0 ∧ PackM.takeE (PackM.tbR b 8) 1 = 0 ∧ (PackM.takeN (PackM.tbR b 8) 1).toNat ≤ 1)) : LeafM.item b = none := by
  unfold LeafM.item; rw [if_neg h]
theorem cells_grown {g : Nat} : ∀ (vs : List Value) (o : Nat) (w : World), w.grownBy (w.setCells g o vs) (some g)
  | [], _, w => ⟨rfl, rfl, rfl, Nat.le_refl _, fun _ _ _ => rfl⟩
  | v :: vs, o, w => by
    have h1 := setCell_grown w g o v
    have h2 := cells_grown (g := g) vs (o + 1) (w.setCell ⟨g, o, none⟩ v)
    exact h1.trans h2
theorem pt_there {W : World} {g : Nat} {r : Raw} (h : Row W g 45 (rawA r)) : W.there g 2 5 := fun j hj => by
  refine ⟨?_, h.frozen _⟩
  rw [h.cell]
  have : 2 + j < (rawA r).size := by show 2 + j < 8; omega
  rw [Array.getElem?_eq_getElem this]
  rfl
theorem row_pt {W : World} {g : Nat} {r : Raw} {P : Pt} (h : Row W g 45 (rawA r)) : Row (W.setCells g 2 (ptE P)) g 45 (rawA { r with over := P }) :=
  ((((h.set 2 (.int .u8 (bI P.kind))).set 3 (.int .u16 (hI P.a))).set 4 (.int .u16 (hI P.b))).set 5 (.int .u32 (wI P.birth))).set 6 (.int .u64 (uI P.sum))
theorem wpList_store_ptAt {w : World} {ops : Array Oper} {rest : List Oper} {op : Oper} {a : Act} {Q : Exit → Act → World → Prop} (hgd : op.guard = none) (x y : Operand) (ho : op.op = .store 43 x y) (g : Nat) (P : Pt) (r : Raw) (hx : a.eval x = .pointer (some ⟨g, 2, none⟩)) (hy : a.eval y = .agg (ptA P)) (hr : Row w g 45 (rawA r))
    (h : ∀ w', Row w' g 45 (rawA { r with over := P }) → w.grownBy w' (some g) → wpList Tryd.prog ops Q rest (a.put op.dst undef) w') : wpList Tryd.prog ops Q (op :: rest) a w :=
  wpList_store_mid hgd 43 x y ho g 2 (ptA P) hx hy (pt_there hr) ptr_info (ptA_one P) (h _ (row_pt hr) (cells_grown _ _ _))
/-- What item tells. -/
def ItemTold (B base : Nat) (W : World) (b : List (BitVec 8)) (r : Raw) (rest : Value) (ok : Bool) : Prop :=
  ok = (LeafM.item b).isSome ∧ ∀ x q, LeafM.item b = some (x, q) → RawOwn base W r x ∧ Bytes B W rest q
def ItemPost (B : Nat) (w : World) (b : List (BitVec 8)) (e : Ending) (w' : World) : Prop := ∃ r rest ok, e = .returned (.tuple #[.agg (rawA r), rest, .bool ok]) ∧ ItemTold B w.heap.size w' b r rest ok ∧ Grows w w'
set_option maxRecDepth 20000 in
set_option maxHeartbeats 4000000 in
theorem ritemB_any {B : Nat} (v : Value) (b : List (BitVec 8)) (w : World) (hB : B ≤ w.heap.size) (hv : Bytes B w v b) (hl : b.length ≤ 900000) :
    Calls Tryd.prog 28 #[v] w fun e w' => ItemPost B w b e w' := by
  have HBb := Lib.hid hB
  have HV := Lib.hid hv
  obtain ⟨A, cap, rfl, _⟩ := hv
  simp only [List.length_map] at HV ⊢
  obtain ⟨Z, hZ⟩ : ∃ Z, Z = Obj.cells (rawA noR) 45 := ⟨_, rfl⟩
  have R2 : Hid (Row ((w.alloc (.cells (rawA noR) 45)).alloc (.cells (rawA noR) 45)) w.heap.size 45 (rawA noR)) := (Row.new w 45 (rawA noR)).alloc (.cells (rawA noR) 45)
  have R5 : Hid (Row ((w.alloc (.cells (rawA noR) 45)).alloc (.cells (rawA noR) 45)) (w.heap.size + 1) 45 (rawA noR)) := by
    have := Row.new (w.alloc (.cells (rawA noR) 45)) 45 (rawA noR)
    rwa [World.size_alloc] at this
  have HG : Hid (Grows w ((w.alloc (.cells (rawA noR) 45)).alloc (.cells (rawA noR) 45))) := (Grows.alloc w (.cells (rawA noR) 45)).trans (Grows.alloc _ (.cells (rawA noR) 45))
  rw [noR_arr] at R2 R5 HG
  have HT1 := Lib.hid (rtakeBytesB_any (.slice A b.length cap) b 8 ((w.alloc (.cells #[.slice none 0 0, .slice none 0 0, .int .u8 0, .int .u16 0, .int .u16 0, .int .u32 0, .int .u64 0, .int .u16 0] 45)).alloc (.cells #[.slice none 0 0, .slice none 0 0, .int .u8 0, .int .u16 0, .int .u16 0, .int .u32 0, .int .u64 0, .int .u16 0] 45)) (Nat.le_trans HBb.out HG.out.size) (HV.out.below (Below.mono HG.out HBb.out)) hl (by decide) (by decide))
  have HT2 := Lib.hid (fun W s (h1 : B ≤ (World.heap W).size) (h2 : Bytes B W s (PackM.tbR b 8)) => rtakeB_any s (PackM.tbR b 8) 1 W h1 h2 (Nat.le_trans (tbR_len b 8) hl) (by decide) (by decide))
  have HT3 := Lib.hid (fun W s (h1 : B ≤ (World.heap W).size) (h2 : Bytes B W s (PackM.takeR (PackM.tbR b 8) 1)) => rtakeBytesB_any s (PackM.takeR (PackM.tbR b 8) 1) 16 W h1 h2 (Nat.le_trans (takeR_len _ 1) (Nat.le_trans (tbR_len b 8) hl)) (by decide) (by decide))
  have HT4 := Lib.hid (fun W s (h1 : B ≤ (World.heap W).size) (h2 : Bytes B W s (PackM.takeR (PackM.tbR b 8) 1)) => rtakeB_any s (PackM.takeR (PackM.tbR b 8) 1) 2 W h1 h2 (Nat.le_trans (takeR_len _ 1) (Nat.le_trans (tbR_len b 8) hl)) (by decide) (by decide))
  have HT5 := Lib.hid (fun W s (h1 : B ≤ (World.heap W).size) (h2 : Bytes B W s (PackM.takeR (PackM.takeR (PackM.tbR b 8) 1) 2)) => rpttakeB_any s (PackM.takeR (PackM.takeR (PackM.tbR b 8) 1) 2) W h1 h2 (Nat.le_trans (takeR_len _ 2) (Nat.le_trans (takeR_len _ 1) (Nat.le_trans (tbR_len b 8) hl))))
  have HI := Lib.hid (LeafM.item.eq_1 b)
  generalize PackM.tbE b 8 = E0 at *
  generalize PackM.tbS b 8 = S0 at *
  generalize PackM.tbR b 8 = R0 at *
  generalize PackM.takeE R0 1 = E1 at *
  generalize PackM.takeN R0 1 = N1 at *
  generalize PackM.takeR R0 1 = R1 at *
  have hNn := uI_nonneg N1
  have hNu : uI N1 = (N1.toNat : Int) := rfl
  by_cases h0 : E0 = 0
  case neg =>
    have HN : Hid (LeafM.item b = none) := HI.out.trans (if_neg (fun h => h0 h.1))
    clear HT3 HT4 HT5 HI
    go_enter Tryd.func28, Tryd.ntmps28
    go_wp2_with (first
      | (go_at_call 45; (with_reducible refine HT1.out.mono ?_); rintro e w1 ⟨s0, r0, rfl, hs, hr, hg⟩; have S1 := Lib.hid (hs.more HG.out.size); have Q1 := Lib.hid hr; have P2_1 := Lib.hid (Row.grows R2.out hg); have P5_1 := Lib.hid (Row.grows R5.out hg); have G1 := Lib.hid (show Grows w w1 from HG.out.trans hg); obtain ⟨As, cs, rfl, _, _⟩ := hs.form; obtain ⟨Ar, cr, rfl, _⟩ := hr; simp only [List.length_map] at Q1 ⊢; have HT2' := Lib.hid (HT2.out _ _ (Nat.le_trans HBb.out G1.out.size) Q1.out); clear hs hg)
      | (go_at_call 46; (with_reducible refine HT2'.out.mono ?_); rintro e w2 ⟨r1, rfl, hr, hg⟩; have S2 := Lib.hid (S1.out.grows hg); have Q2 := Lib.hid hr; have P2_2 := Lib.hid (Row.grows P2_1.out hg); have P5_2 := Lib.hid (Row.grows P5_1.out hg); have G2 := Lib.hid (show Grows w w2 from G1.out.trans hg); obtain ⟨Ar1, cr1, rfl, _⟩ := hr; simp only [List.length_map] at Q2 ⊢; have k2 := P5_2.out.cell 0; have f2 := P5_2.out.frozen 0; clear hg)
      | ((with_reducible refine wpList_load_itAt (op := ⟨some 37, _, _, _, _, _⟩) ?_ (.tmp 5) ?_ (w.heap.size + 1) 0 noR ?_ ?_ ?_); exact rfl; exact rfl; exact rfl; exact rawA_row P5_2.out)
      | ((with_reducible refine wpList_store_it ?_ (.tmp 2) (.tmp 37) ?_ w.heap.size noR #[.slice none 0 0, .slice none 0 0, .int .u8 0, .int .u16 0, .int .u16 0, .int .u32 0, .int .u64 0, .int .u16 0] ?_ ?_ ?_ ?_ ?_); exact rfl; exact rfl; exact rfl; exact rfl; exact rfl; exact P2_2.out; intro w6 hw6 hg6))
    refine bodyPost_ret (results_it_three (p := 2) (q := 3) (r := 4) (by exact rfl) _ _ _ (by exact rfl) (by exact rfl) (by exact rfl) hw6) rfl ?_
    exact ⟨_, _, _, rfl, ⟨by rw [HN.out]; rfl, fun x q h => by rw [HN.out] at h; cases h⟩, Below.grown G2.out hg6 G2.out.size (fun k e => by cases e; exact Nat.le_refl _)⟩
  by_cases h1 : E1 = 0
  case neg =>
    have HN : Hid (LeafM.item b = none) := HI.out.trans (if_neg (fun h => h1 h.2.1))
    clear HT3 HT4 HT5 HI
    go_enter Tryd.func28, Tryd.ntmps28
    go_wp2_with (first
      | (go_at_call 45; (with_reducible refine HT1.out.mono ?_); rintro e w1 ⟨s0, r0, rfl, hs, hr, hg⟩; have S1 := Lib.hid (hs.more HG.out.size); have Q1 := Lib.hid hr; have P2_1 := Lib.hid (Row.grows R2.out hg); have P5_1 := Lib.hid (Row.grows R5.out hg); have G1 := Lib.hid (show Grows w w1 from HG.out.trans hg); obtain ⟨As, cs, rfl, _, _⟩ := hs.form; obtain ⟨Ar, cr, rfl, _⟩ := hr; simp only [List.length_map] at Q1 ⊢; have HT2' := Lib.hid (HT2.out _ _ (Nat.le_trans HBb.out G1.out.size) Q1.out); clear hs hg)
      | (go_at_call 46; (with_reducible refine HT2'.out.mono ?_); rintro e w2 ⟨r1, rfl, hr, hg⟩; have S2 := Lib.hid (S1.out.grows hg); have Q2 := Lib.hid hr; have P2_2 := Lib.hid (Row.grows P2_1.out hg); have P5_2 := Lib.hid (Row.grows P5_1.out hg); have G2 := Lib.hid (show Grows w w2 from G1.out.trans hg); obtain ⟨Ar1, cr1, rfl, _⟩ := hr; simp only [List.length_map] at Q2 ⊢; have k2 := P5_2.out.cell 0; have f2 := P5_2.out.frozen 0; clear hg)
      | ((with_reducible refine wpList_load_itAt (op := ⟨some 37, _, _, _, _, _⟩) ?_ (.tmp 5) ?_ (w.heap.size + 1) 0 noR ?_ ?_ ?_); exact rfl; exact rfl; exact rfl; exact rawA_row P5_2.out)
      | ((with_reducible refine wpList_store_it ?_ (.tmp 2) (.tmp 37) ?_ w.heap.size noR #[.slice none 0 0, .slice none 0 0, .int .u8 0, .int .u16 0, .int .u16 0, .int .u32 0, .int .u64 0, .int .u16 0] ?_ ?_ ?_ ?_ ?_); exact rfl; exact rfl; exact rfl; exact rfl; exact rfl; exact P2_2.out; intro w6 hw6 hg6))
    refine bodyPost_ret (results_it_three (p := 2) (q := 3) (r := 4) (by exact rfl) _ _ _ (by exact rfl) (by exact rfl) (by exact rfl) hw6) rfl ?_
    exact ⟨_, _, _, rfl, ⟨by rw [HN.out]; rfl, fun x q h => by rw [HN.out] at h; cases h⟩, Below.grown G2.out hg6 G2.out.size (fun k e => by cases e; exact Nat.le_refl _)⟩
  by_cases h2 : N1.toNat ≤ 1
  case neg =>
    have HN : Hid (LeafM.item b = none) := HI.out.trans (if_neg (fun h => h2 h.2.2))
    have h2' : (1 : Int) < uI N1 := by omega
    clear HT3 HT4 HT5 HI
    go_enter Tryd.func28, Tryd.ntmps28
    go_wp2_with (first
      | (go_at_call 45; (with_reducible refine HT1.out.mono ?_); rintro e w1 ⟨s0, r0, rfl, hs, hr, hg⟩; have S1 := Lib.hid (hs.more HG.out.size); have Q1 := Lib.hid hr; have P2_1 := Lib.hid (Row.grows R2.out hg); have P5_1 := Lib.hid (Row.grows R5.out hg); have G1 := Lib.hid (show Grows w w1 from HG.out.trans hg); obtain ⟨As, cs, rfl, _, _⟩ := hs.form; obtain ⟨Ar, cr, rfl, _⟩ := hr; simp only [List.length_map] at Q1 ⊢; have HT2' := Lib.hid (HT2.out _ _ (Nat.le_trans HBb.out G1.out.size) Q1.out); clear hs hg)
      | (go_at_call 46; (with_reducible refine HT2'.out.mono ?_); rintro e w2 ⟨r1, rfl, hr, hg⟩; have S2 := Lib.hid (S1.out.grows hg); have Q2 := Lib.hid hr; have P2_2 := Lib.hid (Row.grows P2_1.out hg); have P5_2 := Lib.hid (Row.grows P5_1.out hg); have G2 := Lib.hid (show Grows w w2 from G1.out.trans hg); obtain ⟨Ar1, cr1, rfl, _⟩ := hr; simp only [List.length_map] at Q2 ⊢; have k2 := P5_2.out.cell 0; have f2 := P5_2.out.frozen 0; clear hg)
      | ((with_reducible refine wpList_load_itAt (op := ⟨some 37, _, _, _, _, _⟩) ?_ (.tmp 5) ?_ (w.heap.size + 1) 0 noR ?_ ?_ ?_); exact rfl; exact rfl; exact rfl; exact rawA_row P5_2.out)
      | ((with_reducible refine wpList_store_it ?_ (.tmp 2) (.tmp 37) ?_ w.heap.size noR #[.slice none 0 0, .slice none 0 0, .int .u8 0, .int .u16 0, .int .u16 0, .int .u32 0, .int .u64 0, .int .u16 0] ?_ ?_ ?_ ?_ ?_); exact rfl; exact rfl; exact rfl; exact rfl; exact rfl; exact P2_2.out; intro w6 hw6 hg6))
    refine bodyPost_ret (results_it_three (p := 2) (q := 3) (r := 4) (by exact rfl) _ _ _ (by exact rfl) (by exact rfl) (by exact rfl) hw6) rfl ?_
    exact ⟨_, _, _, rfl, ⟨by rw [HN.out]; rfl, fun x q h => by rw [HN.out] at h; cases h⟩, Below.grown G2.out hg6 G2.out.size (fun k e => by cases e; exact Nat.le_refl _)⟩
  have h2' : ¬ (1 : Int) < uI N1 := by omega
  have HI := Lib.hid (HI.out.trans (if_pos ⟨h0, h1, h2⟩))
  by_cases h3 : N1 = 0#64
  · have h3' : uI N1 = 0 := by rw [h3]; rfl
    have HI := Lib.hid (HI.out.trans (if_pos h3))
    generalize PackM.tbE R1 16 = E2 at *
    generalize PackM.tbS R1 16 = SW at *
    generalize PackM.tbR R1 16 = R2v at *
    clear HT4 HT5
    by_cases h4 : E2 = 0
    · have HN : Hid (LeafM.item b = some (⟨S0, SW, PtM.none, 0#16⟩, R2v)) := HI.out.trans (if_pos h4)
      go_enter Tryd.func28, Tryd.ntmps28
      go_wp2_with (first
        | (go_at_call 45; (with_reducible refine HT1.out.mono ?_); rintro e w1 ⟨s0, r0, rfl, hs, hr, hg⟩; have S1 := Lib.hid (hs.more HG.out.size); have Q1 := Lib.hid hr; have P2_1 := Lib.hid (Row.grows R2.out hg); have P5_1 := Lib.hid (Row.grows R5.out hg); have G1 := Lib.hid (show Grows w w1 from HG.out.trans hg); obtain ⟨As, cs, rfl, _, _⟩ := hs.form; obtain ⟨Ar, cr, rfl, _⟩ := hr; simp only [List.length_map] at Q1 ⊢; have HT2' := Lib.hid (HT2.out _ _ (Nat.le_trans HBb.out G1.out.size) Q1.out); clear hs hg)
        | (go_at_call 46; (with_reducible refine HT2'.out.mono ?_); rintro e w2 ⟨r1, rfl, hr, hg⟩; have S2 := Lib.hid (S1.out.grows hg); have Q2 := Lib.hid hr; have P2_2 := Lib.hid (Row.grows P2_1.out hg); have P5_2 := Lib.hid (Row.grows P5_1.out hg); have G2 := Lib.hid (show Grows w w2 from G1.out.trans hg); obtain ⟨Ar1, cr1, rfl, _⟩ := hr; simp only [List.length_map] at Q2 ⊢; have k2 := P5_2.out.cell 0; have f2 := P5_2.out.frozen 0; have P5_3 : Hid (Row (w2.setCell ⟨w.heap.size + 1, 0, none⟩ (.slice As S0.length cs)) (w.heap.size + 1) 45 (rawA { noR with ka := As, kn := S0.length, kc := cs })) := (P5_2.out.set 0 (.slice As S0.length cs)); have P2_3 := Lib.hid (P2_2.out.far (p := ⟨w.heap.size + 1, 0, none⟩) (by simp) (.slice As S0.length cs)); have S3 := Lib.hid (S2.out.apart (setCell_grown _ _ 0 (.slice As S0.length cs)) P5_2.out (by decide)); have Q3 := Lib.hid (Q2.out.below (Below.setCell (Below.refl _ _) (p := ⟨w.heap.size + 1, 0, none⟩) (by have := HBb.out; show B ≤ w.heap.size + 1; omega) (.slice As S0.length cs))); have G3 := Lib.hid (show Grows w (w2.setCell ⟨w.heap.size + 1, 0, none⟩ (.slice As S0.length cs)) from Below.setCell G2.out (p := ⟨w.heap.size + 1, 0, none⟩) (by simp) (.slice As S0.length cs)); have HT3' := Lib.hid (HT3.out _ _ (Nat.le_trans HBb.out G3.out.size) Q3.out); clear hg)
        | (go_at_call 45; (with_reducible refine HT3'.out.mono ?_); rintro e w4 ⟨s1, r2, rfl, hs, hr, hg⟩; have S4 := Lib.hid (S3.out.grows hg); have V4 := Lib.hid (hs.more G3.out.size); have Q4 := Lib.hid hr; have P2_4 := Lib.hid (Row.grows P2_3.out hg); have P5_4 := Lib.hid (Row.grows P5_3.out hg); have G4 := Lib.hid (show Grows w w4 from G3.out.trans hg); obtain ⟨Av, cv, rfl, _, _⟩ := hs.form; obtain ⟨Ar2, cr2, rfl, _⟩ := hr; simp only [List.length_map] at Q4 ⊢; have k4 := P5_4.out.cell 1; have f4 := P5_4.out.frozen 1; have P5_5 : Hid (Row (w4.setCell ⟨w.heap.size + 1, 1, none⟩ (.slice Av SW.length cv)) (w.heap.size + 1) 45 (rawA { noR with ka := As, kn := S0.length, kc := cs, va := Av, vn := SW.length, vc := cv })) := (P5_4.out.set 1 (.slice Av SW.length cv)); have P2_5 := Lib.hid (P2_4.out.far (p := ⟨w.heap.size + 1, 1, none⟩) (by simp) (.slice Av SW.length cv)); have S5 := Lib.hid (S4.out.apart (setCell_grown _ _ 1 (.slice Av SW.length cv)) P5_4.out (by decide)); have V5 := Lib.hid (V4.out.apart (setCell_grown _ _ 1 (.slice Av SW.length cv)) P5_4.out (by decide)); have Q5 := Lib.hid (Q4.out.below (Below.setCell (Below.refl _ _) (p := ⟨w.heap.size + 1, 1, none⟩) (by have := HBb.out; show B ≤ w.heap.size + 1; omega) (.slice Av SW.length cv))); have G5 := Lib.hid (show Grows w (w4.setCell ⟨w.heap.size + 1, 1, none⟩ (.slice Av SW.length cv)) from Below.setCell G4.out (p := ⟨w.heap.size + 1, 1, none⟩) (by simp) (.slice Av SW.length cv)); clear hg)
        | ((with_reducible refine wpList_load_itAt (op := ⟨some 50, _, _, _, _, _⟩) ?_ (.tmp 5) ?_ (w.heap.size + 1) 0 { noR with ka := As, kn := S0.length, kc := cs, va := Av, vn := SW.length, vc := cv } ?_ ?_ ?_); exact rfl; exact rfl; exact rfl; exact rawA_row P5_5.out)
        | ((with_reducible refine wpList_store_it ?_ (.tmp 2) (.tmp 50) ?_ w.heap.size { noR with ka := As, kn := S0.length, kc := cs, va := Av, vn := SW.length, vc := cv } #[.slice none 0 0, .slice none 0 0, .int .u8 0, .int .u16 0, .int .u16 0, .int .u32 0, .int .u64 0, .int .u16 0] ?_ ?_ ?_ ?_ ?_); exact rfl; exact rfl; exact rfl; exact rfl; exact rfl; exact P2_5.out; intro w6 hw6 hg6))
      refine bodyPost_ret (results_it_three (p := 2) (q := 3) (r := 4) (by exact rfl) _ _ _ (by exact rfl) (by exact rfl) (by exact rfl) hw6) rfl ?_
      have hG : Grows w w6 := Below.grown G5.out hg6 G5.out.size (fun k e => by cases e; exact Nat.le_refl _)
      have hT : ItemTold B w.heap.size w6 b { noR with ka := As, kn := S0.length, kc := cs, va := Av, vn := SW.length, vc := cv } (.slice Ar2 R2v.length cr2) true := by
        refine ⟨by rw [HN.out]; rfl, fun x q h => ?_⟩
        rw [HN.out] at h
        injection h with h
        injection h with hx hq
        subst hx hq
        exact ⟨⟨S5.out.apart hg6 P2_5.out (by decide), V5.out.apart hg6 P2_5.out (by decide), rfl, rfl⟩, Q5.out.below (Below.grown (Below.refl _ _) hg6 (Nat.le_trans HBb.out G5.out.size) (fun k e => by cases e; exact HBb.out))⟩
      refine ⟨_, _, _, ?_, hT, hG⟩
      rfl
    · have HN : Hid (LeafM.item b = none) := HI.out.trans (if_neg h4)
      have h4' : (E2 == 0) = false := by simpa using h4
      go_enter Tryd.func28, Tryd.ntmps28
      go_wp2_with (first
        | (go_at_call 45; (with_reducible refine HT1.out.mono ?_); rintro e w1 ⟨s0, r0, rfl, hs, hr, hg⟩; have S1 := Lib.hid (hs.more HG.out.size); have Q1 := Lib.hid hr; have P2_1 := Lib.hid (Row.grows R2.out hg); have P5_1 := Lib.hid (Row.grows R5.out hg); have G1 := Lib.hid (show Grows w w1 from HG.out.trans hg); obtain ⟨As, cs, rfl, _, _⟩ := hs.form; obtain ⟨Ar, cr, rfl, _⟩ := hr; simp only [List.length_map] at Q1 ⊢; have HT2' := Lib.hid (HT2.out _ _ (Nat.le_trans HBb.out G1.out.size) Q1.out); clear hs hg)
        | (go_at_call 46; (with_reducible refine HT2'.out.mono ?_); rintro e w2 ⟨r1, rfl, hr, hg⟩; have S2 := Lib.hid (S1.out.grows hg); have Q2 := Lib.hid hr; have P2_2 := Lib.hid (Row.grows P2_1.out hg); have P5_2 := Lib.hid (Row.grows P5_1.out hg); have G2 := Lib.hid (show Grows w w2 from G1.out.trans hg); obtain ⟨Ar1, cr1, rfl, _⟩ := hr; simp only [List.length_map] at Q2 ⊢; have k2 := P5_2.out.cell 0; have f2 := P5_2.out.frozen 0; have P5_3 : Hid (Row (w2.setCell ⟨w.heap.size + 1, 0, none⟩ (.slice As S0.length cs)) (w.heap.size + 1) 45 (rawA { noR with ka := As, kn := S0.length, kc := cs })) := (P5_2.out.set 0 (.slice As S0.length cs)); have P2_3 := Lib.hid (P2_2.out.far (p := ⟨w.heap.size + 1, 0, none⟩) (by simp) (.slice As S0.length cs)); have S3 := Lib.hid (S2.out.apart (setCell_grown _ _ 0 (.slice As S0.length cs)) P5_2.out (by decide)); have Q3 := Lib.hid (Q2.out.below (Below.setCell (Below.refl _ _) (p := ⟨w.heap.size + 1, 0, none⟩) (by have := HBb.out; show B ≤ w.heap.size + 1; omega) (.slice As S0.length cs))); have G3 := Lib.hid (show Grows w (w2.setCell ⟨w.heap.size + 1, 0, none⟩ (.slice As S0.length cs)) from Below.setCell G2.out (p := ⟨w.heap.size + 1, 0, none⟩) (by simp) (.slice As S0.length cs)); have HT3' := Lib.hid (HT3.out _ _ (Nat.le_trans HBb.out G3.out.size) Q3.out); clear hg)
        | (go_at_call 45; (with_reducible refine HT3'.out.mono ?_); rintro e w4 ⟨s1, r2, rfl, hs, hr, hg⟩; have S4 := Lib.hid (S3.out.grows hg); have V4 := Lib.hid (hs.more G3.out.size); have Q4 := Lib.hid hr; have P2_4 := Lib.hid (Row.grows P2_3.out hg); have P5_4 := Lib.hid (Row.grows P5_3.out hg); have G4 := Lib.hid (show Grows w w4 from G3.out.trans hg); obtain ⟨Av, cv, rfl, _, _⟩ := hs.form; obtain ⟨Ar2, cr2, rfl, _⟩ := hr; simp only [List.length_map] at Q4 ⊢; have k4 := P5_4.out.cell 1; have f4 := P5_4.out.frozen 1; have P5_5 : Hid (Row (w4.setCell ⟨w.heap.size + 1, 1, none⟩ (.slice Av SW.length cv)) (w.heap.size + 1) 45 (rawA { noR with ka := As, kn := S0.length, kc := cs, va := Av, vn := SW.length, vc := cv })) := (P5_4.out.set 1 (.slice Av SW.length cv)); have P2_5 := Lib.hid (P2_4.out.far (p := ⟨w.heap.size + 1, 1, none⟩) (by simp) (.slice Av SW.length cv)); have S5 := Lib.hid (S4.out.apart (setCell_grown _ _ 1 (.slice Av SW.length cv)) P5_4.out (by decide)); have V5 := Lib.hid (V4.out.apart (setCell_grown _ _ 1 (.slice Av SW.length cv)) P5_4.out (by decide)); have Q5 := Lib.hid (Q4.out.below (Below.setCell (Below.refl _ _) (p := ⟨w.heap.size + 1, 1, none⟩) (by have := HBb.out; show B ≤ w.heap.size + 1; omega) (.slice Av SW.length cv))); have G5 := Lib.hid (show Grows w (w4.setCell ⟨w.heap.size + 1, 1, none⟩ (.slice Av SW.length cv)) from Below.setCell G4.out (p := ⟨w.heap.size + 1, 1, none⟩) (by simp) (.slice Av SW.length cv)); clear hg)
        | ((with_reducible refine wpList_load_itAt (op := ⟨some 50, _, _, _, _, _⟩) ?_ (.tmp 5) ?_ (w.heap.size + 1) 0 { noR with ka := As, kn := S0.length, kc := cs, va := Av, vn := SW.length, vc := cv } ?_ ?_ ?_); exact rfl; exact rfl; exact rfl; exact rawA_row P5_5.out)
        | ((with_reducible refine wpList_store_it ?_ (.tmp 2) (.tmp 50) ?_ w.heap.size { noR with ka := As, kn := S0.length, kc := cs, va := Av, vn := SW.length, vc := cv } #[.slice none 0 0, .slice none 0 0, .int .u8 0, .int .u16 0, .int .u16 0, .int .u32 0, .int .u64 0, .int .u16 0] ?_ ?_ ?_ ?_ ?_); exact rfl; exact rfl; exact rfl; exact rfl; exact rfl; exact P2_5.out; intro w6 hw6 hg6))
      refine bodyPost_ret (results_it_three (p := 2) (q := 3) (r := 4) (by exact rfl) _ _ _ (by exact rfl) (by exact rfl) (by exact rfl) hw6) rfl ?_
      have hG : Grows w w6 := Below.grown G5.out hg6 G5.out.size (fun k e => by cases e; exact Nat.le_refl _)
      have hT : ItemTold B w.heap.size w6 b { noR with ka := As, kn := S0.length, kc := cs, va := Av, vn := SW.length, vc := cv } (.slice Ar2 R2v.length cr2) false := ⟨by rw [HN.out]; rfl, fun x q h => by rw [HN.out] at h; cases h⟩
      refine ⟨_, _, _, ?_, hT, hG⟩
      rfl
  · have h3' : ¬ uI N1 = 0 := fun h => h3 (by apply BitVec.eq_of_toNat_eq; rw [hNu] at h; simpa using h)
    have h3'' : (uI N1 == 0) = false := by simpa using h3'
    have HI := Lib.hid (HI.out.trans (if_neg h3))
    clear HT3
    generalize PackM.takeE R1 2 = E3 at *
    generalize PackM.takeN R1 2 = N2 at *
    generalize PackM.takeR R1 2 = R2v at *
    generalize PtM.takeE R2v = E4 at *
    generalize PtM.takeP R2v = TP at *
    generalize PtM.takeR R2v = R3 at *
    have ew := wrap_u16_uI N2
    by_cases h5 : E3 = 0
    case neg =>
      have HN : Hid (LeafM.item b = none) := HI.out.trans (if_neg (fun h => h5 h.1))
      have h5' : (E3 == 0) = false := by simpa using h5
      go_enter Tryd.func28, Tryd.ntmps28
      go_wp2_with (first
        | (go_at_call 45; (with_reducible refine HT1.out.mono ?_); rintro e w1 ⟨s0, r0, rfl, hs, hr, hg⟩; have S1 := Lib.hid (hs.more HG.out.size); have Q1 := Lib.hid hr; have P2_1 := Lib.hid (Row.grows R2.out hg); have P5_1 := Lib.hid (Row.grows R5.out hg); have G1 := Lib.hid (show Grows w w1 from HG.out.trans hg); obtain ⟨As, cs, rfl, _, _⟩ := hs.form; obtain ⟨Ar, cr, rfl, _⟩ := hr; simp only [List.length_map] at Q1 ⊢; have HT2' := Lib.hid (HT2.out _ _ (Nat.le_trans HBb.out G1.out.size) Q1.out); clear hs hg)
        | (go_at_call 46; (with_reducible refine HT2'.out.mono ?_); rintro e w2 ⟨r1, rfl, hr, hg⟩; have S2 := Lib.hid (S1.out.grows hg); have Q2 := Lib.hid hr; have P2_2 := Lib.hid (Row.grows P2_1.out hg); have P5_2 := Lib.hid (Row.grows P5_1.out hg); have G2 := Lib.hid (show Grows w w2 from G1.out.trans hg); obtain ⟨Ar1, cr1, rfl, _⟩ := hr; simp only [List.length_map] at Q2 ⊢; have k2 := P5_2.out.cell 0; have f2 := P5_2.out.frozen 0; have P5_3 : Hid (Row (w2.setCell ⟨w.heap.size + 1, 0, none⟩ (.slice As S0.length cs)) (w.heap.size + 1) 45 (rawA { noR with ka := As, kn := S0.length, kc := cs })) := (P5_2.out.set 0 (.slice As S0.length cs)); have P2_3 := Lib.hid (P2_2.out.far (p := ⟨w.heap.size + 1, 0, none⟩) (by simp) (.slice As S0.length cs)); have S3 := Lib.hid (S2.out.apart (setCell_grown _ _ 0 (.slice As S0.length cs)) P5_2.out (by decide)); have Q3 := Lib.hid (Q2.out.below (Below.setCell (Below.refl _ _) (p := ⟨w.heap.size + 1, 0, none⟩) (by have := HBb.out; show B ≤ w.heap.size + 1; omega) (.slice As S0.length cs))); have G3 := Lib.hid (show Grows w (w2.setCell ⟨w.heap.size + 1, 0, none⟩ (.slice As S0.length cs)) from Below.setCell G2.out (p := ⟨w.heap.size + 1, 0, none⟩) (by simp) (.slice As S0.length cs)); have HT4' := Lib.hid (HT4.out _ _ (Nat.le_trans HBb.out G3.out.size) Q3.out); clear hg)
        | (go_at_call 46; (with_reducible refine HT4'.out.mono ?_); rintro e w4 ⟨r2, rfl, hr, hg⟩; have S4 := Lib.hid (S3.out.grows hg); have Q4 := Lib.hid hr; have P2_4 := Lib.hid (Row.grows P2_3.out hg); have P5_4 := Lib.hid (Row.grows P5_3.out hg); have G4 := Lib.hid (show Grows w w4 from G3.out.trans hg); obtain ⟨Ar2, cr2, rfl, _⟩ := hr; simp only [List.length_map] at Q4 ⊢; have HT5' := Lib.hid (HT5.out _ _ (Nat.le_trans HBb.out G4.out.size) Q4.out); clear hg)
        | (go_at_call 47; (with_reducible refine HT5'.out.mono ?_); rintro e w5 ⟨r3, rfl, hr, hg⟩; have S5 := Lib.hid (S4.out.grows hg); have Q5 := Lib.hid hr; have P2_5 := Lib.hid (Row.grows P2_4.out hg); have P5_5 := Lib.hid (Row.grows P5_4.out hg); have G5 := Lib.hid (show Grows w w5 from G4.out.trans hg); obtain ⟨Ar3, cr3, rfl, _⟩ := hr; simp only [List.length_map] at Q5 ⊢; clear hg)
        | ((with_reducible refine wpList_store_pt ?_ (.tmp 14) (.tmp 63) ?_ w5.heap.size TP #[.int .u8 0, .int .u16 0, .int .u16 0, .int .u32 0, .int .u64 0] ?_ ?_ ?_ ?_ ?_); exact rfl; exact rfl; exact rfl; exact rfl; exact rfl; exact Row.new w5 _ _; intro w6 hp hg; have g := grown_fresh (W := w5) (W' := w6) rfl hg; have S6 := Lib.hid (S5.out.grows g); have Q6 := Lib.hid (Q5.out.below (Below.mono g (Nat.le_trans HBb.out G5.out.size))); have P2_6 := Lib.hid (Row.grows P2_5.out g); have P5_6 := Lib.hid (Row.grows P5_5.out g); have G6 := Lib.hid (show Grows w w6 from G5.out.trans g); have k6 := P5_6.out.cell 7; have f6 := P5_6.out.frozen 7; have P5_7 : Hid (Row (w6.setCell ⟨w.heap.size + 1, 7, none⟩ (.int .u16 (hI (N2.setWidth 16)))) (w.heap.size + 1) 45 (rawA { noR with ka := As, kn := S0.length, kc := cs, size := N2.setWidth 16 })) := (P5_6.out.set 7 (.int .u16 (hI (N2.setWidth 16)))); have P2_7 := Lib.hid (P2_6.out.far (p := ⟨w.heap.size + 1, 7, none⟩) (by simp) (.int .u16 (hI (N2.setWidth 16)))); have hne := P5_5.out.lt; have PP7 := Lib.hid (Row.far hp (p := ⟨w.heap.size + 1, 7, none⟩) (by simp; omega) (.int .u16 (hI (N2.setWidth 16)))); have S7 := Lib.hid (S6.out.apart (setCell_grown _ _ 7 (.int .u16 (hI (N2.setWidth 16)))) P5_6.out (by decide)); have Q7 := Lib.hid (Q6.out.below (Below.setCell (Below.refl _ _) (p := ⟨w.heap.size + 1, 7, none⟩) (by have := HBb.out; show B ≤ w.heap.size + 1; omega) (.int .u16 (hI (N2.setWidth 16))))); have G7 := Lib.hid (show Grows w (w6.setCell ⟨w.heap.size + 1, 7, none⟩ (.int .u16 (hI (N2.setWidth 16)))) from Below.setCell G6.out (p := ⟨w.heap.size + 1, 7, none⟩) (by simp) (.int .u16 (hI (N2.setWidth 16)))); clear hp hg g hne)
        | ((with_reducible refine wpList_load_pt (o := ⟨some 69, _, _, _, _, _⟩) ?_ (.tmp 14) ?_ w5.heap.size TP ?_ ?_ ?_); exact rfl; exact rfl; exact rfl; exact PP7.out)
        | ((with_reducible refine wpList_store_ptAt ?_ (.tmp 70) (.tmp 69) ?_ (w.heap.size + 1) TP { noR with ka := As, kn := S0.length, kc := cs, size := N2.setWidth 16 } ?_ ?_ ?_ ?_); exact rfl; exact rfl; exact rfl; exact rfl; exact P5_7.out; intro w8 hp hg; have P5_8 : Hid (Row w8 (w.heap.size + 1) 45 (rawA { noR with ka := As, kn := S0.length, kc := cs, over := TP, size := N2.setWidth 16 })) := hp; have P2_8 := Lib.hid (P2_7.out.grown hg (by simp)); have S8 := Lib.hid (S7.out.apart hg P5_7.out (by decide)); have Q8 := Lib.hid (Q7.out.below (Below.grown (Below.refl _ _) hg (Nat.le_trans HBb.out G7.out.size) (fun k e => by cases e; exact Nat.le_succ_of_le HBb.out))); have G8 := Lib.hid (show Grows w w8 from Below.grown G7.out hg G7.out.size (fun k e => by cases e; exact Nat.le_succ _)); clear hp hg)
        | ((with_reducible refine wpList_load_itAt (op := ⟨some 71, _, _, _, _, _⟩) ?_ (.tmp 5) ?_ (w.heap.size + 1) 0 { noR with ka := As, kn := S0.length, kc := cs, over := TP, size := N2.setWidth 16 } ?_ ?_ ?_); exact rfl; exact rfl; exact rfl; exact rawA_row P5_8.out)
        | ((with_reducible refine wpList_store_it ?_ (.tmp 2) (.tmp 71) ?_ w.heap.size { noR with ka := As, kn := S0.length, kc := cs, over := TP, size := N2.setWidth 16 } #[.slice none 0 0, .slice none 0 0, .int .u8 0, .int .u16 0, .int .u16 0, .int .u32 0, .int .u64 0, .int .u16 0] ?_ ?_ ?_ ?_ ?_); exact rfl; exact rfl; exact rfl; exact rfl; exact rfl; exact P2_8.out; intro w9 hw9 hg9))
      refine bodyPost_ret (results_it_three (p := 2) (q := 3) (r := 4) (by exact rfl) _ _ _ (by exact rfl) (by exact rfl) (by exact rfl) hw9) rfl ?_
      have hG : Grows w w9 := Below.grown G8.out hg9 G8.out.size (fun k e => by cases e; exact Nat.le_refl _)
      have hT : ItemTold B w.heap.size w9 b { noR with ka := As, kn := S0.length, kc := cs, over := TP, size := N2.setWidth 16 } (.slice Ar3 R3.length cr3) false := ⟨by rw [HN.out]; rfl, fun x q h => by rw [HN.out] at h; cases h⟩
      refine ⟨_, _, _, ?_, hT, hG⟩
      rfl
    by_cases h6 : E4 = 0
    · have HN : Hid (LeafM.item b = some (⟨S0, [], TP, N2.setWidth 16⟩, R3)) := HI.out.trans (if_pos ⟨h5, h6⟩)
      go_enter Tryd.func28, Tryd.ntmps28
      go_wp2_with (first
        | (go_at_call 45; (with_reducible refine HT1.out.mono ?_); rintro e w1 ⟨s0, r0, rfl, hs, hr, hg⟩; have S1 := Lib.hid (hs.more HG.out.size); have Q1 := Lib.hid hr; have P2_1 := Lib.hid (Row.grows R2.out hg); have P5_1 := Lib.hid (Row.grows R5.out hg); have G1 := Lib.hid (show Grows w w1 from HG.out.trans hg); obtain ⟨As, cs, rfl, _, _⟩ := hs.form; obtain ⟨Ar, cr, rfl, _⟩ := hr; simp only [List.length_map] at Q1 ⊢; have HT2' := Lib.hid (HT2.out _ _ (Nat.le_trans HBb.out G1.out.size) Q1.out); clear hs hg)
        | (go_at_call 46; (with_reducible refine HT2'.out.mono ?_); rintro e w2 ⟨r1, rfl, hr, hg⟩; have S2 := Lib.hid (S1.out.grows hg); have Q2 := Lib.hid hr; have P2_2 := Lib.hid (Row.grows P2_1.out hg); have P5_2 := Lib.hid (Row.grows P5_1.out hg); have G2 := Lib.hid (show Grows w w2 from G1.out.trans hg); obtain ⟨Ar1, cr1, rfl, _⟩ := hr; simp only [List.length_map] at Q2 ⊢; have k2 := P5_2.out.cell 0; have f2 := P5_2.out.frozen 0; have P5_3 : Hid (Row (w2.setCell ⟨w.heap.size + 1, 0, none⟩ (.slice As S0.length cs)) (w.heap.size + 1) 45 (rawA { noR with ka := As, kn := S0.length, kc := cs })) := (P5_2.out.set 0 (.slice As S0.length cs)); have P2_3 := Lib.hid (P2_2.out.far (p := ⟨w.heap.size + 1, 0, none⟩) (by simp) (.slice As S0.length cs)); have S3 := Lib.hid (S2.out.apart (setCell_grown _ _ 0 (.slice As S0.length cs)) P5_2.out (by decide)); have Q3 := Lib.hid (Q2.out.below (Below.setCell (Below.refl _ _) (p := ⟨w.heap.size + 1, 0, none⟩) (by have := HBb.out; show B ≤ w.heap.size + 1; omega) (.slice As S0.length cs))); have G3 := Lib.hid (show Grows w (w2.setCell ⟨w.heap.size + 1, 0, none⟩ (.slice As S0.length cs)) from Below.setCell G2.out (p := ⟨w.heap.size + 1, 0, none⟩) (by simp) (.slice As S0.length cs)); have HT4' := Lib.hid (HT4.out _ _ (Nat.le_trans HBb.out G3.out.size) Q3.out); clear hg)
        | (go_at_call 46; (with_reducible refine HT4'.out.mono ?_); rintro e w4 ⟨r2, rfl, hr, hg⟩; have S4 := Lib.hid (S3.out.grows hg); have Q4 := Lib.hid hr; have P2_4 := Lib.hid (Row.grows P2_3.out hg); have P5_4 := Lib.hid (Row.grows P5_3.out hg); have G4 := Lib.hid (show Grows w w4 from G3.out.trans hg); obtain ⟨Ar2, cr2, rfl, _⟩ := hr; simp only [List.length_map] at Q4 ⊢; have HT5' := Lib.hid (HT5.out _ _ (Nat.le_trans HBb.out G4.out.size) Q4.out); clear hg)
        | (go_at_call 47; (with_reducible refine HT5'.out.mono ?_); rintro e w5 ⟨r3, rfl, hr, hg⟩; have S5 := Lib.hid (S4.out.grows hg); have Q5 := Lib.hid hr; have P2_5 := Lib.hid (Row.grows P2_4.out hg); have P5_5 := Lib.hid (Row.grows P5_4.out hg); have G5 := Lib.hid (show Grows w w5 from G4.out.trans hg); obtain ⟨Ar3, cr3, rfl, _⟩ := hr; simp only [List.length_map] at Q5 ⊢; clear hg)
        | ((with_reducible refine wpList_store_pt ?_ (.tmp 14) (.tmp 63) ?_ w5.heap.size TP #[.int .u8 0, .int .u16 0, .int .u16 0, .int .u32 0, .int .u64 0] ?_ ?_ ?_ ?_ ?_); exact rfl; exact rfl; exact rfl; exact rfl; exact rfl; exact Row.new w5 _ _; intro w6 hp hg; have g := grown_fresh (W := w5) (W' := w6) rfl hg; have S6 := Lib.hid (S5.out.grows g); have Q6 := Lib.hid (Q5.out.below (Below.mono g (Nat.le_trans HBb.out G5.out.size))); have P2_6 := Lib.hid (Row.grows P2_5.out g); have P5_6 := Lib.hid (Row.grows P5_5.out g); have G6 := Lib.hid (show Grows w w6 from G5.out.trans g); have k6 := P5_6.out.cell 7; have f6 := P5_6.out.frozen 7; have P5_7 : Hid (Row (w6.setCell ⟨w.heap.size + 1, 7, none⟩ (.int .u16 (hI (N2.setWidth 16)))) (w.heap.size + 1) 45 (rawA { noR with ka := As, kn := S0.length, kc := cs, size := N2.setWidth 16 })) := (P5_6.out.set 7 (.int .u16 (hI (N2.setWidth 16)))); have P2_7 := Lib.hid (P2_6.out.far (p := ⟨w.heap.size + 1, 7, none⟩) (by simp) (.int .u16 (hI (N2.setWidth 16)))); have hne := P5_5.out.lt; have PP7 := Lib.hid (Row.far hp (p := ⟨w.heap.size + 1, 7, none⟩) (by simp; omega) (.int .u16 (hI (N2.setWidth 16)))); have S7 := Lib.hid (S6.out.apart (setCell_grown _ _ 7 (.int .u16 (hI (N2.setWidth 16)))) P5_6.out (by decide)); have Q7 := Lib.hid (Q6.out.below (Below.setCell (Below.refl _ _) (p := ⟨w.heap.size + 1, 7, none⟩) (by have := HBb.out; show B ≤ w.heap.size + 1; omega) (.int .u16 (hI (N2.setWidth 16))))); have G7 := Lib.hid (show Grows w (w6.setCell ⟨w.heap.size + 1, 7, none⟩ (.int .u16 (hI (N2.setWidth 16)))) from Below.setCell G6.out (p := ⟨w.heap.size + 1, 7, none⟩) (by simp) (.int .u16 (hI (N2.setWidth 16)))); clear hp hg g hne)
        | ((with_reducible refine wpList_load_pt (o := ⟨some 69, _, _, _, _, _⟩) ?_ (.tmp 14) ?_ w5.heap.size TP ?_ ?_ ?_); exact rfl; exact rfl; exact rfl; exact PP7.out)
        | ((with_reducible refine wpList_store_ptAt ?_ (.tmp 70) (.tmp 69) ?_ (w.heap.size + 1) TP { noR with ka := As, kn := S0.length, kc := cs, size := N2.setWidth 16 } ?_ ?_ ?_ ?_); exact rfl; exact rfl; exact rfl; exact rfl; exact P5_7.out; intro w8 hp hg; have P5_8 : Hid (Row w8 (w.heap.size + 1) 45 (rawA { noR with ka := As, kn := S0.length, kc := cs, over := TP, size := N2.setWidth 16 })) := hp; have P2_8 := Lib.hid (P2_7.out.grown hg (by simp)); have S8 := Lib.hid (S7.out.apart hg P5_7.out (by decide)); have Q8 := Lib.hid (Q7.out.below (Below.grown (Below.refl _ _) hg (Nat.le_trans HBb.out G7.out.size) (fun k e => by cases e; exact Nat.le_succ_of_le HBb.out))); have G8 := Lib.hid (show Grows w w8 from Below.grown G7.out hg G7.out.size (fun k e => by cases e; exact Nat.le_succ _)); clear hp hg)
        | ((with_reducible refine wpList_load_itAt (op := ⟨some 71, _, _, _, _, _⟩) ?_ (.tmp 5) ?_ (w.heap.size + 1) 0 { noR with ka := As, kn := S0.length, kc := cs, over := TP, size := N2.setWidth 16 } ?_ ?_ ?_); exact rfl; exact rfl; exact rfl; exact rawA_row P5_8.out)
        | ((with_reducible refine wpList_store_it ?_ (.tmp 2) (.tmp 71) ?_ w.heap.size { noR with ka := As, kn := S0.length, kc := cs, over := TP, size := N2.setWidth 16 } #[.slice none 0 0, .slice none 0 0, .int .u8 0, .int .u16 0, .int .u16 0, .int .u32 0, .int .u64 0, .int .u16 0] ?_ ?_ ?_ ?_ ?_); exact rfl; exact rfl; exact rfl; exact rfl; exact rfl; exact P2_8.out; intro w9 hw9 hg9))
      refine bodyPost_ret (results_it_three (p := 2) (q := 3) (r := 4) (by exact rfl) _ _ _ (by exact rfl) (by exact rfl) (by exact rfl) hw9) rfl ?_
      have hG : Grows w w9 := Below.grown G8.out hg9 G8.out.size (fun k e => by cases e; exact Nat.le_refl _)
      have hT : ItemTold B w.heap.size w9 b { noR with ka := As, kn := S0.length, kc := cs, over := TP, size := N2.setWidth 16 } (.slice Ar3 R3.length cr3) true := by
        refine ⟨by rw [HN.out]; rfl, fun x q h => ?_⟩
        rw [HN.out] at h
        injection h with h
        injection h with hx hq
        subst hx hq
        exact ⟨⟨S8.out.apart hg9 P2_8.out (by decide), Mine.nil _ _, rfl, rfl⟩, Q8.out.below (Below.grown (Below.refl _ _) hg9 (Nat.le_trans HBb.out G8.out.size) (fun k e => by cases e; exact HBb.out))⟩
      refine ⟨_, _, _, ?_, hT, hG⟩
      rfl
    · have HN : Hid (LeafM.item b = none) := HI.out.trans (if_neg (fun h => h6 h.2))
      have h6' : (E4 == 0) = false := by simpa using h6
      go_enter Tryd.func28, Tryd.ntmps28
      go_wp2_with (first
        | (go_at_call 45; (with_reducible refine HT1.out.mono ?_); rintro e w1 ⟨s0, r0, rfl, hs, hr, hg⟩; have S1 := Lib.hid (hs.more HG.out.size); have Q1 := Lib.hid hr; have P2_1 := Lib.hid (Row.grows R2.out hg); have P5_1 := Lib.hid (Row.grows R5.out hg); have G1 := Lib.hid (show Grows w w1 from HG.out.trans hg); obtain ⟨As, cs, rfl, _, _⟩ := hs.form; obtain ⟨Ar, cr, rfl, _⟩ := hr; simp only [List.length_map] at Q1 ⊢; have HT2' := Lib.hid (HT2.out _ _ (Nat.le_trans HBb.out G1.out.size) Q1.out); clear hs hg)
        | (go_at_call 46; (with_reducible refine HT2'.out.mono ?_); rintro e w2 ⟨r1, rfl, hr, hg⟩; have S2 := Lib.hid (S1.out.grows hg); have Q2 := Lib.hid hr; have P2_2 := Lib.hid (Row.grows P2_1.out hg); have P5_2 := Lib.hid (Row.grows P5_1.out hg); have G2 := Lib.hid (show Grows w w2 from G1.out.trans hg); obtain ⟨Ar1, cr1, rfl, _⟩ := hr; simp only [List.length_map] at Q2 ⊢; have k2 := P5_2.out.cell 0; have f2 := P5_2.out.frozen 0; have P5_3 : Hid (Row (w2.setCell ⟨w.heap.size + 1, 0, none⟩ (.slice As S0.length cs)) (w.heap.size + 1) 45 (rawA { noR with ka := As, kn := S0.length, kc := cs })) := (P5_2.out.set 0 (.slice As S0.length cs)); have P2_3 := Lib.hid (P2_2.out.far (p := ⟨w.heap.size + 1, 0, none⟩) (by simp) (.slice As S0.length cs)); have S3 := Lib.hid (S2.out.apart (setCell_grown _ _ 0 (.slice As S0.length cs)) P5_2.out (by decide)); have Q3 := Lib.hid (Q2.out.below (Below.setCell (Below.refl _ _) (p := ⟨w.heap.size + 1, 0, none⟩) (by have := HBb.out; show B ≤ w.heap.size + 1; omega) (.slice As S0.length cs))); have G3 := Lib.hid (show Grows w (w2.setCell ⟨w.heap.size + 1, 0, none⟩ (.slice As S0.length cs)) from Below.setCell G2.out (p := ⟨w.heap.size + 1, 0, none⟩) (by simp) (.slice As S0.length cs)); have HT4' := Lib.hid (HT4.out _ _ (Nat.le_trans HBb.out G3.out.size) Q3.out); clear hg)
        | (go_at_call 46; (with_reducible refine HT4'.out.mono ?_); rintro e w4 ⟨r2, rfl, hr, hg⟩; have S4 := Lib.hid (S3.out.grows hg); have Q4 := Lib.hid hr; have P2_4 := Lib.hid (Row.grows P2_3.out hg); have P5_4 := Lib.hid (Row.grows P5_3.out hg); have G4 := Lib.hid (show Grows w w4 from G3.out.trans hg); obtain ⟨Ar2, cr2, rfl, _⟩ := hr; simp only [List.length_map] at Q4 ⊢; have HT5' := Lib.hid (HT5.out _ _ (Nat.le_trans HBb.out G4.out.size) Q4.out); clear hg)
        | (go_at_call 47; (with_reducible refine HT5'.out.mono ?_); rintro e w5 ⟨r3, rfl, hr, hg⟩; have S5 := Lib.hid (S4.out.grows hg); have Q5 := Lib.hid hr; have P2_5 := Lib.hid (Row.grows P2_4.out hg); have P5_5 := Lib.hid (Row.grows P5_4.out hg); have G5 := Lib.hid (show Grows w w5 from G4.out.trans hg); obtain ⟨Ar3, cr3, rfl, _⟩ := hr; simp only [List.length_map] at Q5 ⊢; clear hg)
        | ((with_reducible refine wpList_store_pt ?_ (.tmp 14) (.tmp 63) ?_ w5.heap.size TP #[.int .u8 0, .int .u16 0, .int .u16 0, .int .u32 0, .int .u64 0] ?_ ?_ ?_ ?_ ?_); exact rfl; exact rfl; exact rfl; exact rfl; exact rfl; exact Row.new w5 _ _; intro w6 hp hg; have g := grown_fresh (W := w5) (W' := w6) rfl hg; have S6 := Lib.hid (S5.out.grows g); have Q6 := Lib.hid (Q5.out.below (Below.mono g (Nat.le_trans HBb.out G5.out.size))); have P2_6 := Lib.hid (Row.grows P2_5.out g); have P5_6 := Lib.hid (Row.grows P5_5.out g); have G6 := Lib.hid (show Grows w w6 from G5.out.trans g); have k6 := P5_6.out.cell 7; have f6 := P5_6.out.frozen 7; have P5_7 : Hid (Row (w6.setCell ⟨w.heap.size + 1, 7, none⟩ (.int .u16 (hI (N2.setWidth 16)))) (w.heap.size + 1) 45 (rawA { noR with ka := As, kn := S0.length, kc := cs, size := N2.setWidth 16 })) := (P5_6.out.set 7 (.int .u16 (hI (N2.setWidth 16)))); have P2_7 := Lib.hid (P2_6.out.far (p := ⟨w.heap.size + 1, 7, none⟩) (by simp) (.int .u16 (hI (N2.setWidth 16)))); have hne := P5_5.out.lt; have PP7 := Lib.hid (Row.far hp (p := ⟨w.heap.size + 1, 7, none⟩) (by simp; omega) (.int .u16 (hI (N2.setWidth 16)))); have S7 := Lib.hid (S6.out.apart (setCell_grown _ _ 7 (.int .u16 (hI (N2.setWidth 16)))) P5_6.out (by decide)); have Q7 := Lib.hid (Q6.out.below (Below.setCell (Below.refl _ _) (p := ⟨w.heap.size + 1, 7, none⟩) (by have := HBb.out; show B ≤ w.heap.size + 1; omega) (.int .u16 (hI (N2.setWidth 16))))); have G7 := Lib.hid (show Grows w (w6.setCell ⟨w.heap.size + 1, 7, none⟩ (.int .u16 (hI (N2.setWidth 16)))) from Below.setCell G6.out (p := ⟨w.heap.size + 1, 7, none⟩) (by simp) (.int .u16 (hI (N2.setWidth 16)))); clear hp hg g hne)
        | ((with_reducible refine wpList_load_pt (o := ⟨some 69, _, _, _, _, _⟩) ?_ (.tmp 14) ?_ w5.heap.size TP ?_ ?_ ?_); exact rfl; exact rfl; exact rfl; exact PP7.out)
        | ((with_reducible refine wpList_store_ptAt ?_ (.tmp 70) (.tmp 69) ?_ (w.heap.size + 1) TP { noR with ka := As, kn := S0.length, kc := cs, size := N2.setWidth 16 } ?_ ?_ ?_ ?_); exact rfl; exact rfl; exact rfl; exact rfl; exact P5_7.out; intro w8 hp hg; have P5_8 : Hid (Row w8 (w.heap.size + 1) 45 (rawA { noR with ka := As, kn := S0.length, kc := cs, over := TP, size := N2.setWidth 16 })) := hp; have P2_8 := Lib.hid (P2_7.out.grown hg (by simp)); have S8 := Lib.hid (S7.out.apart hg P5_7.out (by decide)); have Q8 := Lib.hid (Q7.out.below (Below.grown (Below.refl _ _) hg (Nat.le_trans HBb.out G7.out.size) (fun k e => by cases e; exact Nat.le_succ_of_le HBb.out))); have G8 := Lib.hid (show Grows w w8 from Below.grown G7.out hg G7.out.size (fun k e => by cases e; exact Nat.le_succ _)); clear hp hg)
        | ((with_reducible refine wpList_load_itAt (op := ⟨some 71, _, _, _, _, _⟩) ?_ (.tmp 5) ?_ (w.heap.size + 1) 0 { noR with ka := As, kn := S0.length, kc := cs, over := TP, size := N2.setWidth 16 } ?_ ?_ ?_); exact rfl; exact rfl; exact rfl; exact rawA_row P5_8.out)
        | ((with_reducible refine wpList_store_it ?_ (.tmp 2) (.tmp 71) ?_ w.heap.size { noR with ka := As, kn := S0.length, kc := cs, over := TP, size := N2.setWidth 16 } #[.slice none 0 0, .slice none 0 0, .int .u8 0, .int .u16 0, .int .u16 0, .int .u32 0, .int .u64 0, .int .u16 0] ?_ ?_ ?_ ?_ ?_); exact rfl; exact rfl; exact rfl; exact rfl; exact rfl; exact P2_8.out; intro w9 hw9 hg9))
      refine bodyPost_ret (results_it_three (p := 2) (q := 3) (r := 4) (by exact rfl) _ _ _ (by exact rfl) (by exact rfl) (by exact rfl) hw9) rfl ?_
      have hG : Grows w w9 := Below.grown G8.out hg9 G8.out.size (fun k e => by cases e; exact Nat.le_refl _)
      have hT : ItemTold B w.heap.size w9 b { noR with ka := As, kn := S0.length, kc := cs, over := TP, size := N2.setWidth 16 } (.slice Ar3 R3.length cr3) false := ⟨by rw [HN.out]; rfl, fun x q h => by rw [HN.out] at h; cases h⟩
      refine ⟨_, _, _, ?_, hT, hG⟩
      rfl
end Go.Proofs.YthdncpkmhodokaaDoor
