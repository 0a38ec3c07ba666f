/- LeafBackAny -/
import Derived.Test.YthdncpkmhodokaaDoorLfWakes
import Derived.Test.YthdncpkmhodokaaDoorLfGreat
import Derived.Test.YthdncpkmhodokaaDoorLfB
import Derived.Test.YthdncpkmhodokaaDoorLfC
/- LeafBack: what the call answers. -/
namespace Go.Proofs.YthdncpkmhodokaaDoor
open Go.RowKit
set_option linter.unusedVariables false
set_option linter.unusedSimpArgs false
theorem slice_of {base : Nat} {W : World} {v : Value} {l : List It} (h : OwnIts base W v l) : ∃ A n c, v = .slice A n c := by
  obtain ⟨A, c, e, _⟩ := h.form; exact ⟨A, _, c, e⟩
set_option maxHeartbeats 8000000 in
set_option maxRecDepth 100000 in
theorem leafBack_any (v : Value) (l : List It) (p : List (BitVec 8)) (w : World) (hv : Its w.heap.size w v l) (hp : p.length = 256) (hG : Glob w) :
    Calls Tryd.prog 4 #[v, .agg (pageA p)] w fun e w' => e = .returned (.bool true) ∧ Below w.heap.size w w' := by
  have hz := fun w => zero_page w
  have P0 := Lib.hid (PRow.new w hp)
  have G0 := Lib.hid (Grows.alloc w (.cells (pageA p) 24))
  have CGreat := Lib.hid (fun W (h : Grows w W) => rgreat6_any v l W (hv.grows h))
  have CWakes := Lib.hid (fun W (h : Grows w W) => wakes6_any W (hG.grows h))
  have CEnc := Lib.hid (fun W (h : Grows w W) => encode6_any v l W (hv.grows h) (hG.grows h))
  have CEnc2 := Lib.hid (fun u m W (h1 : Its (World.heap W).size W u m) (h : Grows w W) => encode6_any u m W h1 (hG.grows h))
  have CRight := Lib.hid (fun W (h : Grows w W) => rrights6_any v l W (hv.grows h))
  have CDec := Lib.hid (fun q (hq : q.length = 256) W (h : Grows w W) => decode6_any q W hq (hG.grows h))
  have CSame := Lib.hid (fun u W (h : Grows w W) (hu : Its (World.heap W).size W u l) => rsame6_any u v l l W hu (hv.grows h))
  have HLP := Lib.hid hp
  have hn := page_is noughts noughts noughts_length noughts_length
  have hpp := page_is p p hp hp
  simp only [decide_true] at hn hpp CSame
  obtain ⟨A, cap, rfl, _, _⟩ := hv.form
  clear hv hp hG
  cases hgr : LeafM.great l
  case true =>
    rw [hgr] at CGreat
    clear hgr
    go_enter Tryd.func4, Tryd.ntmps4
    go_wp2_with (first
      | (go_at_call 8; (with_reducible refine (CGreat.out _ G0.out).mono ?_); rintro e w1 ⟨rfl, g⟩; have P1 := Lib.hid (P0.out.grows g); have G1 := Lib.hid (G0.out.trans g); clear g)
      | (go_at_call 9; (with_reducible refine (CWakes.out _ G1.out).mono ?_); rintro e w2 ⟨rfl, g⟩; have P2 := Lib.hid (P1.out.grows g); have G2 := Lib.hid (G1.out.trans g); clear g))
    go_ret
    exact ⟨rfl, G2.out⟩
  rw [hgr] at CGreat
  clear hgr
  cases hR : LeafM.right l
  case true =>
    have hE := (LeafM.enc_right hR).1
    have hDE := LeafM.dec_enc hR
    have HPL := Lib.hid (LeafM.encP_len l)
    rw [hR] at CRight
    rw [hE] at CEnc
    have CD1 : Hid (∀ W, Grows w W → Calls Tryd.prog 12 #[.agg (pageA (LeafM.encP l))] W fun e w' => (∃ A n c, e = .returned (.tuple #[.slice A n c, .int .i64 0]) ∧ OwnIts W.heap.size w' (.slice A n c) l) ∧ Grows W w') := fun W h => by
      refine (CDec.out _ HPL.out W h).mono ?_
      rintro e w' ⟨u, rfl, ho, hg⟩
      have h1 : LeafM.decE (LeafM.encP l) = 0 := by unfold LeafM.decE; rw [hDE]; rfl
      have h2 : LeafM.decL (LeafM.encP l) = l := by unfold LeafM.decL; rw [hDE]; rfl
      rw [h2] at ho
      obtain ⟨A, n, c, rfl⟩ := slice_of ho
      exact ⟨⟨A, n, c, by rw [h1], ho⟩, hg⟩
    generalize LeafM.encP l = ep at *
    clear hR hE hDE
    go_enter Tryd.func4, Tryd.ntmps4
    go_wp2_with (first
      | (go_at_call 8; (with_reducible refine (CGreat.out _ G0.out).mono ?_); rintro e w1 ⟨rfl, g⟩; have P1 := Lib.hid (P0.out.grows g); have G1 := Lib.hid (G0.out.trans g); clear g)
      | (go_at_call 10; (with_reducible refine (CEnc.out _ G1.out).mono ?_); rintro e w2 ⟨rfl, g⟩; have P2 := Lib.hid (P1.out.grows g); have G2 := Lib.hid (G1.out.trans g); clear g)
      | ((with_reducible refine wpList_store_page ?_ (.tmp 5) (.tmp 19) ?_ w2.heap.size ep noughts ?_ ?_ ?_ ?_ ?_); exact rfl; exact rfl; exact rfl; exact rfl; exact HPL.out; exact PRow.new w2 noughts_length; intro w3 hp hg; have g := grown_fresh (W := w2) (W' := w3) rfl hg; have R3 := Lib.hid hp; have P3 := Lib.hid (P2.out.grows g); have G3 := Lib.hid (G2.out.trans g); clear hp hg g)
      | (go_at_call 16; (with_reducible refine (CRight.out _ G3.out).mono ?_); rintro e w4 ⟨rfl, g⟩; have P4 := Lib.hid (P3.out.grows g); have R4 := Lib.hid (R3.out.grows g); have G4 := Lib.hid (G3.out.trans g); clear g)
      | ((with_reducible refine wpList_load_page (o := ⟨some 42, _, _, _, _, _⟩) ?_ (.tmp 5) ?_ w2.heap.size ep ?_ ?_ ?_); exact rfl; exact rfl; exact rfl; exact R4.out)
      | (go_at_call 12; (with_reducible refine (CD1.out _ G4.out).mono ?_); rintro e w5 ⟨⟨A8, n8, c8, rfl, ho⟩, g⟩; have P5 := Lib.hid (P4.out.grows g); have R5 := Lib.hid (R4.out.grows g); have G5 := Lib.hid (G4.out.trans g); have V5 := Lib.hid ho; clear ho; clear g)
      | (go_at_call 14; (with_reducible refine (CSame.out _ _ G5.out V5.out.its).mono ?_); rintro e w6 ⟨rfl, g⟩; have P6 := Lib.hid (P5.out.grows g); have R6 := Lib.hid (R5.out.grows g); have V6 := Lib.hid (V5.out.grows g); have G6 := Lib.hid (G5.out.trans g); clear g)
      | ((with_reducible refine wpList_load_page (o := ⟨some 55, _, _, _, _, _⟩) ?_ (.tmp 3) ?_ w.heap.size p ?_ ?_ ?_); exact rfl; exact rfl; exact rfl; exact P6.out))
    cases hd : LeafM.dec p with
    | none =>
      have CDp : Hid (∀ W, Grows w W → Calls Tryd.prog 12 #[.agg (pageA p)] W fun e w' => (∃ A c, e = .returned (.tuple #[.slice A 0 c, .int .i64 50])) ∧ Grows W w') := fun W h => by
        refine (CDec.out p HLP.out W h).mono ?_
        rintro e w' ⟨u, rfl, ho, hg⟩
        have h1 : LeafM.decE p = 50 := by unfold LeafM.decE; rw [hd]; rfl
        have h2 : LeafM.decL p = [] := by unfold LeafM.decL; rw [hd]; rfl
        rw [h2] at ho
        obtain ⟨A, c, rfl, _⟩ := ho.form
        exact ⟨⟨A, c, by rw [h1]; rfl⟩, hg⟩
      clear hd
      go_wp2_with (first
        | (go_at_call 12; (with_reducible refine (CDp.out _ G6.out).mono ?_); rintro e w7 ⟨⟨A9, c9, rfl⟩, g⟩; have P7 := Lib.hid (P6.out.grows g); have R7 := Lib.hid (R6.out.grows g); have V7 := Lib.hid (V6.out.grows g); have G7 := Lib.hid (G6.out.trans g); clear g)
        | (go_at_call 9; (with_reducible refine (CWakes.out _ G7.out).mono ?_); rintro e w8 ⟨rfl, g⟩; have P8 := Lib.hid (P7.out.grows g); have R8 := Lib.hid (R7.out.grows g); have V8 := Lib.hid (V7.out.grows g); have G8 := Lib.hid (G7.out.trans g); clear g))
      go_ret
      exact ⟨rfl, G8.out⟩
    | some m =>
      have CDp : Hid (∀ W, Grows w W → Calls Tryd.prog 12 #[.agg (pageA p)] W fun e w' => (∃ A n c, e = .returned (.tuple #[.slice A n c, .int .i64 0]) ∧ OwnIts W.heap.size w' (.slice A n c) m) ∧ Grows W w') := fun W h => by
        refine (CDec.out p HLP.out W h).mono ?_
        rintro e w' ⟨u, rfl, ho, hg⟩
        have h1 : LeafM.decE p = 0 := by unfold LeafM.decE; rw [hd]; rfl
        have h2 : LeafM.decL p = m := by unfold LeafM.decL; rw [hd]; rfl
        rw [h2] at ho
        obtain ⟨A, n, c, rfl⟩ := slice_of ho
        exact ⟨⟨A, n, c, by rw [h1], ho⟩, hg⟩
      obtain ⟨hd1, hd2⟩ := LeafM.dec_page hd
      have CE2 := Lib.hid (fun u W h1 h => CEnc2.out u m W h1 h)
      rw [hd1, hd2] at CE2
      clear hd hd1 hd2
      go_wp2_with (first
        | (go_at_call 12; (with_reducible refine (CDp.out _ G6.out).mono ?_); rintro e w7 ⟨⟨A9, n9, c9, rfl, ho⟩, g⟩; have P7 := Lib.hid (P6.out.grows g); have R7 := Lib.hid (R6.out.grows g); have V7 := Lib.hid (V6.out.grows g); have G7 := Lib.hid (G6.out.trans g); have U7 := Lib.hid ho; clear ho; clear g)
        | (go_at_call 10; (with_reducible refine (CE2.out _ _ U7.out.its G7.out).mono ?_); rintro e w8 ⟨rfl, g⟩; have P8 := Lib.hid (P7.out.grows g); have R8 := Lib.hid (R7.out.grows g); have V8 := Lib.hid (V7.out.grows g); have U8 := Lib.hid (U7.out.grows g); have G8 := Lib.hid (G7.out.trans g); clear g)
        | ((with_reducible refine wpList_store_page ?_ (.tmp 11) (.tmp 74) ?_ w8.heap.size p noughts ?_ ?_ ?_ ?_ ?_); exact rfl; exact rfl; exact rfl; exact rfl; exact HLP.out; exact PRow.new w8 noughts_length; intro w9 hp hg; have g := grown_fresh (W := w8) (W' := w9) rfl hg; have T9 := Lib.hid hp; have P9 := Lib.hid (P8.out.grows g); have R9 := Lib.hid (R8.out.grows g); have V9 := Lib.hid (V8.out.grows g); have U9 := Lib.hid (U8.out.grows g); have G9 := Lib.hid (G8.out.trans g); clear hp hg g)
        | ((with_reducible refine wpList_loadG_page (o := ⟨some 79, _, _, _, _, _⟩) ?_ (.tmp 11) ?_ w8.heap.size p ?_ ?_ ?_); exact rfl; exact rfl; exact rfl; exact T9.out)
        | ((with_reducible refine wpList_loadG_page (o := ⟨some 80, _, _, _, _, _⟩) ?_ (.tmp 3) ?_ w.heap.size p ?_ ?_ ?_); exact rfl; exact rfl; exact rfl; exact P9.out)
        | (go_at_call 9; (with_reducible refine (CWakes.out _ G9.out).mono ?_); rintro e w10 ⟨rfl, g⟩; have P10 := Lib.hid (P9.out.grows g); have R10 := Lib.hid (R9.out.grows g); have V10 := Lib.hid (V9.out.grows g); have U10 := Lib.hid (U9.out.grows g); have T10 := Lib.hid (T9.out.grows g); have G10 := Lib.hid (G9.out.trans g); clear g))
      go_ret
      exact ⟨rfl, G10.out⟩
  have hE := LeafM.enc_not hR
  rw [hR] at CRight
  rw [hE.1, hE.2, LeafM.blank_noughts] at CEnc
  clear hR hE
  go_enter Tryd.func4, Tryd.ntmps4
  go_wp2_with (first
    | (go_at_call 8; (with_reducible refine (CGreat.out _ G0.out).mono ?_); rintro e w1 ⟨rfl, g⟩; have P1 := Lib.hid (P0.out.grows g); have G1 := Lib.hid (G0.out.trans g); clear g)
    | (go_at_call 10; (with_reducible refine (CEnc.out _ G1.out).mono ?_); rintro e w2 ⟨rfl, g⟩; have P2 := Lib.hid (P1.out.grows g); have G2 := Lib.hid (G1.out.trans g); clear g)
    | ((with_reducible refine wpList_store_page ?_ (.tmp 5) (.tmp 19) ?_ w2.heap.size noughts noughts ?_ ?_ ?_ ?_ ?_); exact rfl; exact rfl; exact rfl; exact rfl; exact noughts_length; exact PRow.new w2 noughts_length; intro w3 hp hg; have g := grown_fresh (W := w2) (W' := w3) rfl hg; have R3 := Lib.hid hp; have P3 := Lib.hid (P2.out.grows g); have G3 := Lib.hid (G2.out.trans g); clear hp hg g)
    | (go_at_call 16; (with_reducible refine (CRight.out _ G3.out).mono ?_); rintro e w4 ⟨rfl, g⟩; have P4 := Lib.hid (P3.out.grows g); have R4 := Lib.hid (R3.out.grows g); have G4 := Lib.hid (G3.out.trans g); clear g)
    | ((with_reducible refine wpList_loadG_page (o := ⟨some 33, _, _, _, _, _⟩) ?_ (.tmp 5) ?_ w2.heap.size noughts ?_ ?_ ?_); exact rfl; exact rfl; exact rfl; exact R4.out)
    | ((with_reducible refine wpList_load_page (o := ⟨some 55, _, _, _, _, _⟩) ?_ (.tmp 3) ?_ w.heap.size p ?_ ?_ ?_); exact rfl; exact rfl; exact rfl; exact P4.out))
  cases hd : LeafM.dec p with
  | none =>
    have CDp : Hid (∀ W, Grows w W → Calls Tryd.prog 12 #[.agg (pageA p)] W fun e w' => (∃ A c, e = .returned (.tuple #[.slice A 0 c, .int .i64 50])) ∧ Grows W w') := fun W h => by
      refine (CDec.out p HLP.out W h).mono ?_
      rintro e w' ⟨u, rfl, ho, hg⟩
      have h1 : LeafM.decE p = 50 := by unfold LeafM.decE; rw [hd]; rfl
      have h2 : LeafM.decL p = [] := by unfold LeafM.decL; rw [hd]; rfl
      rw [h2] at ho
      obtain ⟨A, c, rfl, _⟩ := ho.form
      exact ⟨⟨A, c, by rw [h1]; rfl⟩, hg⟩
    clear hd
    go_wp2_with (first
      | (go_at_call 12; (with_reducible refine (CDp.out _ G4.out).mono ?_); rintro e w5 ⟨⟨A9, c9, rfl⟩, g⟩; have P5 := Lib.hid (P4.out.grows g); have R5 := Lib.hid (R4.out.grows g); have G5 := Lib.hid (G4.out.trans g); clear g)
      | (go_at_call 9; (with_reducible refine (CWakes.out _ G5.out).mono ?_); rintro e w6 ⟨rfl, g⟩; have P6 := Lib.hid (P5.out.grows g); have R6 := Lib.hid (R5.out.grows g); have G6 := Lib.hid (G5.out.trans g); clear g))
    go_ret
    exact ⟨rfl, G6.out⟩
  | some m =>
    have CDp : Hid (∀ W, Grows w W → Calls Tryd.prog 12 #[.agg (pageA p)] W fun e w' => (∃ A n c, e = .returned (.tuple #[.slice A n c, .int .i64 0]) ∧ OwnIts W.heap.size w' (.slice A n c) m) ∧ Grows W w') := fun W h => by
      refine (CDec.out p HLP.out W h).mono ?_
      rintro e w' ⟨u, rfl, ho, hg⟩
      have h1 : LeafM.decE p = 0 := by unfold LeafM.decE; rw [hd]; rfl
      have h2 : LeafM.decL p = m := by unfold LeafM.decL; rw [hd]; rfl
      rw [h2] at ho
      obtain ⟨A, n, c, rfl⟩ := slice_of ho
      exact ⟨⟨A, n, c, by rw [h1], ho⟩, hg⟩
    obtain ⟨hd1, hd2⟩ := LeafM.dec_page hd
    have CE2 := Lib.hid (fun u W h1 h => CEnc2.out u m W h1 h)
    rw [hd1, hd2] at CE2
    clear hd hd1 hd2
    go_wp2_with (first
      | (go_at_call 12; (with_reducible refine (CDp.out _ G4.out).mono ?_); rintro e w5 ⟨⟨A9, n9, c9, rfl, ho⟩, g⟩; have P5 := Lib.hid (P4.out.grows g); have R5 := Lib.hid (R4.out.grows g); have G5 := Lib.hid (G4.out.trans g); have U5 := Lib.hid ho; clear ho; clear g)
      | (go_at_call 10; (with_reducible refine (CE2.out _ _ U5.out.its G5.out).mono ?_); rintro e w6 ⟨rfl, g⟩; have P6 := Lib.hid (P5.out.grows g); have R6 := Lib.hid (R5.out.grows g); have U6 := Lib.hid (U5.out.grows g); have G6 := Lib.hid (G5.out.trans g); clear g)
      | ((with_reducible refine wpList_store_page ?_ (.tmp 11) (.tmp 74) ?_ w6.heap.size p noughts ?_ ?_ ?_ ?_ ?_); exact rfl; exact rfl; exact rfl; exact rfl; exact HLP.out; exact PRow.new w6 noughts_length; intro w7 hp hg; have g := grown_fresh (W := w6) (W' := w7) rfl hg; have T7 := Lib.hid hp; have P7 := Lib.hid (P6.out.grows g); have R7 := Lib.hid (R6.out.grows g); have U7 := Lib.hid (U6.out.grows g); have G7 := Lib.hid (G6.out.trans g); clear hp hg g)
      | ((with_reducible refine wpList_loadG_page (o := ⟨some 79, _, _, _, _, _⟩) ?_ (.tmp 11) ?_ w6.heap.size p ?_ ?_ ?_); exact rfl; exact rfl; exact rfl; exact T7.out)
      | ((with_reducible refine wpList_loadG_page (o := ⟨some 80, _, _, _, _, _⟩) ?_ (.tmp 3) ?_ w.heap.size p ?_ ?_ ?_); exact rfl; exact rfl; exact rfl; exact P7.out)
      | (go_at_call 9; (with_reducible refine (CWakes.out _ G7.out).mono ?_); rintro e w8 ⟨rfl, g⟩; have P8 := Lib.hid (P7.out.grows g); have R8 := Lib.hid (R7.out.grows g); have U8 := Lib.hid (U7.out.grows g); have T8 := Lib.hid (T7.out.grows g); have G8 := Lib.hid (G7.out.trans g); clear g))
    go_ret
    exact ⟨rfl, G8.out⟩
end Go.Proofs.YthdncpkmhodokaaDoor
