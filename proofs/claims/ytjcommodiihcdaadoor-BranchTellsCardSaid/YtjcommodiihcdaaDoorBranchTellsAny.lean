/- BranchTellsAny -/
import Derived.Test.YtjcommodiihcdaaDoorBrF
import Derived.Test.YtjcommodiihcdaaDoorBrDecR
import Derived.Test.YtjcommodiihcdaaDoorBrD
import Derived.Test.YtjcommodiihcdaaDoorBrB
/- BranchTells: what the call answers. -/
namespace Go.Proofs.YtjcommodiihcdaaDoor
open Go.RowKit
set_option linter.unusedVariables false
set_option linter.unusedSimpArgs false
set_option maxHeartbeats 8000000 in
set_option maxRecDepth 100000 in
theorem branchTells_any (v : Value) (l : List Kd) (u : Value) (m : List Kd) (p : List (BitVec 8)) (w : World) (hv : Kds w.heap.size w v l) (hu : Kds w.heap.size w u m) (hp : p.length = 256) (hG : Glob w) :
    Calls Tryd.prog 3 #[v, u, .agg (pageA p)] w fun e w' => e = .returned (.bool true) ∧ Below w.heap.size w w' := by
  have hz := fun w => zero_page w
  have P0 := Lib.hid (PRow.new w hp)
  have G0 := Lib.hid (Grows.alloc w (.cells (pageA p) 24))
  have CGl := Lib.hid (fun W (h : Grows w W) => rgreat7_any v l W (hv.grows h))
  have CGm := Lib.hid (fun W (h : Grows w W) => rgreat7_any u m W (hu.grows h))
  have CWakes := Lib.hid (fun W (h : Grows w W) => wakes7_any W (hG.grows h))
  have CEnc := Lib.hid (fun W (h : Grows w W) => encode7_any v l W (hv.grows h) (hG.grows h))
  have CEncR := Lib.hid (fun W (h : Grows w W) => rencode7_any v l W (hv.grows h))
  have CDec := Lib.hid (fun W (h : Grows w W) => decode7_any p W hp (hG.grows h))
  have CDecR := Lib.hid (fun W (h : Grows w W) => rdecode7_any p W hp)
  have CRi := Lib.hid (fun W (h : Grows w W) => right7_any v l W (hv.grows h))
  have CRiR := Lib.hid (fun W (h : Grows w W) => rrights7_any v l W (hv.grows h))
  have CSa := Lib.hid (fun W (h : Grows w W) => same7_any_o v u l m W (hv.grows h) (hu.grows h))
  have CSaR := Lib.hid (fun W (h : Grows w W) => same7_any v u l m W (hv.grows h) (hu.grows h))
  have CSd := Lib.hid (fun a b W (ha : Kds (World.heap W).size W a (BrM.decL p)) (hb : Kds (World.heap W).size W b (BrM.decL p)) => same7_any a b _ _ W ha hb)
  have CSo := Lib.hid (fun a W (h : Grows w W) (ha : Kds (World.heap W).size W a l) => same7_any a v l l W ha (hv.grows h))
  have CBi := Lib.hid (fun W (h : Grows w W) => birth7_any v l W (hv.grows h))
  have CBiR := Lib.hid (fun W (h : Grows w W) => rbirth7_any v l W (hv.grows h))
  simp only [decide_true] at CSd CSo
  have HPL := Lib.hid (BrM.encP_len l)
  have hpp := page_is7 (BrM.encP l) (BrM.encP l) HPL.out HPL.out
  simp only [decide_true] at hpp
  have HIt := Lib.hid hv
  obtain ⟨A, cap, rfl, _, _⟩ := hv.form
  obtain ⟨A', cap', rfl, _, _⟩ := hu.form
  clear hv hu hp hG
  cases hgr : BrM.great l
  case true =>
    rw [hgr] at CGl
    clear hgr
    go_enter Tryd.func3, Tryd.ntmps3
    go_wp2_with (first
      | (go_at_call 8; (with_reducible refine (CGl.out _ G0.out).mono ?_); rintro e w1 ⟨rfl, g⟩; have P1 := Lib.hid (P0.out.grows g); have G1 := Lib.hid (G0.out.trans g); clear g)
      | (go_at_call 9; (with_reducible refine (CWakes.out _ G1.out).mono ?_); rintro e w2 ⟨rfl, g⟩; have P2 := Lib.hid (P1.out.grows g); have G2 := Lib.hid (G1.out.trans g); clear g))
    go_ret
    exact ⟨rfl, G2.out⟩
  rw [hgr] at CGl
  cases hgm : BrM.great m
  case true =>
    rw [hgm] at CGm
    clear hgr hgm
    go_enter Tryd.func3, Tryd.ntmps3
    go_wp2_with (first
      | (go_at_call 8; (with_reducible refine (CGl.out _ G0.out).mono ?_); rintro e w1 ⟨rfl, g⟩; have P1 := Lib.hid (P0.out.grows g); have G1 := Lib.hid (G0.out.trans g); clear g)
      | (go_at_call 8; (with_reducible refine (CGm.out _ G1.out).mono ?_); rintro e w2 ⟨rfl, g⟩; have P2 := Lib.hid (P1.out.grows g); have G2 := Lib.hid (G1.out.trans g); clear g)
      | (go_at_call 9; (with_reducible refine (CWakes.out _ G2.out).mono ?_); rintro e w3 ⟨rfl, g⟩; have P3 := Lib.hid (P2.out.grows g); have G3 := Lib.hid (G2.out.trans g); clear g))
    go_ret
    exact ⟨rfl, G3.out⟩
  rw [hgm] at CGm
  obtain ⟨hl20, hsz⟩ := BrM.great_false hgr
  have COwn := Lib.hid (fun W (h : Grows w W) => own7_any (.slice A l.length cap) l W (HIt.out.grows h) (by omega) (fun x hx => by have := hsz x hx; omega))
  clear hgr hgm hl20 hsz HIt
  generalize BrM.decL p = dl at *
  generalize BrM.decE p = de at *
  generalize BrM.encP l = ep at *
  generalize BrM.encE l = ee at *
  generalize BrM.right l = tr at *
  generalize BrM.birth l = bt at *
  generalize decide (l = m) = ts at *
  go_enter Tryd.func3, Tryd.ntmps3
  go_wp2_with (first
    | (go_at_call 8; (with_reducible refine (CGl.out _ G0.out).mono ?_); rintro e w1 ⟨rfl, g⟩; have P1 := Lib.hid (P0.out.grows g); have G1 := Lib.hid (G0.out.trans g); clear g)
    | (go_at_call 8; (with_reducible refine (CGm.out _ G1.out).mono ?_); rintro e w2 ⟨rfl, g⟩; have P2 := Lib.hid (P1.out.grows g); have G2 := Lib.hid (G1.out.trans g); clear g)
    | (go_at_call 10; (with_reducible refine (CEnc.out _ G2.out).mono ?_); rintro e w3 ⟨rfl, g⟩; have P3 := Lib.hid (P2.out.grows g); have G3 := Lib.hid (G2.out.trans g); clear g)
    | ((with_reducible refine wpList_store_page ?_ (.tmp 7) (.tmp 25) ?_ w3.heap.size ep noughts ?_ ?_ ?_ ?_ ?_); exact rfl; exact rfl; exact rfl; exact rfl; exact HPL.out; exact PRow.new w3 noughts_length; intro w4 hp hg; have g := grown_fresh (W := w3) (W' := w4) rfl hg; have R4 := Lib.hid hp; have P4 := Lib.hid (P3.out.grows g); have G4 := Lib.hid (G3.out.trans g); clear hp hg g)
    | (go_at_call 11; (with_reducible refine (CEncR.out _ G4.out).mono ?_); rintro e w5 ⟨rfl, g⟩; have P5 := Lib.hid (P4.out.grows g); have R5 := Lib.hid (R4.out.grows g); have G5 := Lib.hid (G4.out.trans g); clear g)
    | ((with_reducible refine wpList_store_page ?_ (.tmp 9) (.tmp 30) ?_ w5.heap.size ep noughts ?_ ?_ ?_ ?_ ?_); exact rfl; exact rfl; exact rfl; exact rfl; exact HPL.out; exact PRow.new w5 noughts_length; intro w6 hp hg; have g := grown_fresh (W := w5) (W' := w6) rfl hg; have S6 := Lib.hid hp; have P6 := Lib.hid (P5.out.grows g); have R6 := Lib.hid (R5.out.grows g); have G6 := Lib.hid (G5.out.trans g); clear hp hg g)
    | ((with_reducible refine wpList_load_page (o := ⟨some 33, _, _, _, _, _⟩) ?_ (.tmp 5) ?_ w.heap.size p ?_ ?_ ?_); exact rfl; exact rfl; exact rfl; exact P6.out)
    | (go_at_call 12; (with_reducible refine (CDec.out _ G6.out).mono ?_); rintro e w7 ⟨cv, rfl, ho, g⟩; have P7 := Lib.hid (P6.out.grows g); have R7 := Lib.hid (R6.out.grows g); have S7 := Lib.hid (S6.out.grows g); have G7 := Lib.hid (G6.out.trans g); obtain ⟨Ac, nc, cc, rfl⟩ := ho.slice; have U7 := Lib.hid ho; clear ho; clear g)
    | ((with_reducible refine wpList_load_page (o := ⟨some 38, _, _, _, _, _⟩) ?_ (.tmp 5) ?_ w.heap.size p ?_ ?_ ?_); exact rfl; exact rfl; exact rfl; exact P7.out)
    | (go_at_call 13; (with_reducible refine (CDecR.out _ G7.out).mono ?_); rintro e w8 ⟨dv, rfl, ho, g⟩; have P8 := Lib.hid (P7.out.grows g); have R8 := Lib.hid (R7.out.grows g); have S8 := Lib.hid (S7.out.grows g); have U8 := Lib.hid (U7.out.grows g); have G8 := Lib.hid (G7.out.trans g); obtain ⟨Ad, nd, cd, rfl⟩ := ho.slice; have V8 := Lib.hid ho; clear ho; clear g)
    | ((with_reducible refine wpList_load_page (o := ⟨some 42, _, _, _, _, _⟩) ?_ (.tmp 7) ?_ w3.heap.size ep ?_ ?_ ?_); exact rfl; exact rfl; exact rfl; exact R8.out)
    | ((with_reducible refine wpList_load_page (o := ⟨some 43, _, _, _, _, _⟩) ?_ (.tmp 9) ?_ w5.heap.size ep ?_ ?_ ?_); exact rfl; exact rfl; exact rfl; exact S8.out)
    | (go_at_call 14; (with_reducible refine (CSd.out _ _ _ U8.out.kds V8.out.kds).mono ?_); rintro e w9 ⟨rfl, g⟩; have P9 := Lib.hid (P8.out.grows g); have R9 := Lib.hid (R8.out.grows g); have S9 := Lib.hid (S8.out.grows g); have U9 := Lib.hid (U8.out.grows g); have V9 := Lib.hid (V8.out.grows g); have G9 := Lib.hid (G8.out.trans g); clear g)
    | (go_at_call 15; (with_reducible refine (CRi.out _ G9.out).mono ?_); rintro e w10 ⟨rfl, g⟩; have P10 := Lib.hid (P9.out.grows g); have R10 := Lib.hid (R9.out.grows g); have S10 := Lib.hid (S9.out.grows g); have U10 := Lib.hid (U9.out.grows g); have V10 := Lib.hid (V9.out.grows g); have G10 := Lib.hid (G9.out.trans g); clear g)
    | (go_at_call 16; (with_reducible refine (CRiR.out _ G10.out).mono ?_); rintro e w11 ⟨rfl, g⟩; have P11 := Lib.hid (P10.out.grows g); have R11 := Lib.hid (R10.out.grows g); have S11 := Lib.hid (S10.out.grows g); have U11 := Lib.hid (U10.out.grows g); have V11 := Lib.hid (V10.out.grows g); have G11 := Lib.hid (G10.out.trans g); clear g)
    | (go_at_call 17; (with_reducible refine (CSa.out _ G11.out).mono ?_); rintro e w12 ⟨rfl, g⟩; have P12 := Lib.hid (P11.out.grows g); have R12 := Lib.hid (R11.out.grows g); have S12 := Lib.hid (S11.out.grows g); have U12 := Lib.hid (U11.out.grows g); have V12 := Lib.hid (V11.out.grows g); have G12 := Lib.hid (G11.out.trans g); clear g)
    | (go_at_call 14; (with_reducible refine (CSaR.out _ G12.out).mono ?_); rintro e w13 ⟨rfl, g⟩; have P13 := Lib.hid (P12.out.grows g); have R13 := Lib.hid (R12.out.grows g); have S13 := Lib.hid (S12.out.grows g); have U13 := Lib.hid (U12.out.grows g); have V13 := Lib.hid (V12.out.grows g); have G13 := Lib.hid (G12.out.trans g); clear g)
    | (go_at_call 18; (with_reducible refine (COwn.out _ G13.out).mono ?_); rintro e w14 ⟨ov, rfl, ho, g⟩; have P14 := Lib.hid (P13.out.grows g); have R14 := Lib.hid (R13.out.grows g); have S14 := Lib.hid (S13.out.grows g); have U14 := Lib.hid (U13.out.grows g); have V14 := Lib.hid (V13.out.grows g); have G14 := Lib.hid (G13.out.trans g); obtain ⟨Ao, no, co, rfl⟩ := ho.slice; have O14 := Lib.hid ho; clear ho; clear g)
    | (go_at_call 14; (with_reducible refine (CSo.out _ _ G14.out O14.out.kds).mono ?_); rintro e w15 ⟨rfl, g⟩; have P15 := Lib.hid (P14.out.grows g); have R15 := Lib.hid (R14.out.grows g); have S15 := Lib.hid (S14.out.grows g); have U15 := Lib.hid (U14.out.grows g); have V15 := Lib.hid (V14.out.grows g); have O15 := Lib.hid (O14.out.grows g); have G15 := Lib.hid (G14.out.trans g); clear g)
    | (go_at_call 19; (with_reducible refine (CBi.out _ G15.out).mono ?_); rintro e w16 ⟨rfl, g⟩; have P16 := Lib.hid (P15.out.grows g); have R16 := Lib.hid (R15.out.grows g); have S16 := Lib.hid (S15.out.grows g); have U16 := Lib.hid (U15.out.grows g); have V16 := Lib.hid (V15.out.grows g); have O16 := Lib.hid (O15.out.grows g); have G16 := Lib.hid (G15.out.trans g); clear g)
    | (go_at_call 20; (with_reducible refine (CBiR.out _ G16.out).mono ?_); rintro e w17 ⟨rfl, g⟩; have P17 := Lib.hid (P16.out.grows g); have R17 := Lib.hid (R16.out.grows g); have S17 := Lib.hid (S16.out.grows g); have U17 := Lib.hid (U16.out.grows g); have V17 := Lib.hid (V16.out.grows g); have O17 := Lib.hid (O16.out.grows g); have G17 := Lib.hid (G16.out.trans g); clear g)
    | (go_at_call 9; (with_reducible refine (CWakes.out _ G17.out).mono ?_); rintro e w18 ⟨rfl, g⟩; have P18 := Lib.hid (P17.out.grows g); have R18 := Lib.hid (R17.out.grows g); have S18 := Lib.hid (S17.out.grows g); have U18 := Lib.hid (U17.out.grows g); have V18 := Lib.hid (V17.out.grows g); have O18 := Lib.hid (O17.out.grows g); have G18 := Lib.hid (G17.out.trans g); clear g))
  go_ret
  exact ⟨rfl, G18.out⟩
end Go.Proofs.YtjcommodiihcdaaDoor
