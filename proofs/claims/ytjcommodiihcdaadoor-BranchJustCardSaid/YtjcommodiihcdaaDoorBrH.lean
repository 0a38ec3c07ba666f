/- BranchJustOf BranchJustAny -/
import Derived.Test.YtjcommodiihcdaaDoorBrDecR
import Derived.Test.YtjcommodiihcdaaDoorBrB
import Derived.Test.YtjcommodiihcdaaDoorBrF
/- BranchJust: what the call answers, by the contracts of what it calls. -/
namespace Go.Proofs.YtjcommodiihcdaaDoor
open Go.RowKit
set_option linter.unusedVariables false
set_option linter.unusedSimpArgs false
set_option maxHeartbeats 8000000 in
set_option maxRecDepth 100000 in
theorem branchJust_of (p : List (BitVec 8)) (w : World) (hp : p.length = 256) (hW : ∀ W, Grows w W → Calls Tryd.prog 9 #[] W fun e w' => e = .returned (.bool true) ∧ Grows W w')
    (hD : ∀ W, Grows w W → Calls Tryd.prog 12 #[.agg (pageA p)] W fun e w' => ∃ v, e = .returned (.tuple #[v, .int .i64 (BrM.decE p)]) ∧ OwnKds W.heap.size w' v (BrM.decL p) ∧ Grows W w')
    (hE : ∀ v l W, Grows w W → Kds W.heap.size W v l → Calls Tryd.prog 10 #[v] W fun e w' => e = .returned (.tuple #[.agg (pageA (BrM.encP l)), .int .i64 (BrM.encE l)]) ∧ Grows W w')
    (hR : ∀ v l W, Grows w W → Kds W.heap.size W v l → Calls Tryd.prog 15 #[v] W fun e w' => e = .returned (.bool (BrM.right l)) ∧ Grows W w') :
    Calls Tryd.prog 5 #[.agg (pageA p)] w fun e w' => e = .returned (.bool true) ∧ Grows w w' := by
  have hz := fun w => zero_page w
  have R1 := Lib.hid (PRow.new w hp)
  have G1 := Lib.hid (Grows.alloc w (.cells (pageA p) 24))
  have HPL := Lib.hid hp
  have CD := Lib.hid (hD _ G1.out)
  have CE := Lib.hid hE; have CR := Lib.hid hR; have CW := Lib.hid hW
  clear hD hE hR hW
  by_cases he : BrM.decE p = 0
  case neg =>
    obtain ⟨e1, e2⟩ := BrM.dec_else he
    rw [e1, e2] at CD
    clear he e1 e2
    go_enter Tryd.func5, Tryd.ntmps5
    go_wp2_with (first
      | ((with_reducible refine wpList_load_page (o := ⟨some 8, _, _, _, _, _⟩) ?_ (.tmp 1) ?_ w.heap.size p ?_ ?_ ?_); exact rfl; exact rfl; exact rfl; exact R1.out)
      | (go_at_call 12; (with_reducible refine CD.out.mono ?_); rintro e w2 ⟨v, rfl, ho, g⟩; obtain ⟨A2, c2, rfl, _, _⟩ := ho.form; have G2 := Lib.hid (G1.out.trans g); clear ho g)
      | (go_at_call 9; (with_reducible refine (CW.out _ G2.out).mono ?_); rintro e w3 ⟨rfl, g⟩; have G3 := Lib.hid (G2.out.trans g); clear g))
    go_ret
    exact ⟨rfl, G3.out⟩
  obtain ⟨h1, h2, h3, h4⟩ := BrM.dec_just he
  rw [he] at CD
  have x1 : p[1]? = some (p[1]'(by omega)) := List.getElem?_eq_getElem (by omega)
  have hma : ((LeafM.many p : Nat) : Int) = bI (p[1]'(by omega)) := by unfold LeafM.many; rw [x1]; rfl
  have HC1 := Lib.hid (fun W (h : PRow W w.heap.size p) => (h.cell 1 _ x1).trans (by rw [← hma]))
  have CE2 := Lib.hid (fun v W (h : Grows w W) (hk : Kds (World.heap W).size W v (BrM.decL p)) => CE.out v (BrM.decL p) W h hk)
  have CR2 := Lib.hid (fun v W (h : Grows w W) (hk : Kds (World.heap W).size W v (BrM.decL p)) => CR.out v (BrM.decL p) W h hk)
  rw [h2, h3] at CE2
  rw [h1] at CR2
  have hM256 : LeafM.many p < 256 := by unfold LeafM.many; exact BitVec.isLt _
  have heq := fun W => page_is7 p p HPL.out HPL.out W
  simp only [decide_true] at heq
  rw [h4] at HC1 hM256
  generalize BrM.decL p = l at *
  have hwM : IntKind.i64.wrap (l.length : Int) = l.length := IntWalk.i64_in _ (by omega)
  clear he h1 h2 h3 h4 hma x1 CE CR hp
  go_enter Tryd.func5, Tryd.ntmps5
  go_wp2_with (first
    | ((with_reducible refine wpList_load_page (o := ⟨some 8, _, _, _, _, _⟩) ?_ (.tmp 1) ?_ w.heap.size p ?_ ?_ ?_); exact rfl; exact rfl; exact rfl; exact R1.out)
    | (go_at_call 12; (with_reducible refine CD.out.mono ?_); rintro e w2 ⟨v, rfl, ho, g⟩; have K2 := Lib.hid ho; obtain ⟨A2, c2, rfl, _, _⟩ := ho.form; have G2 := Lib.hid (G1.out.trans g); have R2 := Lib.hid (R1.out.grows g); clear ho g)
    | (go_at_call 10; (with_reducible refine (CE2.out _ _ G2.out K2.out.kds).mono ?_); rintro e w3 ⟨rfl, g⟩; have G3 := Lib.hid (G2.out.trans g); have R3 := Lib.hid (R2.out.grows g); have K3 := Lib.hid (K2.out.grows g); clear g)
    | ((with_reducible refine wpList_store_page ?_ (.tmp 5) (.tmp 27) ?_ w3.heap.size p noughts ?_ ?_ ?_ ?_ ?_); exact rfl; exact rfl; exact rfl; exact rfl; exact HPL.out; exact PRow.new w3 noughts_length; intro w4 hp4 hg4; have g := grown_fresh (W := w3) (W' := w4) rfl hg4; have N4 := Lib.hid hp4; have K4 := Lib.hid (K3.out.grows g); have G4 := Lib.hid (G3.out.trans g); have R4 := Lib.hid (R3.out.grows g); clear hp4 hg4 g)
    | ((with_reducible refine wpList_loadG_page7 (o := ⟨some 32, _, _, _, _, _⟩) ?_ (.tmp 5) ?_ w3.heap.size p ?_ ?_ ?_); exact rfl; exact rfl; exact rfl; exact N4.out)
    | ((with_reducible refine wpList_loadG_page7 (o := ⟨some 33, _, _, _, _, _⟩) ?_ (.tmp 1) ?_ w.heap.size p ?_ ?_ ?_); exact rfl; exact rfl; exact rfl; exact R4.out)
    | (go_at_call 15; (with_reducible refine (CR2.out _ _ G4.out K4.out.kds).mono ?_); rintro e w5 ⟨rfl, g⟩; have G5 := Lib.hid (G4.out.trans g); have cx := HC1.out _ (R4.out.grows g); clear g)
    | (go_at_call 9; (with_reducible refine (CW.out _ G5.out).mono ?_); rintro e w6 ⟨rfl, g⟩; have G6 := Lib.hid (G5.out.trans g); clear g))
  go_ret
  exact ⟨rfl, G6.out⟩
end Go.Proofs.YtjcommodiihcdaaDoor
/- BranchJust: what the call answers. -/
namespace Go.Proofs.YtjcommodiihcdaaDoor
open Go.RowKit
theorem branchJust_any (p : List (BitVec 8)) (w : World) (hp : p.length = 256) (hG : Glob w) :
    Calls Tryd.prog 5 #[.agg (pageA p)] w fun e w' => e = .returned (.bool true) ∧ Below w.heap.size w w' :=
  branchJust_of p w hp (fun W h => wakes7_any W (hG.grows h)) (fun W h => decode7_any p W hp (hG.grows h)) (fun v l W h hk => encode7_any v l W hk (hG.grows h)) (fun v l W _ hk => right7_any v l W hk)
end Go.Proofs.YtjcommodiihcdaaDoor
