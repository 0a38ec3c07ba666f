/- BrDecO -/
import Derived.Test.YtjcommodiihcdaaDoorBrCollect
import Derived.Test.YtjcommodiihcdaaDoorBrE
import Derived.Test.YtjcommodiihcdaaDoorBrDecR
import Derived.Test.YtjcommodiihcdaaDoorBaseB
/- Layer 7's own Decode: the kids whose page it is. -/
namespace Go.Proofs.YtjcommodiihcdaaDoor
open Go.RowKit
set_option linter.unusedVariables false
set_option linter.unusedSimpArgs false
theorem BrM.dec_yes {p : List (BitVec 8)} {l : List Kd} (h : BrM.Coll (LeafM.many p) (p.drop 2) l) (hc : BrM.encE l = 0 ∧ BrM.encP l = p) : BrM.decE p = 0 ∧ BrM.decL p = l :=
  BrM.dec_some (by rw [BrM.dec_coll h, if_pos hc])
theorem BrM.dec_no {p : List (BitVec 8)} {l : List Kd} (h : BrM.Coll (LeafM.many p) (p.drop 2) l) (hc : ¬ (BrM.encE l = 0 ∧ BrM.encP l = p)) : BrM.decE p = 50 ∧ BrM.decL p = [] :=
  BrM.dec_none (by rw [BrM.dec_coll h, if_neg hc])
set_option maxRecDepth 100000 in
set_option maxHeartbeats 4000000 in
theorem decode7_any (p : List (BitVec 8)) (w : World) (hp : p.length = 256) (hG : Glob w) :
    Calls Tryd.prog 12 #[.agg (pageA p)] w fun e w' => ∃ v, e = .returned (.tuple #[v, .int .i64 (BrM.decE p)]) ∧ OwnKds w.heap.size w' v (BrM.decL p) ∧ Grows w w' := by
  have hz := fun w => zero_page w
  have R1 := Lib.hid (PRow.new w hp)
  have G1 := Lib.hid (Grows.alloc w (.cells (pageA p) 24))
  have R2 : Hid (PRow ((w.alloc (.cells (pageA p) 24)).alloc (.cells (pageA p) 24)) (w.heap.size + 1) p) := by
    have := PRow.new (w.alloc (.cells (pageA p) 24)) hp
    rwa [World.size_alloc] at this
  have R1' := Lib.hid (R1.out.alloc (.cells (pageA p) 24))
  have G2 := Lib.hid (G1.out.trans (Grows.alloc _ (.cells (pageA p) 24)))
  have HIt := Lib.hid (fun W => kids_any p W)
  have HCo := Lib.hid (kcollect_any (w.heap.size + 1) p _ R2.out (hG.grows G2.out))
  have HGl := Lib.hid hG; have HPL := Lib.hid hp
  clear hp hG
  go_enter Tryd.func12, Tryd.ntmps12
  go_wp2_with (first
    | ((with_reducible refine wpList_load_page (o := ⟨some 7, _, _, _, _, _⟩) ?_ (.tmp 1) ?_ w.heap.size p ?_ ?_ ?_); exact rfl; exact rfl; exact rfl; exact R1.out)
    | (go_at_call 30; (with_reducible refine (HIt.out _).mono ?_); rintro e w2 ⟨rfl, rfl⟩)
    | (go_at_call 29; (with_reducible refine HCo.out.mono ?_); rintro e w3 ⟨v, l, rfl, hc, ho, hg⟩; obtain ⟨A3, n3, c3, rfl⟩ : ∃ A n c, v = .slice A n c := (by obtain ⟨A, c, e, _⟩ := ho.form; exact ⟨A, _, c, e⟩); have C3 := Lib.hid hc; have O3 := Lib.hid (ho.more (show w.heap.size ≤ _ from G2.out.size)); have G3 := Lib.hid (G2.out.trans hg); have R3 := Lib.hid (R1'.out.grows hg); have HEn := Lib.hid (encode7_any _ l w3 O3.out.kds (HGl.out.grows G3.out)); have HFL := Lib.hid (BrM.encP_len l); have HYes := Lib.hid (fun h => BrM.dec_yes C3.out h); have HNo := Lib.hid (fun h => BrM.dec_no C3.out h); clear hc ho hg; generalize BrM.encP l = ep at *; generalize BrM.encE l = ee at *)
    | (go_at_call 10; (with_reducible refine HEn.out.mono ?_); rintro e w4 ⟨rfl, hg⟩; have O4 := Lib.hid (O3.out.grows hg); have G4 := Lib.hid (G3.out.trans hg); have R4 := Lib.hid (R3.out.grows hg); have N4 := Lib.hid (PRow.new w4 noughts_length); clear hg)
    | ((with_reducible refine wpList_store_page ?_ (.tmp 5) (.tmp 13) ?_ w4.heap.size ep noughts ?_ ?_ ?_ ?_ ?_); exact rfl; exact rfl; exact rfl; exact rfl; exact HFL.out; exact N4.out; intro w5 hp5 hg5; have g := grown_fresh (W := w4) (W' := w5) rfl hg5; have N5 := Lib.hid hp5; have O5 := Lib.hid (O4.out.grows g); have G5 := Lib.hid (G4.out.trans g); have R5 := Lib.hid (R4.out.grows g); clear hp5 hg5 g))
  by_cases he : ee = 0
  · by_cases hq : ep = p
    · have hY := Lib.hid (HYes.out ⟨he, hq⟩)
      subst he
      have heq := page_is7 ep p HFL.out HPL.out w5
      rw [decide_eq_true hq] at heq
      clear hq
      go_wp2_with (first
        | ((with_reducible refine wpList_loadG_page7 (o := ⟨some 18, _, _, _, _, _⟩) ?_ (.tmp 5) ?_ w4.heap.size ep ?_ ?_ ?_); exact rfl; exact rfl; exact rfl; exact N5.out)
        | ((with_reducible refine wpList_loadG_page7 (o := ⟨some 19, _, _, _, _, _⟩) ?_ (.tmp 1) ?_ w.heap.size p ?_ ?_ ?_); exact rfl; exact rfl; exact rfl; exact R5.out))
      refine bodyPost_ret (results_two7 (p := 2) (q := 3) (by exact rfl) _ _ _ (by exact rfl) (by exact rfl)) rfl ?_
      exact ⟨_, by rw [hY.out.1]; rfl, by rw [hY.out.2]; exact O5.out, G5.out⟩
    · have hN := Lib.hid (HNo.out (fun h => hq h.2))
      subst he
      have heq := page_is7 ep p HFL.out HPL.out w5
      rw [decide_eq_false hq] at heq
      clear hq
      go_wp2_with (first
        | ((with_reducible refine wpList_loadG_page7 (o := ⟨some 18, _, _, _, _, _⟩) ?_ (.tmp 5) ?_ w4.heap.size ep ?_ ?_ ?_); exact rfl; exact rfl; exact rfl; exact N5.out)
        | ((with_reducible refine wpList_loadG_page7 (o := ⟨some 19, _, _, _, _, _⟩) ?_ (.tmp 1) ?_ w.heap.size p ?_ ?_ ?_); exact rfl; exact rfl; exact rfl; exact R5.out))
      refine bodyPost_ret (results_two7 (p := 2) (q := 3) (by exact rfl) _ _ _ (by exact rfl) (by exact rfl)) rfl ?_
      exact ⟨_, by rw [hN.out.1]; rfl, by rw [hN.out.2]; exact OwnKds.nil _ _, G5.out⟩
  · have hN := Lib.hid (HNo.out (fun h => he h.1))
    have hb : (ee != 0) = true := by simpa using he
    go_wp2
    refine bodyPost_ret (results_two7 (p := 2) (q := 3) (by exact rfl) _ _ _ (by exact rfl) (by exact rfl)) rfl ?_
    exact ⟨_, by rw [hN.out.1]; rfl, by rw [hN.out.2]; exact OwnKds.nil _ _, G5.out⟩
end Go.Proofs.YtjcommodiihcdaaDoor
