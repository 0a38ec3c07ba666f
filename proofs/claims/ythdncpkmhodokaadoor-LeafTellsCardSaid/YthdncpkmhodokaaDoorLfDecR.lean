/- LfDecR -/
import Derived.Test.YthdncpkmhodokaaDoorLfEncR
import Derived.Test.YthdncpkmhodokaaDoorLfItem
import Derived.Test.YthdncpkmhodokaaDoorLfDecO
/- The document's Decode for layer 6. -/
namespace Go.Proofs.YthdncpkmhodokaaDoor
open Go.RowKit
set_option linter.unusedVariables false
set_option linter.unusedSimpArgs false
attribute [local go_sem high] sliced_cut
namespace LeafM
theorem dec_first {p : List (BitVec 8)} (h : ¬ first p = 1) : decE p = 50 ∧ decL p = [] := by
  have : dec p = none := by unfold dec; rw [if_pos (Or.inl h)]
  unfold decE decL
  rw [this]
  exact ⟨rfl, rfl⟩
theorem dec_many {p : List (BitVec 8)} (h : 6 < many p) : decE p = 50 ∧ decL p = [] := by
  have : dec p = none := by unfold dec; rw [if_pos (Or.inr h)]
  unfold decE decL
  rw [this]
  exact ⟨rfl, rfl⟩
theorem dec_lost {p : List (BitVec 8)} {k : Nat} {l : List It} {r : List (BitVec 8)} (hk : k < many p) (h : items k (p.drop 2) = some (l, r)) (hr : item r = none) : decE p = 50 ∧ decL p = [] := by
  have hi : items (many p) (p.drop 2) = none := by
    obtain ⟨d, hd⟩ : ∃ d, many p = k + 1 + d := ⟨many p - (k + 1), by omega⟩
    rw [hd]
    exact items_stop h hr d
  have : dec p = none := by
    unfold dec
    split
    · rfl
    · rw [hi]
  unfold decE decL
  rw [this]
  exact ⟨rfl, rfl⟩
theorem dec_got {p : List (BitVec 8)} {l : List It} {r : List (BitVec 8)} (h1 : first p = 1) (h6 : ¬ 6 < many p) (h : items (many p) (p.drop 2) = some (l, r)) :
    ((encE l = 0 ∧ encP l = p) → decE p = 0 ∧ decL p = l) ∧ (¬ (encE l = 0 ∧ encP l = p) → decE p = 50 ∧ decL p = []) := by
  have hd : dec p = if encE l = 0 ∧ encP l = p then some l else none := by
    unfold dec
    rw [if_neg (by omega), h]
  unfold decE decL
  rw [hd]
  exact ⟨fun h => by rw [if_pos h]; exact ⟨rfl, rfl⟩, fun h => by rw [if_neg h]; exact ⟨rfl, rfl⟩⟩
end LeafM
theorem its_slice {base : Nat} {W : World} {v : Value} {l : List It} (h : OwnIts base W v l) : ∃ A n c, v = .slice A n c := by
  obtain ⟨A, c, e, _⟩ := h.form; exact ⟨A, _, c, e⟩
theorem item_len {b : List (BitVec 8)} {x : It} {q : List (BitVec 8)} (h : LeafM.item b = some (x, q)) : q.length ≤ b.length := by
  unfold LeafM.item at h
  split at h
  · split at h
    · split at h
      · cases h
        exact Nat.le_trans (tbR_len _ _) (Nat.le_trans (takeR_len _ _) (tbR_len _ _))
      · cases h
    · split at h
      · cases h
        refine Nat.le_trans ?_ (Nat.le_trans (takeR_len (PackM.takeR (PackM.tbR b 8) 1) 2) (Nat.le_trans (takeR_len (PackM.tbR b 8) 1) (tbR_len b 8)))
        unfold PtM.takeR
        split
        · exact Nat.le_refl _
        · rw [List.length_drop]; omega
      · cases h
  · cases h
set_option maxRecDepth 100000 in
set_option maxHeartbeats 8000000 in
theorem rdecode6_any (p : List (BitVec 8)) (w : World) (hp : p.length = 256) :
    Calls Tryd.prog 13 #[.agg (pageA p)] w fun e w' => ∃ v, e = .returned (.tuple #[v, .int .i64 (LeafM.decE p)]) ∧ OwnIts w.heap.size w' v (LeafM.decL p) ∧ Grows w w' := by
  have hz := fun w => zero_page w
  have R1 := Lib.hid (PRow.new w hp)
  have G1 := Lib.hid (Grows.alloc w (.cells (pageA p) 24))
  have HPL := Lib.hid hp
  have x0 : p[0]? = some (p[0]'(by omega)) := List.getElem?_eq_getElem (by omega)
  have x1 : p[1]? = some (p[1]'(by omega)) := List.getElem?_eq_getElem (by omega)
  have hfi : ((LeafM.first p : Nat) : Int) = bI (p[0]'(by omega)) := by unfold LeafM.first; rw [x0]; rfl
  have hma : ((LeafM.many p : Nat) : Int) = bI (p[1]'(by omega)) := by unfold LeafM.many; rw [x1]; rfl
  have c0 := R1.out.cell 0 _ x0
  have c1 := R1.out.cell 1 _ x1
  have HX1 := Lib.hid x1
  have hM256 : LeafM.many p < 256 := by unfold LeafM.many; exact BitVec.isLt _
  have HF1 := Lib.hid (LeafM.dec_first (p := p)); have HF2 := Lib.hid (LeafM.dec_many (p := p))
  have HF3 := Lib.hid (fun k l r h1 h2 h3 => LeafM.dec_lost (p := p) (k := k) (l := l) (r := r) h1 h2 h3)
  have HF4 := Lib.hid (fun l r h1 h2 h3 => LeafM.dec_got (p := p) (l := l) (r := r) h1 h2 h3)
  rw [← hfi] at c0
  rw [← hma] at c1
  have HC1 := Lib.hid (fun W (h : PRow W w.heap.size p) => (h.cell 1 _ HX1.out).trans (by rw [← hma]))
  have HL0 : Hid ((p.drop 2).length ≤ 900000) := by unfold Hid; rw [List.length_drop]; omega
  have HB0 : Hid (Bytes (w.heap.size + 1) (w.alloc (.cells (pageA p) 24)) (.slice (some ⟨w.heap.size, 2, none⟩) 254 254) (p.drop 2)) := by
    refine ⟨some ⟨w.heap.size, 2, none⟩, 254, by simp [hp], by simp [hp], by decide, fun _ => ⟨w.heap.size, 2, rfl, Nat.lt_succ_self _, fun j u hu => ?_⟩⟩
    rw [List.getElem?_map] at hu
    obtain ⟨x, hx, rfl⟩ := Option.map_eq_some_iff.1 hu
    rw [List.getElem?_drop] at hx
    exact R1.out.cell (2 + j) x hx
  clear hp x0 x1 hfi hma HX1
  generalize hfp : LeafM.first p = fp at *
  generalize hmp : LeafM.many p = M at *
  clear hfp hmp
  by_cases h1 : fp = 1
  case neg =>
    have hN := Lib.hid (HF1.out h1)
    have hb1 : ((fp : Int) != 1) = true := by simp; omega
    have hb2 : ((fp : Int) == 1) = false := by simp; omega
    go_enter Tryd.func13, Tryd.ntmps13
    go_wp2
    refine bodyPost_ret (results_two (p := 2) (q := 3) (by exact rfl) _ _ _ (by exact rfl) (by exact rfl)) rfl ?_
    exact ⟨_, by rw [hN.out.1]; rfl, by rw [hN.out.2]; exact OwnIts.nil _ _, G1.out⟩
  subst h1
  by_cases h2 : 6 < M
  case pos =>
    have hN := Lib.hid (HF2.out h2)
    have h2' : (6 : Int) < M := by omega
    have hwM : IntKind.i64.wrap (M : Int) = M := IntWalk.i64_in _ (by omega)
    go_enter Tryd.func13, Tryd.ntmps13
    go_wp2
    refine bodyPost_ret (results_two (p := 2) (q := 3) (by exact rfl) _ _ _ (by exact rfl) (by exact rfl)) rfl ?_
    exact ⟨_, by rw [hN.out.1]; rfl, by rw [hN.out.2]; exact OwnIts.nil _ _, G1.out⟩
  have h2' : ¬ (6 : Int) < M := by omega
  have hwM : IntKind.i64.wrap (M : Int) = M := IntWalk.i64_in _ (by omega)
  have HM6 := Lib.hid h2
  have HI0 : Hid (LeafM.items 0 (p.drop 2) = some ([], p.drop 2)) := rfl
  go_enter Tryd.func13, Tryd.ntmps13
  go_wp2
  go_loopw [4, 5, 6, 7, 8, 9] (fun out b i _ _ _ wr => ∃ (k : Nat) (l : List It) (r : List (BitVec 8)), k ≤ M ∧ i = .int .i64 k ∧ LeafM.items k (p.drop 2) = some (l, r) ∧ r.length ≤ 900000 ∧ OwnIts (w.heap.size + 1) wr out l ∧ Bytes (w.heap.size + 1) wr b r ∧ PRow wr w.heap.size p ∧ Grows w wr) (fun _ _ i _ _ _ _ => M - (intOf i).toNat)
  case atStart => exact ⟨0, [], _, Nat.zero_le _, rfl, HI0.out, HL0.out, OwnIts.nil _ _, HB0.out, R1.out, G1.out⟩
  case round =>
    obtain ⟨k, l, r, hk, rfl, hit, hrl, ho, hb, hr, hg⟩ := hrel
    have HIt := Lib.hid hit; have HRl := Lib.hid hrl; have HO := Lib.hid ho; have HBy := Lib.hid hb; have HR := Lib.hid hr; have HG := Lib.hid hg
    have cw1 := HC1.out _ hr
    have HBs : Hid (w.heap.size + 1 ≤ wr.heap.size) := hr.lt
    obtain ⟨Ak, nk, ck, rfl⟩ := its_slice ho
    have hll := LeafM.items_len _ _ _ _ hit
    have HLL := Lib.hid hll
    clear hit hrl ho hb hr hg hll
    by_cases hlt : k < M
    · have hlt' : (k : Int) < M := by omega
      have CIt := Lib.hid (ritemB_any (B := w.heap.size + 1) u5 r wr HBs.out HBy.out HRl.out)
      cases hi : LeafM.item r with
      | none =>
        have hN := Lib.hid (HF3.out k l r hlt HIt.out hi)
        have CI2 : Hid (Calls Tryd.prog 28 #[u5] wr fun e w' => (∃ q rest, e = .returned (.tuple #[.agg (rawA q), rest, .bool false])) ∧ Grows wr w') := by
          refine CIt.out.mono ?_
          rintro e w' ⟨q, rest, ok, rfl, ⟨h1, _⟩, hg⟩
          rw [hi] at h1
          exact ⟨⟨q, rest, by rw [h1]; rfl⟩, hg⟩
        clear hi CIt
        go_wp2_with (first
          | (go_at_call 28; (with_reducible refine CI2.out.mono ?_); rintro e w3 ⟨⟨q, rest, rfl⟩, hg⟩; have G3 := Lib.hid (HG.out.trans hg); have Z3 := Lib.hid (Row.new w3 45 (rawA noR)); clear hg)
          | ((with_reducible refine wpList_store_it ?_ (.tmp 7) (.tmp 32) ?_ w3.heap.size q (rawA noR) ?_ ?_ ?_ ?_ ?_); exact rfl; exact rfl; exact rfl; exact rfl; exact rfl; exact Z3.out; intro w4 hp4 hg4; have G4 := Lib.hid (G3.out.trans (grown_fresh (W := w3) (W' := w4) rfl hg4)); clear hp4 hg4))
        refine bodyPost_ret (results_two (p := 2) (q := 3) (by exact rfl) _ _ _ (by exact rfl) (by exact rfl)) rfl ?_
        exact ⟨_, by rw [hN.out.1]; rfl, by rw [hN.out.2]; exact OwnIts.nil _ _, G4.out⟩
      | some z =>
        obtain ⟨x, rr⟩ := z
        have HNx := Lib.hid (LeafM.items_next HIt.out hi)
        have CI2 : Hid (Calls Tryd.prog 28 #[u5] wr fun e w' => (∃ q rest, e = .returned (.tuple #[.agg (rawA q), rest, .bool true]) ∧ RawOwn wr.heap.size w' q x ∧ Bytes (w.heap.size + 1) w' rest rr) ∧ Grows wr w') := by
          refine CIt.out.mono ?_
          rintro e w' ⟨q, rest, ok, rfl, ⟨h1, h2⟩, hg⟩
          rw [hi] at h1
          obtain ⟨h3, h4⟩ := h2 x rr hi
          exact ⟨⟨q, rest, by rw [h1]; rfl, h3, h4⟩, hg⟩
        have HRR : Hid (rr.length ≤ 900000) := Nat.le_trans (item_len hi) HRl.out
        clear hi CIt
        go_wp2_with (first
          | (go_at_call 28; (with_reducible refine CI2.out.mono ?_); rintro e w3 ⟨⟨q, rest, rfl, ho, hb⟩, hg⟩; have G3 := Lib.hid (HG.out.trans hg); have R3 := Lib.hid (HR.out.grows hg); have O3 := Lib.hid (HO.out.grows hg); have I3 := Lib.hid (ho.more HBs.out); have B3 := Lib.hid hb; have Z3 := Lib.hid (Row.new w3 45 (rawA noR)); have S3 : Hid (w.heap.size + 1 ≤ w3.heap.size) := Nat.le_trans HBs.out hg.size; clear ho hb hg)
          | ((with_reducible refine wpList_store_it ?_ (.tmp 7) (.tmp 32) ?_ w3.heap.size q (rawA noR) ?_ ?_ ?_ ?_ ?_); exact rfl; exact rfl; exact rfl; exact rfl; exact rfl; exact Z3.out; intro w4 hp4 hg4; have g := grown_fresh (W := w3) (W' := w4) rfl hg4; have P4 := Lib.hid hp4; have G4 := Lib.hid (G3.out.trans g); have R4 := Lib.hid (R3.out.grows g); have O4 := Lib.hid (O3.out.grows g); have I4 := Lib.hid (I3.out.grows g); have B4 := Lib.hid (B3.out.below (Below.mono g S3.out)); have S4 : Hid (w.heap.size + 1 ≤ w4.heap.size) := Nat.le_trans S3.out g.size; clear hp4 hg4 g)
          | ((with_reducible refine wpList_load_itAt (op := ⟨some 38, _, _, _, _, _⟩) ?_ (.tmp 7) ?_ w3.heap.size 0 q ?_ ?_ ?_); exact rfl; exact rfl; exact rfl; exact rawA_row P4.out)
          | ((with_reducible refine wpList_slice_it (o := ⟨some 39, _, _, _, _, _⟩) ?_ (.tmp 38) ?_ q ?_ ?_); exact rfl; exact rfl; exact rfl)
          | ((with_reducible refine wpList_append_its (o := ⟨some 40, _, _, _, _, _⟩) ?_ (.tmp 37) (.tmp 39) ?_ (w.heap.size + 1) (w4.heap.size + 1) l q x ?_ ?_ ?_ ?_ ?_ ?_); exact rfl; exact rfl; exact O4.out.grows (Grows.alloc _ _); exact raw_one _ _; exact I4.out.grows (Grows.alloc _ _); (rw [HLL.out]; omega); exact Nat.le_trans S4.out (Grows.alloc w4 (.cells (rawA q) 45)).size; intro v6 w6 h6 g6; have O6 := Lib.hid h6; have GA := Lib.hid (Grows.alloc w4 (.cells (rawA q) 45)); have bl : Below (w.heap.size + 1) w4 w6 := Below.grown (Below.mono GA.out S4.out) g6 (Nat.le_trans S4.out GA.out.size) O4.out.low; have R6 := Lib.hid (R4.out.below bl (Nat.lt_succ_self _)); have B6 := Lib.hid (B4.out.below bl); have G6 := Lib.hid (grows_below G4.out bl); clear h6 g6 bl))
        go_roundw
        case rel => exact ⟨k + 1, _, _, by omega, by go_num, HNx.out, HRR.out, O6.out, B6.out, R6.out, G6.out⟩
        case measure => simp [intOf]; omega
    · obtain rfl : k = M := by omega
      have hlt' : ¬ (k : Int) < k := by omega
      have HG4 := Lib.hid (HF4.out l r (by trivial) HM6.out HIt.out)
      have CEn := Lib.hid (rencode6_any (.slice Ak nk ck) l wr HO.out.its)
      have HFL := Lib.hid (LeafM.encP_len l)
      have HOm := Lib.hid (HO.out.more (Nat.le_succ w.heap.size))
      generalize LeafM.encP l = ep at *
      generalize LeafM.encE l = ee at *
      go_wp2_with (first
        | (go_at_call 11; (with_reducible refine CEn.out.mono ?_); rintro e w4 ⟨rfl, hg⟩; have O4 := Lib.hid (HOm.out.grows hg); have G4 := Lib.hid (HG.out.trans hg); have R4 := Lib.hid (HR.out.grows hg); have N4 := Lib.hid (PRow.new w4 noughts_length); clear hg)
        | ((with_reducible refine wpList_store_page ?_ (.tmp 10) (.tmp 45) ?_ w4.heap.size ep noughts ?_ ?_ ?_ ?_ ?_); exact rfl; exact rfl; exact rfl; exact rfl; exact HFL.out; exact N4.out; intro w5 hp5 hg5; have g := grown_fresh (W := w4) (W' := w5) rfl hg5; have N5 := Lib.hid hp5; have O5 := Lib.hid (O4.out.grows g); have G5 := Lib.hid (G4.out.trans g); have R5 := Lib.hid (R4.out.grows g); clear hp5 hg5 g))
      by_cases he : ee = 0
      · by_cases hq : ep = p
        · have hY := Lib.hid (HG4.out.1 ⟨he, hq⟩)
          subst he
          have heq := page_is ep p HFL.out HPL.out w5
          rw [decide_eq_true hq] at heq
          clear hq
          go_wp2_with (first
            | ((with_reducible refine wpList_loadG_page (o := ⟨some 50, _, _, _, _, _⟩) ?_ (.tmp 10) ?_ w4.heap.size ep ?_ ?_ ?_); exact rfl; exact rfl; exact rfl; exact N5.out)
            | ((with_reducible refine wpList_loadG_page (o := ⟨some 51, _, _, _, _, _⟩) ?_ (.tmp 1) ?_ w.heap.size p ?_ ?_ ?_); exact rfl; exact rfl; exact rfl; exact R5.out))
          refine bodyPost_ret (results_two (p := 2) (q := 3) (by exact rfl) _ _ _ (by exact rfl) (by exact rfl)) rfl ?_
          exact ⟨_, by rw [hY.out.1]; rfl, by rw [hY.out.2]; exact O5.out, G5.out⟩
        · have hN := Lib.hid (HG4.out.2 (fun h => hq h.2))
          subst he
          have heq := page_is ep p HFL.out HPL.out w5
          rw [decide_eq_false hq] at heq
          clear hq
          go_wp2_with (first
            | ((with_reducible refine wpList_loadG_page (o := ⟨some 50, _, _, _, _, _⟩) ?_ (.tmp 10) ?_ w4.heap.size ep ?_ ?_ ?_); exact rfl; exact rfl; exact rfl; exact N5.out)
            | ((with_reducible refine wpList_loadG_page (o := ⟨some 51, _, _, _, _, _⟩) ?_ (.tmp 1) ?_ w.heap.size p ?_ ?_ ?_); exact rfl; exact rfl; exact rfl; exact R5.out))
          refine bodyPost_ret (results_two (p := 2) (q := 3) (by exact rfl) _ _ _ (by exact rfl) (by exact rfl)) rfl ?_
          exact ⟨_, by rw [hN.out.1]; rfl, by rw [hN.out.2]; exact OwnIts.nil _ _, G5.out⟩
      · have hN := Lib.hid (HG4.out.2 (fun h => he h.1))
        have hb : (ee != 0) = true := by simpa using he
        go_wp2
        refine bodyPost_ret (results_two (p := 2) (q := 3) (by exact rfl) _ _ _ (by exact rfl) (by exact rfl)) rfl ?_
        exact ⟨_, by rw [hN.out.1]; rfl, by rw [hN.out.2]; exact OwnIts.nil _ _, G5.out⟩
end Go.Proofs.YthdncpkmhodokaaDoor
