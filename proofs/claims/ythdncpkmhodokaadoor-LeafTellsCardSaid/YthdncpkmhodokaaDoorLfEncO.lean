/- LfEncO -/
import Derived.Test.YthdncpkmhodokaaDoorLfA
import Derived.Test.YthdncpkmhodokaaDoorLfB
import Derived.Test.YthdncpkmhodokaaDoorLfPut
import Derived.Test.YthdncpkmhodokaaDoorPackPage
/- Layer 6's own Encode: the page of items. -/
namespace Go.Proofs.YthdncpkmhodokaaDoor
open Go.RowKit
set_option linter.unusedVariables false
set_option linter.unusedSimpArgs false
set_option maxRecDepth 20000 in
set_option maxHeartbeats 4000000 in
theorem encode6_any (v : Value) (l : List It) (w : World) (hv : Its w.heap.size w v l) (hG : Glob w) :
    Calls Tryd.prog 10 #[v] w fun e w' => e = .returned (.tuple #[.agg (pageA (LeafM.encP l)), .int .i64 (LeafM.encE l)]) ∧ Grows w w' := by
  have hz := fun w => zero_page w
  have R0 := Lib.hid (PRow.new w noughts_length)
  have G0 := Lib.hid (Grows.alloc w (.cells (pageA noughts) 24))
  have HRt := Lib.hid (right6_any v l _ ((hv.below G0.out).more G0.out.size))
  have HGl := Lib.hid hG
  obtain ⟨A, cap, rfl, q1, q2, q3⟩ := hv.form
  have HQ := Lib.hid q3
  clear q3 hv hG
  unfold maxLen at q2
  cases hR : LeafM.right l
  · rw [hR] at HRt
    have HE := Lib.hid (LeafM.enc_not hR)
    go_enter Tryd.func10, Tryd.ntmps10
    go_wp2_with (first
      | (go_at_call 15; (with_reducible refine HRt.out.mono ?_); rintro e w1 ⟨rfl, hg⟩; have R1 := Lib.hid (R0.out.grows hg); have G1 := Lib.hid (G0.out.trans hg); clear hg)
      | ((with_reducible refine wpList_store_page ?_ (.tmp 2) (.tmp 10) ?_ w.heap.size noughts noughts ?_ ?_ ?_ ?_ ?_); exact rfl; exact rfl; exact rfl; exact rfl; exact noughts_length; exact R1.out; intro w2 hp2 hg2)
      | (refine bodyPost_ret (results_page_two (p := 2) (q := 3) (by exact rfl) _ (.int .i64 2) (by exact rfl) (by exact rfl) hp2) rfl ?_; exact ⟨by rw [HE.out.1, HE.out.2]; rfl, G1.out.grown hg2 G1.out.size (fun k e => by cases e; exact Nat.le_refl _)⟩))
  · rw [hR] at HRt
    obtain ⟨h6, hok⟩ := LeafM.right_ok hR
    have HOk := Lib.hid hok
    have HPl := Lib.hid (fun k => LeafM.part_len hR k)
    have HF := Lib.hid (LeafM.enc_fill hR)
    have hwl := wrap_u8_len h6
    have HP0 := Lib.hid (LeafM.part_zero l)
    have HPA := Lib.hid (LeafM.part_all l)
    clear hok hR
    go_enter Tryd.func10, Tryd.ntmps10
    go_wp2_with (first
      | (go_at_call 15; (with_reducible refine HRt.out.mono ?_); rintro e w1 ⟨rfl, hg⟩; have R1 := Lib.hid (R0.out.grows hg); have G1 := Lib.hid (G0.out.trans hg); clear hg))
    have M1 := Lib.hid (Mine.lit (base := w.heap.size + 1) w1 #[.int .u8 1, .int .u8 (bI (BitVec.ofNat 8 l.length))] (LeafM.part l 0) (by have := R1.out.lt; omega) (by rw [HP0.out]; simp) (by rw [HP0.out]; rfl))
    have R2 := Lib.hid (R1.out.alloc (.cells #[.int .u8 1, .int .u8 (bI (BitVec.ofNat 8 l.length))] 5))
    have G2 := Lib.hid (G1.out.trans (Grows.alloc w1 (.cells #[.int .u8 1, .int .u8 (bI (BitVec.ofNat 8 l.length))] 5)))
    go_loopw [4, 6, 17] (fun b _ i wr => ∃ k : Nat, k ≤ l.length ∧ i = .int .i64 k ∧ Mine (w.heap.size + 1) wr b (LeafM.part l k) ∧ PRow wr w.heap.size noughts ∧ Grows w wr) (fun _ _ i _ => l.length - (intOf i).toNat)
    case atStart => exact ⟨0, Nat.zero_le _, rfl, M1.out, R2.out, G2.out⟩
    case round =>
      obtain ⟨k, hk, rfl, hm, hp, hb⟩ := hrel
      have HM := Lib.hid hm; have HRw := Lib.hid hp; have HB := Lib.hid hb
      obtain ⟨A2, c2, rfl, _, _⟩ := hm.form
      clear hp hb
      have hpl := HPl.out k
      by_cases hlt : k < l.length
      · obtain ⟨g1, o1, rfl, hg1, hcA⟩ := HQ.out (by omega)
        have e1 : l[k]? = some l[k] := List.getElem?_eq_getElem hlt
        obtain ⟨r, hr, hc⟩ := hcA k _ e1
        have HC := Lib.hid (rangeAt_keep hc (fun a ha => Below.cell HB.out (by omega)))
        have HT := Lib.hid (LeafM.part_succ e1)
        have HPu := Lib.hid (fun q W (h : Bytes (World.heap W).size W q (LeafM.part l k)) (hg : Grows w W) => lput_any q (LeafM.part l k) r l[k] W h (hr.grows hg) (HOk.out _ (List.getElem_mem hlt)) (by omega) (HGl.out.grows hg))
        have HZ := Lib.hid (Row.new wr 45 #[.slice none 0 0, .slice none 0 0, .int .u8 0, .int .u16 0, .int .u16 0, .int .u32 0, .int .u64 0, .int .u16 0])
        rw [← HT.out] at HPu
        clear hcA hr hc e1 hm HT hpl
        obtain ⟨nx, hnx⟩ : ∃ nx, nx = LeafM.part l (k + 1) := ⟨_, rfl⟩
        rw [← hnx] at HPu
        have HNX := Lib.hid hnx
        clear hnx
        generalize LeafM.part l k = cu at *
        go_wp2_with (first
          | ((with_reducible refine wpList_load_itAt (op := ⟨some 20, _, _, _, _, _⟩) ?_ (.tmp 19) ?_ g1 (o1 + k * 8) r ?_ ?_ ?_); exact rfl; exact rfl; exact rfl; exact HC.out)
          | ((with_reducible refine wpList_store_it ?_ (.tmp 6) (.tmp 20) ?_ wr.heap.size r #[.slice none 0 0, .slice none 0 0, .int .u8 0, .int .u16 0, .int .u16 0, .int .u32 0, .int .u64 0, .int .u16 0] ?_ ?_ ?_ ?_ ?_); exact rfl; exact rfl; exact rfl; exact rfl; exact rfl; exact HZ.out; intro w3 hp hg; have P3 := Lib.hid hp; have g := grown_fresh (W := wr) (W' := w3) rfl hg; have M3 := Lib.hid (HM.out.grows g); have R3 := Lib.hid (HRw.out.grows g); have G3 := Lib.hid (HB.out.trans g); clear hp hg g)
          | ((with_reducible refine wpList_load_itAt (op := ⟨some 22, _, _, _, _, _⟩) ?_ (.tmp 6) ?_ wr.heap.size 0 r ?_ ?_ ?_); exact rfl; exact rfl; exact rfl; exact rawA_row P3.out)
          | (go_at_call 20; (with_reducible refine (HPu.out _ _ M3.out.bytes G3.out).mono ?_); rintro e w4 ⟨q, rfl, hq, hg⟩; have M4 := Lib.hid (hq.more (show w.heap.size + 1 ≤ w3.heap.size from R3.out.lt)); have R4 := Lib.hid (R3.out.grows hg); have G4 := Lib.hid (G3.out.trans hg); clear hq hg))
        go_roundw
        case rel => exact ⟨k + 1, by omega, by go_num, by rw [← HNX.out]; exact M4.out, R4.out, G4.out⟩
        case measure => simp [intOf]; omega
      · obtain rfl : k = l.length := by omega
        rw [HPA.out] at HM
        have HFi := Lib.hid (fun W v (h : Bytes (World.heap W).size W v (LeafM.encB l)) => fill_any v (LeafM.encB l) W h (by have := HF.out.2.2.2; omega))
        rw [← HF.out.1, HF.out.2.2.1] at HFi
        have HFL := Lib.hid (LeafM.encP_len l)
        have HEE := Lib.hid HF.out.2.1
        rw [HPA.out]
        clear hm hpl HPl HPA HP0 HF
        generalize LeafM.encB l = eb at *
        obtain ⟨ep, hep⟩ : ∃ ep, ep = LeafM.encP l := ⟨_, rfl⟩
        rw [← hep] at HFi HFL
        have HEP := Lib.hid hep
        clear hep
        go_wp2_with (first
          | (go_at_call 21; (with_reducible refine (HFi.out _ _ HM.out.bytes).mono ?_); rintro e w3 ⟨rfl, hg⟩; have R3 := Lib.hid (HRw.out.grows hg); have G3 := Lib.hid (HB.out.trans hg); clear hg)
          | ((with_reducible refine wpList_store_page ?_ (.tmp 2) (.tmp 27) ?_ w.heap.size ep noughts ?_ ?_ ?_ ?_ ?_); exact rfl; exact rfl; exact rfl; exact rfl; exact HFL.out; exact R3.out; intro w4 hp4 hg4)
          | (refine bodyPost_ret (results_page_two (p := 2) (q := 3) (by exact rfl) _ (.int .i64 0) (by exact rfl) (by exact rfl) hp4) rfl ?_; exact ⟨by rw [HEE.out, ← HEP.out], G3.out.grown hg4 G3.out.size (fun k e => by cases e; exact Nat.le_refl _)⟩))
end Go.Proofs.YthdncpkmhodokaaDoor
