/- BrEncR BrEncO BrTake -/
import Derived.Test.YtjcommodiihcdaaDoorBrC
import Derived.Test.YtjcommodiihcdaaDoorBrD
import Derived.Test.YtjcommodiihcdaaDoorPackRef
import Derived.Test.YtjcommodiihcdaaDoorPackRef2
import Derived.Test.YtjcommodiihcdaaDoorPtPut
import Derived.Test.YtjcommodiihcdaaDoorPage
import Derived.Test.YtjcommodiihcdaaDoorPackPb
import Derived.Test.YtjcommodiihcdaaDoorPackPage
import Derived.Test.YtjcommodiihcdaaDoorBrA
import Derived.Test.YtjcommodiihcdaaDoorLfItem
import Derived.Test.YtjcommodiihcdaaDoorPackTb
import Derived.Test.YtjcommodiihcdaaDoorPtTake
/- The document's Encode for layer 7. -/
namespace Go.Proofs.YtjcommodiihcdaaDoor
open Go.RowKit
set_option linter.unusedVariables false
set_option linter.unusedSimpArgs false
namespace BrM
def part (l : List Kd) (k : Nat) : List (BitVec 8) := (l.take k).foldl step [2#8, BitVec.ofNat 8 l.length]
theorem part_zero (l : List Kd) : part l 0 = [2#8, BitVec.ofNat 8 l.length] := rfl
theorem part_succ {l : List Kd} {k : Nat} {x : Kd} (h : l[k]? = some x) : part l (k + 1) = step (part l k) x := by
  unfold part
  rw [List.take_add_one, h, List.foldl_append]
  rfl
theorem part_all (l : List Kd) : part l l.length = encB l := by unfold part encB; rw [List.take_length]
theorem part_len {l : List Kd} (h : right l = true) : ∀ k, (part l k).length ≤ 2 + 26 * k
  | 0 => by rw [part_zero]; simp
  | k + 1 => by
    have ih := part_len h k
    cases hk : l[k]? with
    | none =>
      have : part l (k + 1) = part l k := by unfold part; rw [List.take_add_one, hk]; simp
      rw [this]; omega
    | some x =>
      have h8 := ((right_ok h).2.2 x (List.mem_of_getElem? hk)).1
      have := own_len h8
      rw [part_succ hk, step_own _ _ h8, List.length_append]
      omega
end BrM
theorem wrap_u8_len6 {n : Nat} (h : n ≤ 6) : IntKind.u8.wrap (n : Int) = bI (BitVec.ofNat 8 n) := by
  rw [bI_ofNat n (by omega)]
  rcases n with _ | _ | _ | _ | _ | _ | _ | n
  · rfl
  · rfl
  · rfl
  · rfl
  · rfl
  · rfl
  · rfl
  · omega
theorem blank_noughts7 : LeafM.blank = noughts := rfl
theorem putBytes_len7 (b s : List (BitVec 8)) : (PackM.putBytes b s).length ≤ b.length + 256 := by
  unfold PackM.putBytes
  rw [List.length_append, List.length_cons, List.length_take]; omega
set_option maxRecDepth 20000 in
set_option maxHeartbeats 8000000 in
theorem rencode7_any (v : Value) (l : List Kd) (w : World) (hv : Kds w.heap.size w v l) :
    Calls Tryd.prog 11 #[v] w fun e w' => e = .returned (.tuple #[.agg (pageA (BrM.encP l)), .int .i64 (BrM.encE l)]) ∧ Grows w w' := by
  have hz := fun w => zero_page w
  have R0 := Lib.hid (PRow.new w noughts_length)
  have G0 := Lib.hid (Grows.alloc w (.cells (pageA noughts) 24))
  have HRt := Lib.hid (rrights7_any v l _ ((hv.below G0.out).more G0.out.size))
  obtain ⟨A, cap, rfl, q1, q2, q3⟩ := hv.form
  have HQ := Lib.hid q3
  clear q3 hv
  unfold maxLen at q2
  cases hR : BrM.right l
  · rw [hR] at HRt
    have HE := Lib.hid (BrM.enc_not hR)
    go_enter Tryd.func11, Tryd.ntmps11
    go_wp2_with (first
      | (go_at_call 16; (with_reducible refine HRt.out.mono ?_); rintro e w1 ⟨rfl, hg⟩; have R1 := Lib.hid (R0.out.grows hg); have G1 := Lib.hid (G0.out.trans hg); clear hg)
      | ((with_reducible refine wpList_store_page ?_ (.tmp 2) (.tmp 11) ?_ w.heap.size noughts noughts ?_ ?_ ?_ ?_ ?_); exact rfl; exact rfl; exact rfl; exact rfl; exact noughts_length; exact R1.out; intro w2 hp2 hg2)
      | (refine bodyPost_ret (results_page_two (p := 2) (q := 3) (by exact rfl) _ (.int .i64 2) (by exact rfl) (by exact rfl) hp2) rfl ?_; exact ⟨by rw [HE.out.1, HE.out.2]; rfl, G1.out.grown hg2 G1.out.size (fun k e => by cases e; exact Nat.le_refl _)⟩))
  · rw [hR] at HRt
    obtain ⟨_, h6, _⟩ := BrM.right_ok hR
    have HPl := Lib.hid (fun k => BrM.part_len hR k)
    have HF := Lib.hid (BrM.enc_fill hR)
    have hwl := wrap_u8_len6 h6
    have HP0 := Lib.hid (BrM.part_zero l)
    have HPA := Lib.hid (BrM.part_all l)
    clear hR
    go_enter Tryd.func11, Tryd.ntmps11
    go_wp2_with (first
      | (go_at_call 16; (with_reducible refine HRt.out.mono ?_); rintro e w1 ⟨rfl, hg⟩; have R1 := Lib.hid (R0.out.grows hg); have G1 := Lib.hid (G0.out.trans hg); clear hg))
    have M1 := Lib.hid (Mine.lit (base := w.heap.size + 1) w1 #[.int .u8 2, .int .u8 (bI (BitVec.ofNat 8 l.length))] (BrM.part l 0) (by have := R1.out.lt; omega) (by rw [HP0.out]; simp) (by rw [HP0.out]; rfl))
    have R2 := Lib.hid (R1.out.alloc (.cells #[.int .u8 2, .int .u8 (bI (BitVec.ofNat 8 l.length))] 5))
    have G2 := Lib.hid (G1.out.trans (Grows.alloc w1 (.cells #[.int .u8 2, .int .u8 (bI (BitVec.ofNat 8 l.length))] 5)))
    go_loopw [4, 5] (fun b i wr => ∃ k : Nat, k ≤ l.length ∧ i = .int .i64 k ∧ Mine (w.heap.size + 1) wr b (BrM.part l k) ∧ PRow wr w.heap.size noughts ∧ Grows w wr) (fun _ i _ => l.length - (intOf i).toNat)
    case atStart => exact ⟨0, Nat.zero_le _, rfl, M1.out, R2.out, G2.out⟩
    case round =>
      obtain ⟨k, hk, rfl, hm, hp, hb⟩ := hrel
      have HM := Lib.hid hm; have HRw := Lib.hid hp; have HB := Lib.hid hb
      obtain ⟨A2, c2, rfl, _, _⟩ := hm.form
      clear hp hb
      have hpl := HPl.out k
      by_cases hlt : k < l.length
      · obtain ⟨g1, o1, rfl, hg1, hcA⟩ := HQ.out (by omega)
        have e1 : l[k]? = some l[k] := List.getElem?_eq_getElem hlt
        obtain ⟨r, hr, hc⟩ := hcA k _ e1
        have HRr := Lib.hid hr
        have HCr := Lib.hid (kd_at (rangeAt_keep hc (fun a ha => Below.cell HB.out (by omega))))
        have HT := BrM.part_succ e1
        have k3 := hr.2
        have hlt' : (k : Int) < l.length := by omega
        clear hcA hr hc e1 hm
        generalize l[k] = x at *
        obtain ⟨nx, hnx⟩ : ∃ nx, nx = BrM.part l (k + 1) := ⟨_, rfl⟩
        rw [← hnx] at HT
        have HNX := Lib.hid hnx
        clear hnx
        generalize BrM.part l k = cu at *
        have CP1 := Lib.hid (fun W (hW : Grows wr W) => rputBytes_any (.slice A2 cu.length c2) (.slice r.ka r.kn r.kc) cu x.key W (HM.out.grows hW).bytes (HRr.out.grows (HB.out.trans hW)).1 (by omega))
        obtain ⟨l1, hl1⟩ : ∃ l1, l1 = PackM.putBytes cu x.key := ⟨_, rfl⟩
        have n1 : l1.length ≤ 500 := by rw [hl1]; have := putBytes_len7 cu x.key; omega
        rw [← hl1] at CP1
        have CP2 := Lib.hid (fun q W (h : Bytes (World.heap W).size W q l1) => rptput_any q l1 r.ptr W h (by omega))
        have HN2 : Hid (PtM.put l1 r.ptr = nx) := by unfold Hid; rw [HT, hl1, k3]; rfl
        rw [HN2.out] at CP2
        have c0 := HCr.out.1
        have HP := Lib.hid HCr.out.2.2.2
        have HLR : Hid (w.heap.size + 1 ≤ wr.heap.size) := by have := HRw.out.lt; unfold Hid; omega
        clear hl1 HT k3 HN2
        go_wp2
        refine wp_region_free 13 44 (by kernel_rfl) (by kernel_rfl) rfl (by kernel_rfl) ?_; simp only [List.take_succ_cons, List.take_zero, List.drop_succ_cons, List.drop_zero]
        repeat (apply free_pure rfl; focus (intro vs w hg hd; have q0 := hg.cell c0; (try simp [Region.binds] at hd); simp only [execOp, resolve, Option.map_some, Option.map_none, List.map_toArray, List.map_cons, List.map_nil, rho_const, rho_func]; (repeat (conv in rho _ _ _ _ (Operand.tmp _) => whnf)); (try simp only [hd]); go_simp; (repeat (conv in rho _ _ _ _ (Operand.tmp _) => whnf)); (try simp only [hd]);  rfl))
        refine free_op (fun v_ w_ => Mine (w.heap.size + 1) w_ v_ l1) rfl (mine_mono _ _) (fun vs wq hg hd => by
          have hW := Grows.of_drew hg
          have hsz := Nat.le_trans HLR.out (Below.size hW)
          (try simp [Region.binds] at hd); simp only [Does]; simp only [execOp, resolve, Option.map_some, Option.map_none, List.map_toArray, List.map_cons, List.map_nil, rho_const, rho_func]; (repeat (conv in rho _ _ _ _ (Operand.tmp _) => whnf)); (try simp only [hd]); go_simp; (repeat (conv in rho _ _ _ _ (Operand.tmp _) => whnf))
          refine (CP1.out wq hW).mono ?_
          rintro e w5 ⟨q, rfl, hq, hg5⟩
          exact ⟨_, rfl, hg5, hq.more hsz⟩) ?_
        repeat (apply free_pure rfl; focus (intro vs w hg hd; have q0 := hg.cell c0; (try simp [Region.binds] at hd); simp only [execOp, resolve, Option.map_some, Option.map_none, List.map_toArray, List.map_cons, List.map_nil, rho_const, rho_func]; (repeat (conv in rho _ _ _ _ (Operand.tmp _) => whnf)); (try simp only [hd]); go_simp; (repeat (conv in rho _ _ _ _ (Operand.tmp _) => whnf)); (try simp only [hd]);  rfl))
        refine free_op (fun v_ _ => v_ = .agg (ptA r.ptr)) rfl (dk_mono _) (fun vs wq hg hd => by
          (try simp [Region.binds] at hd)
          refine dk_load 45 (.tmp 32) ⟨g1, o1 + k * 6 + 1, none⟩ _ rfl ?_ (pt_run_loadK (range_grows HP.out (Grows.of_drew hg))) ⟨Grows.refl _, rfl⟩
          (conv in rho _ _ _ _ (Operand.tmp _) => whnf)
          simp [hd]) ?_
        refine free_op (fun v_ w_ => Mine (w.heap.size + 1) w_ v_ nx) rfl (mine_mono _ _) (fun vs wq hg hd => by
          have hsz := Nat.le_trans HLR.out (Below.size (Grows.of_drew hg))
          (try simp [Region.binds] at hd); simp only [Does]; simp only [execOp, resolve, Option.map_some, Option.map_none, List.map_toArray, List.map_cons, List.map_nil, rho_const, rho_func]; (repeat (conv in rho _ _ _ _ (Operand.tmp _) => whnf)); (try simp only [hd]); go_simp; (repeat (conv in rho _ _ _ _ (Operand.tmp _) => whnf))
          refine (CP2.out _ wq hd.1.bytes).mono ?_
          rintro e w5 ⟨q, rfl, hq, hg5⟩
          exact ⟨_, rfl, hg5, hq.more hsz⟩) ?_
        intro vs w' hg hv; have h12 := hv 12 (by omega); simp at h12; simp only [putL, dstAt, List.range, List.range.loop, if_true, List.getElem?_toArray, List.getElem?_cons_zero, List.getElem?_cons_succ, Option.bind_some, Act.put, List.setIfInBounds_toArray, List.set_cons_zero, List.set_cons_succ]
        have hW := Lib.hid (Grows.of_drew hg)
        have H9 := Lib.hid h12
        have R9 := Lib.hid (HRw.out.grows hW.out)
        have G9 := Lib.hid (HB.out.trans hW.out)
        clear hv h12 hg
        generalize vs 0 = z0, vs 1 = z1, vs 2 = z2, vs 3 = z3, vs 4 = z4, vs 5 = z5, vs 6 = z6, vs 7 = z7, vs 8 = z8, vs 9 = z9, vs 10 = z10, vs 11 = z11, vs 12 = z12 at *
        go_wp2
        go_roundw
        case rel => exact ⟨k + 1, by omega, by go_num, by rw [← HNX.out]; exact H9.out, R9.out, G9.out⟩
        case measure => simp [intOf]; omega
      · obtain rfl : k = l.length := by omega
        have hlt' : ¬ (l.length : Int) < l.length := by omega
        rw [HPA.out] at HM
        have HFi := Lib.hid (fun W v (h : Bytes (World.heap W).size W v (BrM.encB l)) => rfill_any v (BrM.encB l) W h (by have := HF.out.2.2.2; omega))
        rw [← HF.out.1, HF.out.2.2.1] at HFi
        have HFL := Lib.hid (BrM.encP_len l)
        have HEE := Lib.hid HF.out.2.1
        rw [HPA.out]
        clear hm hpl HPl HPA HP0 HF
        generalize BrM.encB l = eb at *
        obtain ⟨ep, hep⟩ : ∃ ep, ep = BrM.encP l := ⟨_, rfl⟩
        rw [← hep] at HFi HFL
        have HEP := Lib.hid hep
        clear hep
        go_wp2_with (first
          | (go_at_call 28; (with_reducible refine (HFi.out _ _ HM.out.bytes).mono ?_); rintro e w3 ⟨rfl, hg⟩; have R3 := Lib.hid (HRw.out.grows hg); have G3 := Lib.hid (HB.out.trans hg); clear hg)
          | ((with_reducible refine wpList_store_page ?_ (.tmp 6) (.tmp 38) ?_ w3.heap.size ep noughts ?_ ?_ ?_ ?_ ?_); exact rfl; exact rfl; exact rfl; exact rfl; exact HFL.out; exact PRow.new w3 noughts_length; intro w5 hp5 hg5; have g := grown_fresh (W := w3) (W' := w5) rfl hg5; have N5 := Lib.hid hp5; have R5 := Lib.hid (R3.out.grows g); have G5 := Lib.hid (G3.out.trans g); clear hp5 hg5 g)
          | ((with_reducible refine wpList_load_page (o := ⟨some 43, _, _, _, _, _⟩) ?_ (.tmp 6) ?_ w3.heap.size ep ?_ ?_ ?_); exact rfl; exact rfl; exact rfl; exact N5.out)
          | ((with_reducible refine wpList_store_page ?_ (.tmp 2) (.tmp 43) ?_ w.heap.size ep noughts ?_ ?_ ?_ ?_ ?_); exact rfl; exact rfl; exact rfl; exact rfl; exact HFL.out; exact R5.out; intro w6 hp6 hg6)
          | (refine bodyPost_ret (results_page_two (p := 2) (q := 3) (by exact rfl) _ (.int .i64 0) (by exact rfl) (by exact rfl) hp6) rfl ?_; exact ⟨by rw [HEE.out, ← HEP.out], G5.out.grown hg6 G5.out.size (fun k e => by cases e; exact Nat.le_refl _)⟩))
end Go.Proofs.YtjcommodiihcdaaDoor
/- Layer 7's own Encode: the page of kids. -/
namespace Go.Proofs.YtjcommodiihcdaaDoor
open Go.RowKit
set_option linter.unusedVariables false
set_option linter.unusedSimpArgs false
set_option maxRecDepth 20000 in
set_option maxHeartbeats 4000000 in
theorem encode7_any (v : Value) (l : List Kd) (w : World) (hv : Kds w.heap.size w v l) (hG : Glob w) :
    Calls Tryd.prog 10 #[v] w fun e w' => e = .returned (.tuple #[.agg (pageA (BrM.encP l)), .int .i64 (BrM.encE l)]) ∧ Grows w w' := by
  have hz := fun w => zero_page w
  have R0 := Lib.hid (PRow.new w noughts_length)
  have G0 := Lib.hid (Grows.alloc w (.cells (pageA noughts) 24))
  have HRt := Lib.hid (right7_any v l _ ((hv.below G0.out).more G0.out.size))
  have HGl := Lib.hid hG
  obtain ⟨A, cap, rfl, q1, q2, q3⟩ := hv.form
  have HQ := Lib.hid q3
  clear q3 hv hG
  unfold maxLen at q2
  cases hR : BrM.right l
  · rw [hR] at HRt
    have HE := Lib.hid (BrM.enc_not hR)
    go_enter Tryd.func10, Tryd.ntmps10
    go_wp2_with (first
      | (go_at_call 15; (with_reducible refine HRt.out.mono ?_); rintro e w1 ⟨rfl, hg⟩; have R1 := Lib.hid (R0.out.grows hg); have G1 := Lib.hid (G0.out.trans hg); clear hg)
      | ((with_reducible refine wpList_store_page ?_ (.tmp 2) (.tmp 10) ?_ w.heap.size noughts noughts ?_ ?_ ?_ ?_ ?_); exact rfl; exact rfl; exact rfl; exact rfl; exact noughts_length; exact R1.out; intro w2 hp2 hg2)
      | (refine bodyPost_ret (results_page_two (p := 2) (q := 3) (by exact rfl) _ (.int .i64 2) (by exact rfl) (by exact rfl) hp2) rfl ?_; exact ⟨by rw [HE.out.1, HE.out.2]; rfl, G1.out.grown hg2 G1.out.size (fun k e => by cases e; exact Nat.le_refl _)⟩))
  · rw [hR] at HRt
    obtain ⟨_, h6, _⟩ := BrM.right_ok hR
    have HPl := Lib.hid (fun k => BrM.part_len hR k)
    have HF := Lib.hid (BrM.enc_fill hR)
    have hwl := wrap_u8_len6 h6
    have HP0 := Lib.hid (BrM.part_zero l)
    have HPA := Lib.hid (BrM.part_all l)
    clear hR
    go_enter Tryd.func10, Tryd.ntmps10
    go_wp2_with (first
      | (go_at_call 15; (with_reducible refine HRt.out.mono ?_); rintro e w1 ⟨rfl, hg⟩; have R1 := Lib.hid (R0.out.grows hg); have G1 := Lib.hid (G0.out.trans hg); clear hg))
    have M1 := Lib.hid (Mine.lit (base := w.heap.size + 1) w1 #[.int .u8 2, .int .u8 (bI (BitVec.ofNat 8 l.length))] (BrM.part l 0) (by have := R1.out.lt; omega) (by rw [HP0.out]; simp) (by rw [HP0.out]; rfl))
    have R2 := Lib.hid (R1.out.alloc (.cells #[.int .u8 2, .int .u8 (bI (BitVec.ofNat 8 l.length))] 5))
    have G2 := Lib.hid (G1.out.trans (Grows.alloc w1 (.cells #[.int .u8 2, .int .u8 (bI (BitVec.ofNat 8 l.length))] 5)))
    go_loopw [4, 6, 17] (fun b _ i wr => ∃ k : Nat, k ≤ l.length ∧ i = .int .i64 k ∧ Mine (w.heap.size + 1) wr b (BrM.part l k) ∧ PRow wr w.heap.size noughts ∧ Grows w wr) (fun _ _ i _ => l.length - (intOf i).toNat)
    case atStart => exact ⟨0, Nat.zero_le _, rfl, M1.out, R2.out, G2.out⟩
    case round =>
      obtain ⟨k, hk, rfl, hm, hp, hb⟩ := hrel
      have HM := Lib.hid hm; have HRw := Lib.hid hp; have HB := Lib.hid hb
      obtain ⟨A2, c2, rfl, _, _⟩ := hm.form
      clear hp hb
      have hpl := HPl.out k
      by_cases hlt : k < l.length
      · obtain ⟨g1, o1, rfl, hg1, hcA⟩ := HQ.out (by omega)
        have e1 : l[k]? = some l[k] := List.getElem?_eq_getElem hlt
        obtain ⟨r, hr, hc⟩ := hcA k _ e1
        have HRr := Lib.hid hr
        have HC := Lib.hid (rangeAt_keep hc (fun a ha => Below.cell HB.out (by omega)))
        have HT := BrM.part_succ e1
        have k3 := hr.2
        have hlt' : (k : Int) < l.length := by omega
        have HZ := Lib.hid (Row.new wr 47 #[.slice none 0 0, .int .u8 0, .int .u16 0, .int .u16 0, .int .u32 0, .int .u64 0])
        clear hcA hr hc e1 hm
        generalize l[k] = x at *
        obtain ⟨nx, hnx⟩ : ∃ nx, nx = BrM.part l (k + 1) := ⟨_, rfl⟩
        rw [← hnx] at HT
        have HNX := Lib.hid hnx
        clear hnx
        generalize BrM.part l k = cu at *
        have CP1 := Lib.hid (fun W (hW : Grows wr W) => putBytes_any (.slice A2 cu.length c2) (.slice r.ka r.kn r.kc) cu x.key W (HM.out.grows hW).bytes (HRr.out.grows (HB.out.trans hW)).1 (by omega))
        obtain ⟨l1, hl1⟩ : ∃ l1, l1 = PackM.putBytes cu x.key := ⟨_, rfl⟩
        have n1 : l1.length ≤ 500 := by rw [hl1]; have := putBytes_len7 cu x.key; omega
        rw [← hl1] at CP1
        have CP2 := Lib.hid (fun q W (h : Bytes (World.heap W).size W q l1) (hg : Grows w W) => ptput_any q l1 r.ptr W h (by omega) (HGl.out.grows hg))
        have HN2 : Hid (PtM.put l1 r.ptr = nx) := by unfold Hid; rw [HT, hl1, k3]; rfl
        rw [HN2.out] at CP2
        have HLR : Hid (w.heap.size + 1 ≤ wr.heap.size) := by have := HRw.out.lt; unfold Hid; omega
        clear hl1 HT k3 HN2
        go_wp2_with (first
          | ((with_reducible refine wpList_load_kid (op := ⟨some 20, _, _, _, _, _⟩) ?_ (.tmp 19) ?_ g1 (o1 + k * 6) r ?_ ?_ ?_); exact rfl; exact rfl; exact rfl; exact HC.out)
          | ((with_reducible refine wpList_store_kid ?_ (.tmp 6) (.tmp 20) ?_ wr.heap.size r #[.slice none 0 0, .int .u8 0, .int .u16 0, .int .u16 0, .int .u32 0, .int .u64 0] ?_ ?_ ?_ ?_ ?_); exact rfl; exact rfl; exact rfl; exact rfl; exact rfl; exact HZ.out; intro w3 hp hg; have P3 := Lib.hid (kdA_row hp); have G3 := Lib.hid (grown_fresh (W := wr) (W' := w3) rfl hg); clear hp hg))
        have c0 := (kd_at P3.out).1
        have HP := Lib.hid (kd_at P3.out).2.2.2
        rw [Nat.zero_add] at HP
        refine wp_region_free 7 33 (by kernel_rfl) (by kernel_rfl) rfl (by kernel_rfl) ?_; simp only [List.take_succ_cons, List.take_zero, List.drop_succ_cons, List.drop_zero]
        repeat (apply free_pure rfl; focus (intro vs w hg hd; have q0 := hg.cell c0; (try simp [Region.binds] at hd); simp only [execOp, resolve, Option.map_some, Option.map_none, List.map_toArray, List.map_cons, List.map_nil, rho_const, rho_func]; (repeat (conv in rho _ _ _ _ (Operand.tmp _) => whnf)); (try simp only [hd]); go_simp; (repeat (conv in rho _ _ _ _ (Operand.tmp _) => whnf)); (try simp only [hd]);  rfl))
        refine free_op (fun v_ w_ => Mine (w.heap.size + 1) w_ v_ l1) rfl (mine_mono _ _) (fun vs wq hg hd => by
          have hW := G3.out.trans (Grows.of_drew hg)
          have hsz := Nat.le_trans HLR.out (Below.size hW)
          (try simp [Region.binds] at hd); simp only [Does]; simp only [execOp, resolve, Option.map_some, Option.map_none, List.map_toArray, List.map_cons, List.map_nil, rho_const, rho_func]; (repeat (conv in rho _ _ _ _ (Operand.tmp _) => whnf)); (try simp only [hd]); go_simp; (repeat (conv in rho _ _ _ _ (Operand.tmp _) => whnf))
          refine (CP1.out wq hW).mono ?_
          rintro e w5 ⟨q, rfl, hq, hg5⟩
          exact ⟨_, rfl, hg5, hq.more hsz⟩) ?_
        repeat (apply free_pure rfl; focus (intro vs w hg hd;  (try simp [Region.binds] at hd); simp only [execOp, resolve, Option.map_some, Option.map_none, List.map_toArray, List.map_cons, List.map_nil, rho_const, rho_func]; (repeat (conv in rho _ _ _ _ (Operand.tmp _) => whnf)); (try simp only [hd]); go_simp; (repeat (conv in rho _ _ _ _ (Operand.tmp _) => whnf)); (try simp only [hd]);  rfl))
        refine free_op (fun v_ _ => v_ = .agg (ptA r.ptr)) rfl (dk_mono _) (fun vs wq hg hd => by
          (try simp [Region.binds] at hd)
          refine dk_load 45 (.tmp 25) ⟨wr.heap.size, 1, none⟩ _ rfl ?_ (pt_run_loadK (range_grows HP.out (Grows.of_drew hg))) ⟨Grows.refl _, rfl⟩
          (conv in rho _ _ _ _ (Operand.tmp _) => whnf)
          simp [hd]) ?_
        refine free_op (fun v_ w_ => Mine (w.heap.size + 1) w_ v_ nx) rfl (mine_mono _ _) (fun vs wq hg hd => by
          have hW := G3.out.trans (Grows.of_drew hg)
          have hsz := Nat.le_trans HLR.out (Below.size hW)
          (try simp [Region.binds] at hd); simp only [Does]; simp only [execOp, resolve, Option.map_some, Option.map_none, List.map_toArray, List.map_cons, List.map_nil, rho_const, rho_func]; (repeat (conv in rho _ _ _ _ (Operand.tmp _) => whnf)); (try simp only [hd]); go_simp; (repeat (conv in rho _ _ _ _ (Operand.tmp _) => whnf))
          refine (CP2.out _ wq hd.1.bytes (HB.out.trans hW)).mono ?_
          rintro e w5 ⟨q, rfl, hq, hg5⟩
          exact ⟨_, rfl, hg5, hq.more hsz⟩) ?_
        intro vs w' hg hv; have h6 := hv 6 (by omega); simp at h6; simp only [putL, dstAt, List.range, List.range.loop, if_true, List.getElem?_toArray, List.getElem?_cons_zero, List.getElem?_cons_succ, Option.bind_some, Act.put, List.setIfInBounds_toArray, List.set_cons_zero, List.set_cons_succ]
        have hW := Lib.hid (G3.out.trans (Grows.of_drew hg))
        have H9 := Lib.hid h6
        have R9 := Lib.hid (HRw.out.grows hW.out)
        have G9 := Lib.hid (HB.out.trans hW.out)
        clear hv h6 hg
        generalize vs 0 = z0, vs 1 = z1, vs 2 = z2, vs 3 = z3, vs 4 = z4, vs 5 = z5, vs 6 = z6 at *
        go_wp2
        go_roundw
        case rel => exact ⟨k + 1, by omega, by go_num, by rw [← HNX.out]; exact H9.out, R9.out, G9.out⟩
        case measure => simp [intOf]; omega
      · obtain rfl : k = l.length := by omega
        have hlt' : ¬ (l.length : Int) < l.length := by omega
        rw [HPA.out] at HM
        have HFi := Lib.hid (fun W v (h : Bytes (World.heap W).size W v (BrM.encB l)) => fill_any v (BrM.encB l) W h (by have := HF.out.2.2.2; omega))
        rw [← HF.out.1, HF.out.2.2.1] at HFi
        have HFL := Lib.hid (BrM.encP_len l)
        have HEE := Lib.hid HF.out.2.1
        rw [HPA.out]
        clear hm hpl HPl HPA HP0 HF
        generalize BrM.encB l = eb at *
        obtain ⟨ep, hep⟩ : ∃ ep, ep = BrM.encP l := ⟨_, rfl⟩
        rw [← hep] at HFi HFL
        have HEP := Lib.hid hep
        clear hep
        go_wp2_with (first
          | (go_at_call 25; (with_reducible refine (HFi.out _ _ HM.out.bytes).mono ?_); rintro e w3 ⟨rfl, hg⟩; have R3 := Lib.hid (HRw.out.grows hg); have G3 := Lib.hid (HB.out.trans hg); clear hg)
          | ((with_reducible refine wpList_store_page ?_ (.tmp 2) (.tmp 31) ?_ w.heap.size ep noughts ?_ ?_ ?_ ?_ ?_); exact rfl; exact rfl; exact rfl; exact rfl; exact HFL.out; exact R3.out; intro w4 hp4 hg4)
          | (refine bodyPost_ret (results_page_two (p := 2) (q := 3) (by exact rfl) _ (.int .i64 0) (by exact rfl) (by exact rfl) hp4) rfl ?_; exact ⟨by rw [HEE.out, ← HEP.out], G3.out.grown hg4 G3.out.size (fun k e => by cases e; exact Nat.le_refl _)⟩))
end Go.Proofs.YtjcommodiihcdaaDoor
/- What branch takes ahead in bytes: a kid. -/
namespace Go.Proofs.YtjcommodiihcdaaDoor
open Go.RowKit
set_option linter.unusedVariables false
set_option linter.unusedSimpArgs false
namespace BrM
def tkE (b : List (BitVec 8)) : Int := if PackM.tbE b 8 = 0 then PtM.takeE (PackM.tbR b 8) else PackM.tbE b 8
def tkP (b : List (BitVec 8)) : Pt := if PackM.tbE b 8 = 0 then PtM.takeP (PackM.tbR b 8) else PtM.none
def tkR (b : List (BitVec 8)) : List (BitVec 8) := if PackM.tbE b 8 = 0 then PtM.takeR (PackM.tbR b 8) else PackM.tbR b 8
theorem tkR_len (b : List (BitVec 8)) : (tkR b).length ≤ b.length := by
  unfold tkR; split
  · exact Nat.le_trans (ptR_len7 _) (tbR_len7 _ _)
  · exact tbR_len7 _ _
theorem kid_tk {b : List (BitVec 8)} (h : tkE b = 0) : kid b = some (⟨PackM.tbS b 8, tkP b⟩, tkR b) := by
  unfold tkE at h
  by_cases h8 : PackM.tbE b 8 = 0
  · rw [if_pos h8] at h
    rw [kid_yes h8 h]
    unfold tkP tkR
    rw [if_pos h8, if_pos h8]
  · rw [if_neg h8] at h
    exact absurd h h8
theorem kid_err {b : List (BitVec 8)} (h : ¬ tkE b = 0) : kid b = none := by
  refine kid_no fun h2 => h ?_
  unfold tkE
  rw [if_pos h2.1]
  exact h2.2
end BrM
def noK : KRaw := ⟨none, 0, 0, PtM.none⟩
theorem results_kid_three {w : World} {g : Nat} {x : KRaw} {fn : Func} {p q r : Tmp} (h : fn.results = #[.cell p 47, .tmp q, .tmp r]) (tmps : Array Value) (u v : Value) (hp : tmps.getD p undef = .pointer (some ⟨g, 0, none⟩)) (hq : tmps.getD q undef = u) (hv : tmps.getD r undef = v) (hr : Row w g 47 (kdA x)) :
    (results fn tmps).run Tryd.prog w = .ok (.tuple #[.agg (kdA x), u, v]) w := by
  have hp' : tmps[p]?.getD undef = .pointer (some ⟨g, 0, none⟩) := by simpa using hp
  have hq' : tmps[q]?.getD undef = u := by simpa using hq
  have hv' : tmps[r]?.getD undef = v := by simpa using hv
  simp [results, h, hp', hq', hv', asAddr, kid_run_load (kdA_row hr)]
theorem kpt_there {W : World} {g : Nat} {r : KRaw} (h : Row W g 47 (kdA r)) : W.there g 1 5 := fun j hj => by
  refine ⟨?_, h.frozen _⟩
  rw [h.cell]
  have : 1 + j < (kdA r).size := by show 1 + j < 6; omega
  rw [Array.getElem?_eq_getElem this]
  rfl
theorem krow_pt {W : World} {g : Nat} {r : KRaw} {P : Pt} (h : Row W g 47 (kdA r)) : Row (W.setCells g 1 (ptE P)) g 47 (kdA { r with ptr := P }) :=
  ((((h.set 1 (.int .u8 (bI P.kind))).set 2 (.int .u16 (hI P.a))).set 3 (.int .u16 (hI P.b))).set 4 (.int .u32 (wI P.birth))).set 5 (.int .u64 (uI P.sum))
theorem wpList_store_ptK {w : World} {ops : Array Oper} {rest : List Oper} {op : Oper} {a : Act} {Q : Exit → Act → World → Prop} (hgd : op.guard = none) (x y : Operand) (ho : op.op = .store 45 x y) (g : Nat) (P : Pt) (r : KRaw) (hx : a.eval x = .pointer (some ⟨g, 1, none⟩)) (hy : a.eval y = .agg (ptA P)) (hr : Row w g 47 (kdA r))
    (h : ∀ w', Row w' g 47 (kdA { r with ptr := P }) → w.grownBy w' (some g) → wpList Tryd.prog ops Q rest (a.put op.dst undef) w') : wpList Tryd.prog ops Q (op :: rest) a w :=
  wpList_store_mid hgd 45 x y ho g 1 (ptA P) hx hy (kpt_there hr) ptr_info (ptA_one P) (h _ (krow_pt hr) (cells_grown _ _ _))
set_option maxHeartbeats 4000000 in
theorem take7_any (v : Value) (b : List (BitVec 8)) (w : World) (hv : Bytes w.heap.size w v b) (hl : b.length ≤ 900000) (hG : Glob w) :
    Calls Tryd.prog 46 #[v] w fun e w' => ∃ r q, e = .returned (.tuple #[.agg (kdA r), q, .int .i64 (BrM.tkE b)]) ∧ KdOwn w.heap.size w' r ⟨PackM.tbS b 8, BrM.tkP b⟩ ∧ Mine w.heap.size w' q (BrM.tkR b) ∧ Grows w w' := by
  have X0 := Lib.hid (Row.new w 47 #[.slice none 0 0, .int .u8 0, .int .u16 0, .int .u16 0, .int .u32 0, .int .u64 0])
  have G0 := Lib.hid (Grows.alloc w (.cells #[.slice none 0 0, .int .u8 0, .int .u16 0, .int .u16 0, .int .u32 0, .int .u64 0] 47))
  have HGl := Lib.hid hG
  have H1 := Lib.hid (takeBytes_any v b 8 _ ((hv.below G0.out).more G0.out.size) hl (by omega) (by omega))
  have H2 := Lib.hid (fun q W (h : Bytes (World.heap W).size W q (PackM.tbR b 8)) (hg : Grows w W) => pttake_any q (PackM.tbR b 8) W h (by have := BrM.tbR_len7 b 8; omega) (HGl.out.grows hg))
  obtain ⟨A, cap, rfl, _⟩ := hv
  simp only [List.length_map] at H1 ⊢
  clear hG
  by_cases h : PackM.tbE b 8 = 0
  · have hE : Hid (BrM.tkE b = PtM.takeE (PackM.tbR b 8)) := if_pos h
    have hP : Hid (BrM.tkP b = PtM.takeP (PackM.tbR b 8)) := if_pos h
    have hR : Hid (BrM.tkR b = PtM.takeR (PackM.tbR b 8)) := if_pos h
    rw [hE.out, hP.out, hR.out]
    rw [h] at H1
    clear h hE hP hR
    generalize PackM.tbR b 8 = b1 at *
    generalize PackM.tbS b 8 = S0 at *
    generalize PtM.takeE b1 = E at *
    generalize PtM.takeP b1 = TP at *
    generalize PtM.takeR b1 = R at *
    go_enter Tryd.func46, Tryd.ntmps46
    go_wp2_with (first
      | (go_at_call 56; (with_reducible refine H1.out.mono ?_); rintro e w1 ⟨s, q, rfl, hs, hq, hg⟩; have G1 := Lib.hid (G0.out.trans hg); have X1 := Lib.hid (Row.grows X0.out hg); have S1 := Lib.hid (hs.more G0.out.size); have Q1 := Lib.hid (hq.more G0.out.size); obtain ⟨As, cs, rfl, _, _⟩ := hs.form; have k1 := X1.out.cell 0; have f1 := X1.out.frozen 0; have X2 : Hid (Row (w1.setCell ⟨w.heap.size, 0, none⟩ (.slice As S0.length cs)) w.heap.size 47 (kdA ⟨As, S0.length, cs, PtM.none⟩)) := X1.out.set 0 (.slice As S0.length cs); have S2 := Lib.hid (S1.out.apartK (setCell_grown _ _ 0 (.slice As S0.length cs)) X1.out (by decide)); have Q2 := Lib.hid (Q1.out.apartK (setCell_grown _ _ 0 (.slice As S0.length cs)) X1.out (by decide)); have G2 := Lib.hid (show Grows w (w1.setCell ⟨w.heap.size, 0, none⟩ (.slice As S0.length cs)) from Below.setCell G1.out (p := ⟨w.heap.size, 0, none⟩) (by simp) (.slice As S0.length cs)); clear hs hq hg)
      | (go_at_call 57; (with_reducible refine (H2.out _ _ Q2.out.bytes G2.out).mono ?_); rintro e w3 ⟨q3, rfl, hq, hg⟩; have X3 := Lib.hid (Row.grows X2.out hg); have S3 := Lib.hid (S2.out.grows hg); have Q3 := Lib.hid (hq.more G2.out.size); have G3 := Lib.hid (G2.out.trans hg); clear hq hg)
      | ((with_reducible refine wpList_store_ptK ?_ (.tmp 20) (.tmp 17) ?_ w.heap.size TP ⟨As, S0.length, cs, PtM.none⟩ ?_ ?_ ?_ ?_); exact rfl; exact rfl; exact rfl; exact rfl; exact X3.out; intro w4 hp4 hg4; have X4 : Hid (Row w4 w.heap.size 47 (kdA ⟨As, S0.length, cs, TP⟩)) := hp4; have S4 := Lib.hid (S3.out.apartK hg4 X3.out (by decide)); have Q4 := Lib.hid (Q3.out.apartK hg4 X3.out (by decide)); have G4 := Lib.hid (show Grows w w4 from Below.grown G3.out hg4 G3.out.size (fun k e => by cases e; exact Nat.le_refl _)); clear hp4 hg4)
      | ((with_reducible refine wpList_load_kid (op := ⟨some 21, _, _, _, _, _⟩) ?_ (.tmp 2) ?_ w.heap.size 0 ⟨As, S0.length, cs, TP⟩ ?_ ?_ ?_); exact rfl; exact rfl; exact rfl; exact kdA_row X4.out)
      | ((with_reducible refine wpList_store_kid ?_ (.tmp 2) (.tmp 21) ?_ w.heap.size ⟨As, S0.length, cs, TP⟩ (kdA ⟨As, S0.length, cs, TP⟩) ?_ ?_ ?_ ?_ ?_); exact rfl; exact rfl; exact rfl; exact rfl; exact rfl; exact X4.out; intro w5 hp5 hg5; have X5 := Lib.hid hp5; have S5 := Lib.hid (S4.out.apartK hg5 X4.out (by decide)); have Q5 := Lib.hid (Q4.out.apartK hg5 X4.out (by decide)); have G5 := Lib.hid (show Grows w w5 from Below.grown G4.out hg5 G4.out.size (fun k e => by cases e; exact Nat.le_refl _)); clear hp5 hg5))
    refine bodyPost_ret (results_kid_three (p := 2) (q := 3) (r := 4) (by exact rfl) _ _ _ (by exact rfl) (by exact rfl) (by exact rfl) X5.out) rfl ?_
    exact ⟨_, _, rfl, ⟨S5.out, rfl⟩, Q5.out, G5.out⟩
  · have hE : Hid (BrM.tkE b = PackM.tbE b 8) := if_neg h
    have hP : Hid (BrM.tkP b = PtM.none) := if_neg h
    have hR : Hid (BrM.tkR b = PackM.tbR b 8) := if_neg h
    rw [hE.out, hP.out, hR.out]
    clear hE hP hR H2
    generalize PackM.tbR b 8 = b1 at *
    generalize PackM.tbS b 8 = S0 at *
    generalize PackM.tbE b 8 = E at *
    have hb : (E == 0) = false := by simpa using h
    go_enter Tryd.func46, Tryd.ntmps46
    go_wp2_with (first
      | (go_at_call 56; (with_reducible refine H1.out.mono ?_); rintro e w1 ⟨s, q, rfl, hs, hq, hg⟩; have G1 := Lib.hid (G0.out.trans hg); have X1 := Lib.hid (Row.grows X0.out hg); have S1 := Lib.hid (hs.more G0.out.size); have Q1 := Lib.hid (hq.more G0.out.size); obtain ⟨As, cs, rfl, _, _⟩ := hs.form; have k1 := X1.out.cell 0; have f1 := X1.out.frozen 0; have X2 : Hid (Row (w1.setCell ⟨w.heap.size, 0, none⟩ (.slice As S0.length cs)) w.heap.size 47 (kdA ⟨As, S0.length, cs, PtM.none⟩)) := X1.out.set 0 (.slice As S0.length cs); have S2 := Lib.hid (S1.out.apartK (setCell_grown _ _ 0 (.slice As S0.length cs)) X1.out (by decide)); have Q2 := Lib.hid (Q1.out.apartK (setCell_grown _ _ 0 (.slice As S0.length cs)) X1.out (by decide)); have G2 := Lib.hid (show Grows w (w1.setCell ⟨w.heap.size, 0, none⟩ (.slice As S0.length cs)) from Below.setCell G1.out (p := ⟨w.heap.size, 0, none⟩) (by simp) (.slice As S0.length cs)); clear hs hq hg)
      | ((with_reducible refine wpList_load_kid (op := ⟨some 21, _, _, _, _, _⟩) ?_ (.tmp 2) ?_ w.heap.size 0 ⟨As, S0.length, cs, PtM.none⟩ ?_ ?_ ?_); exact rfl; exact rfl; exact rfl; exact kdA_row X2.out)
      | ((with_reducible refine wpList_store_kid ?_ (.tmp 2) (.tmp 21) ?_ w.heap.size ⟨As, S0.length, cs, PtM.none⟩ (kdA ⟨As, S0.length, cs, PtM.none⟩) ?_ ?_ ?_ ?_ ?_); exact rfl; exact rfl; exact rfl; exact rfl; exact rfl; exact X2.out; intro w5 hp5 hg5; have X5 := Lib.hid hp5; have S5 := Lib.hid (S2.out.apartK hg5 X2.out (by decide)); have Q5 := Lib.hid (Q2.out.apartK hg5 X2.out (by decide)); have G5 := Lib.hid (show Grows w w5 from Below.grown G2.out hg5 G2.out.size (fun k e => by cases e; exact Nat.le_refl _)); clear hp5 hg5))
    refine bodyPost_ret (results_kid_three (p := 2) (q := 3) (r := 4) (by exact rfl) _ _ _ (by exact rfl) (by exact rfl) (by exact rfl) X5.out) rfl ?_
    exact ⟨_, _, rfl, ⟨S5.out, rfl⟩, Q5.out, G5.out⟩
end Go.Proofs.YtjcommodiihcdaaDoor
