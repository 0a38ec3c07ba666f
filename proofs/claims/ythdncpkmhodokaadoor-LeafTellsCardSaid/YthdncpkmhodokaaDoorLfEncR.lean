/- LfEncR -/
import Derived.Test.YthdncpkmhodokaaDoorLfA
import Derived.Test.YthdncpkmhodokaaDoorLfB
import Derived.Test.YthdncpkmhodokaaDoorKeepB
import Derived.Test.YthdncpkmhodokaaDoorPackRef
import Derived.Test.YthdncpkmhodokaaDoorPackRef2
import Derived.Test.YthdncpkmhodokaaDoorPtPut
/- The document's Encode for layer 6. -/
namespace Go.Proofs.YthdncpkmhodokaaDoor
open Go.RowKit
set_option linter.unusedVariables false
set_option linter.unusedSimpArgs false
theorem keeps_below {B : Nat} {n : BitVec 8} {L : List (BitVec 8)} {w3 wq : World} (h : KeepsB B n L w3.drew wq) (hB : B ≤ w3.heap.size) : Below B w3 wq := (Below.mono (Grows.drew w3) hB).trans (h.below hB)
theorem grows_below {w w3 wq : World} (h : Grows w w3) (hb : Below (w.heap.size + 1) w3 wq) : Grows w wq := Below.trans h (Below.mono hb (Nat.le_succ _))
theorem first_of (a b : List (BitVec 8)) : ∀ (i : Nat) (x : BitVec 8), a[i]? = some x → (a ++ b)[i]? = some x := fun i x h => by
  rw [List.getElem?_append_left (List.getElem?_eq_some_iff.1 h).1]; exact h
theorem LeafM.step_in {b : List (BitVec 8)} {x : It} (h : x.over.kind = 0#8) : LeafM.step b x = PackM.putBytes (PackM.putBytes b x.key ++ [0#8]) x.val := if_pos h
theorem LeafM.step_out {b : List (BitVec 8)} {x : It} (h : ¬ x.over.kind = 0#8) : LeafM.step b x = PtM.put (PackM.put (PackM.putBytes b x.key ++ [1#8]) (x.size.setWidth 64) 2) x.over := if_neg h
theorem putBytes_pre (b s : List (BitVec 8)) : ∃ t, PackM.putBytes b s = b ++ t := ⟨_, rfl⟩
theorem put_pre (b : List (BitVec 8)) (n : BitVec 64) (k : Int) : ∃ t, PackM.put b n k = b ++ t := ⟨_, rfl⟩
theorem putBytes_lenR (b s : List (BitVec 8)) : (PackM.putBytes b s).length ≤ b.length + 256 := by
  unfold PackM.putBytes
  rw [List.length_append, List.length_cons, List.length_take]; omega
theorem put_lenR (b : List (BitVec 8)) (n : BitVec 64) (k : Int) : (PackM.put b n k).length ≤ b.length + 8 := by
  unfold PackM.put
  have := PackM.wd_hi k
  rw [List.length_append, Num.bytes_length]; omega
set_option maxRecDepth 20000 in
set_option maxHeartbeats 8000000 in
theorem rencode6_any (v : Value) (l : List It) (w : World) (hv : Its w.heap.size w v l) :
    Calls Tryd.prog 11 #[v] w fun e w' => e = .returned (.tuple #[.agg (pageA (LeafM.encP l)), .int .i64 (LeafM.encE l)]) ∧ Grows w w' := by
  have hz := fun w => zero_page w
  have R0 := Lib.hid (PRow.new w noughts_length)
  have G0 := Lib.hid (Grows.alloc w (.cells (pageA noughts) 24))
  have HRt := Lib.hid (rrights6_any v l _ ((hv.below G0.out).more G0.out.size))
  obtain ⟨A, cap, rfl, q1, q2, q3⟩ := hv.form
  have HQ := Lib.hid q3
  clear q3 hv
  unfold maxLen at q2
  cases hR : LeafM.right l
  · rw [hR] at HRt
    have HE := Lib.hid (LeafM.enc_not hR)
    go_enter Tryd.func11, Tryd.ntmps11
    go_wp2_with (first
      | (go_at_call 16; (with_reducible refine HRt.out.mono ?_); rintro e w1 ⟨rfl, hg⟩; have R1 := Lib.hid (R0.out.grows hg); have G1 := Lib.hid (G0.out.trans hg); clear hg)
      | ((with_reducible refine wpList_store_page ?_ (.tmp 2) (.tmp 11) ?_ w.heap.size noughts noughts ?_ ?_ ?_ ?_ ?_); exact rfl; exact rfl; exact rfl; exact rfl; exact noughts_length; exact R1.out; intro w2 hp2 hg2)
      | (refine bodyPost_ret (results_page_two (p := 2) (q := 3) (by exact rfl) _ (.int .i64 2) (by exact rfl) (by exact rfl) hp2) rfl ?_; exact ⟨by rw [HE.out.1, HE.out.2]; rfl, G1.out.grown hg2 G1.out.size (fun k e => by cases e; exact Nat.le_refl _)⟩))
  · rw [hR] at HRt
    obtain ⟨h6, hok⟩ := LeafM.right_ok hR
    have HPl := Lib.hid (fun k => LeafM.part_len hR k)
    have HF := Lib.hid (LeafM.enc_fill hR)
    have hwl := wrap_u8_len h6
    have HP0 := Lib.hid (LeafM.part_zero l)
    have HPA := Lib.hid (LeafM.part_all l)
    clear hok hR
    go_enter Tryd.func11, Tryd.ntmps11
    go_wp2_with (first
      | (go_at_call 16; (with_reducible refine HRt.out.mono ?_); rintro e w1 ⟨rfl, hg⟩; have R1 := Lib.hid (R0.out.grows hg); have G1 := Lib.hid (G0.out.trans hg); clear hg))
    have M1 := Lib.hid (Mine.lit (base := w.heap.size + 1) w1 #[.int .u8 1, .int .u8 (bI (BitVec.ofNat 8 l.length))] (LeafM.part l 0) (by have := R1.out.lt; omega) (by rw [HP0.out]; simp) (by rw [HP0.out]; rfl))
    have R2 := Lib.hid (R1.out.alloc (.cells #[.int .u8 1, .int .u8 (bI (BitVec.ofNat 8 l.length))] 5))
    have G2 := Lib.hid (G1.out.trans (Grows.alloc w1 (.cells #[.int .u8 1, .int .u8 (bI (BitVec.ofNat 8 l.length))] 5)))
    go_loopw [4, 5] (fun b i wr => ∃ k : Nat, k ≤ l.length ∧ i = .int .i64 k ∧ Mine (w.heap.size + 1) wr b (LeafM.part l k) ∧ PRow wr w.heap.size noughts ∧ Grows w wr) (fun _ i _ => l.length - (intOf i).toNat)
    case atStart => exact ⟨0, Nat.zero_le _, rfl, M1.out, R2.out, G2.out⟩
    case round =>
      obtain ⟨k, hk, rfl, hm, hp, hb⟩ := hrel
      have HM := Lib.hid hm; have HRw := Lib.hid hp; have HB := Lib.hid hb
      obtain ⟨A2, c2, rfl, _, _⟩ := hm.form
      clear hp hb
      have hpl := HPl.out k
      by_cases hlt : k < l.length
      · obtain ⟨g1, o1, rfl, hg1, hcA⟩ := HQ.out (by omega)
        have e1 : l[k]? = some l[k] := List.getElem?_eq_getElem hlt
        obtain ⟨r, hr, hc⟩ := hcA k _ e1
        have HRr := Lib.hid hr
        have HCr := Lib.hid (fun W (h : Grows w W) => raw_at (rangeAt_keep hc (fun a ha => Below.cell h (by omega))))
        have HG1 := Lib.hid hg1
        have HT := LeafM.part_succ e1
        have k3 := hr.2.2.1; have k4 := hr.2.2.2
        have hlt' : (k : Int) < l.length := by omega
        clear hcA hr hc e1 hm
        generalize l[k] = x at *
        obtain ⟨nx, hnx⟩ : ∃ nx, nx = LeafM.part l (k + 1) := ⟨_, rfl⟩
        rw [← hnx] at HT
        have HNX := Lib.hid hnx
        clear hnx
        generalize LeafM.part l k = cu at *
        have CP1 := Lib.hid (rputBytes_any (.slice A2 cu.length c2) (.slice r.ka r.kn r.kc) cu x.key wr HM.out.bytes (HRr.out.grows HB.out).1 (by omega))
        obtain ⟨l1, hl1⟩ : ∃ l1, l1 = PackM.putBytes cu x.key := ⟨_, rfl⟩
        have n1 : l1.length ≤ 500 := by rw [hl1]; have := putBytes_lenR cu x.key; omega
        have c0 := (HCr.out wr HB.out).1
        have HLR : Hid (w.heap.size + 1 ≤ wr.heap.size) := by have := HRw.out.lt; unfold Hid; omega
        by_cases hk0 : bI r.over.kind = 0
        · have hkk : x.over.kind = 0#8 := by rw [← k3]; exact (bI_eq_of (n := 0) (by decide)).1 hk0
          have hkb : (bI r.over.kind == 0) = true := by simpa using hk0
          obtain ⟨l2, hl2⟩ : ∃ l2, l2 = PackM.putBytes (l1 ++ [0#8]) x.val := ⟨_, rfl⟩
          have HN2 : Hid (l2 = nx) := by unfold Hid; rw [HT, LeafM.step_in hkk, hl2, hl1]
          obtain ⟨t2, ht2⟩ := putBytes_pre (l1 ++ [0#8]) x.val
          rw [← hl2] at ht2
          have HPA1 : Hid (∀ (i : Nat) (y : BitVec 8), l1[i]? = some y → l2[i]? = some y) := fun i y h => by rw [ht2, List.append_assoc]; exact first_of _ _ i y h
          have HPA2 : Hid (∀ (i : Nat) (y : BitVec 8), (l1 ++ [0#8])[i]? = some y → l2[i]? = some y) := fun i y h => by rw [ht2]; exact first_of _ _ i y h
          have HLL : Hid (l2[l1.length]? = some 0#8) := HPA2.out _ _ (by rw [List.getElem?_append_right (Nat.le_refl _), Nat.sub_self]; rfl)
          have CP2 := Lib.hid (fun q W (h : Bytes (World.heap W).size W q (l1 ++ [0#8])) (hg : Grows w W) => rputBytes_any q (.slice r.va r.vn r.vc) (l1 ++ [0#8]) x.val W h (HRr.out.grows hg).2.1 (by rw [List.length_append]; simp only [List.length_singleton]; omega))
          rw [← hl2] at CP2
          rw [← hl1] at CP1
          clear ht2 hl1 hl2 HT hkk k3 k4
          go_wp2_with (first
            | (go_at_call 22; (with_reducible refine CP1.out.mono ?_); rintro e w3 ⟨q, rfl, hq, hg⟩; obtain ⟨A3, c3, rfl, _, _⟩ := hq.form; have M3 := Lib.hid (hq.more HLR.out); have R3 := Lib.hid (HRw.out.grows hg); have G3 := Lib.hid (HB.out.trans hg); have kc2 := (HCr.out _ G3.out).2.2.1; clear hq hg))
          have HLQ : Hid (w.heap.size + 1 ≤ w3.heap.size) := by have := R3.out.lt; unfold Hid; omega
          have fc : ∀ w', KeepsB (w.heap.size + 1) 0#8 l2 w3.drew w' → w'.cell? ⟨g1, o1 + k * 8 + 1, none⟩ = some (.slice r.va r.vn r.vc) := fun w' h => ((keeps_below h HLQ.out).cell (p := ⟨g1, o1 + k * 8 + 1, none⟩) (by have := HG1.out; show g1 < _; omega)).trans (HCr.out w3 G3.out).2.1
          have hGR := KeepsB.rel (B := w.heap.size + 1) (n := 0#8) (L := l2)
          refine wp_region_freeG hGR 10 71 (by kernel_rfl) (by kernel_rfl) rfl (by kernel_rfl) ?_; simp only [List.take_succ_cons, List.take_zero, List.drop_succ_cons, List.drop_zero]
          refine free_opG (OwnB (w.heap.size + 1) l1) rfl (OwnB.mono HPA1.out) (fun vs wq hg hd => by
            have ho := OwnB.mono HPA1.out _ w3.drew wq ⟨HLQ.out, M3.out⟩ hg
            (try simp [Region.binds] at hd); simp only [Does]; simp only [execOp, resolve, Option.map_some, Option.map_none, List.map_toArray, List.map_cons, List.map_nil, rho_const, rho_func]; (repeat (conv in rho _ _ _ _ (Operand.tmp _) => whnf)); (try simp only [hd]); go_simp; (repeat (conv in rho _ _ _ _ (Operand.tmp _) => whnf))
            first | exact KeepsB.rel.refl _ | exact ⟨KeepsB.rel.refl _, ho⟩) ?_
          refine free_opG (OneB (w.heap.size + 1) 0#8) rfl OneB.mono (fun vs wq hg hd => by
            have hbs := (keeps_below hg HLQ.out).size
            (try simp [Region.binds] at hd); simp only [Does]; simp only [execOp, resolve, Option.map_some, Option.map_none, List.map_toArray, List.map_cons, List.map_nil, rho_const, rho_func]; (repeat (conv in rho _ _ _ _ (Operand.tmp _) => whnf)); (try simp only [hd]); go_simp; (repeat (conv in rho _ _ _ _ (Operand.tmp _) => whnf))
            exact ⟨KeepsB.of_grows (Grows.alloc _ _), Nat.le_trans HLQ.out (Nat.le_trans hbs (Below.size (Grows.alloc _ _))), wq.heap.size, rfl, Row.new _ _ _⟩) ?_
          refine free_opG (OwnB (w.heap.size + 1) (l1 ++ [0#8])) rfl (OwnB.mono HPA2.out) (fun vs wq hg hd => by
            simp [Region.binds] at hd
            refine does_append_oneB (.tmp 36) (.tmp 37) rfl ?_ ?_ (by omega) HLL.out
            · (conv in rho _ _ _ _ (Operand.tmp _) => whnf)
              exact hd.1
            · (conv in rho _ _ _ _ (Operand.tmp _) => whnf)
              exact hd.2) ?_
          repeat (apply free_pureG hGR rfl; focus (intro vs w hg hd; have q0 := fc _ hg; (try simp [Region.binds] at hd); simp only [execOp, resolve, Option.map_some, Option.map_none, List.map_toArray, List.map_cons, List.map_nil, rho_const, rho_func]; (repeat (conv in rho _ _ _ _ (Operand.tmp _) => whnf)); (try simp only [hd]); go_simp; (repeat (conv in rho _ _ _ _ (Operand.tmp _) => whnf)); (try simp only [hd]); rfl))
          refine free_opG (OwnB (w.heap.size + 1) l2) rfl (OwnB.mono (fun _ _ h => h)) (fun vs wq hg hd => by
            have hbe := keeps_below hg HLQ.out
            (try simp [Region.binds] at hd); simp only [Does]; simp only [execOp, resolve, Option.map_some, Option.map_none, List.map_toArray, List.map_cons, List.map_nil, rho_const, rho_func]; (repeat (conv in rho _ _ _ _ (Operand.tmp _) => whnf)); (try simp only [hd]); go_simp; (repeat (conv in rho _ _ _ _ (Operand.tmp _) => whnf))
            refine (CP2.out _ wq hd.1.2.bytes (grows_below G3.out hbe)).mono ?_
            rintro e w5 ⟨q, rfl, hq, hg5⟩
            exact ⟨_, rfl, KeepsB.of_grows hg5, Nat.le_trans HLQ.out (Nat.le_trans hbe.size hg5.size), hq.more (Nat.le_trans HLQ.out hbe.size)⟩) ?_
          refine free_opG (OwnB (w.heap.size + 1) l2) rfl (OwnB.mono (fun _ _ h => h)) (fun vs wq hg hd => by
            (try simp [Region.binds] at hd); simp only [Does]; simp only [execOp, resolve, Option.map_some, Option.map_none, List.map_toArray, List.map_cons, List.map_nil, rho_const, rho_func]; (repeat (conv in rho _ _ _ _ (Operand.tmp _) => whnf)); (try simp only [hd]); go_simp; (repeat (conv in rho _ _ _ _ (Operand.tmp _) => whnf))
            first | exact KeepsB.rel.refl _ | exact ⟨KeepsB.rel.refl _, hd.1⟩ | exact ⟨KeepsB.rel.refl _, hd⟩) ?_
          intro vs w' hg hv; have h9 := hv 9 (by omega); simp at h9; simp only [putL, dstAt, List.range, List.range.loop, if_true, List.getElem?_toArray, List.getElem?_cons_zero, List.getElem?_cons_succ, Option.bind_some, Act.put, List.setIfInBounds_toArray, List.set_cons_zero, List.set_cons_succ]
          have hbW := keeps_below hg HLQ.out
          have H9 := Lib.hid h9
          have R9 := Lib.hid (R3.out.below (w' := w') hbW (by omega))
          have G9 := Lib.hid (grows_below G3.out hbW)
          clear hv h9 hg hbW hGR fc
          generalize vs 0 = z0, vs 1 = z1, vs 2 = z2, vs 3 = z3, vs 4 = z4, vs 5 = z5, vs 6 = z6, vs 7 = z7, vs 8 = z8, vs 9 = z9 at *
          go_wp2
          go_roundw
          case rel => exact ⟨k + 1, by omega, by go_num, by rw [← HNX.out, ← HN2.out]; exact H9.out.2, R9.out, G9.out⟩
          case measure => simp [intOf]; omega
        · have hkk : ¬ x.over.kind = 0#8 := by rw [← k3]; exact fun e => hk0 ((bI_eq_of (n := 0) (by decide)).2 e)
          have hkb : (bI r.over.kind == 0) = false := by simpa using hk0
          obtain ⟨l2, hl2⟩ : ∃ l2, l2 = PackM.put (l1 ++ [1#8]) (x.size.setWidth 64) 2 := ⟨_, rfl⟩
          have n2 : l2.length ≤ 600 := by rw [hl2]; have := put_lenR (l1 ++ [1#8]) (x.size.setWidth 64) 2; rw [List.length_append] at this; simp only [List.length_singleton] at this; omega
          obtain ⟨l3, hl3⟩ : ∃ l3, l3 = PtM.put l2 x.over := ⟨_, rfl⟩
          have HN2 : Hid (l3 = nx) := by unfold Hid; rw [HT, LeafM.step_out hkk, hl3, hl2, hl1]
          obtain ⟨t2, ht2⟩ := put_pre (l1 ++ [1#8]) (x.size.setWidth 64) 2
          rw [← hl2] at ht2
          have HPA1 : Hid (∀ (i : Nat) (y : BitVec 8), l1[i]? = some y → l2[i]? = some y) := fun i y h => by rw [ht2, List.append_assoc]; exact first_of _ _ i y h
          have HPA2 : Hid (∀ (i : Nat) (y : BitVec 8), (l1 ++ [1#8])[i]? = some y → l2[i]? = some y) := fun i y h => by rw [ht2]; exact first_of _ _ i y h
          have HLL : Hid (l2[l1.length]? = some 1#8) := HPA2.out _ _ (by rw [List.getElem?_append_right (Nat.le_refl _), Nat.sub_self]; rfl)
          have CP2 := Lib.hid (fun q W (h : Bytes (World.heap W).size W q (l1 ++ [1#8])) => rput_any q (l1 ++ [1#8]) (x.size.setWidth 64) 2 W h (by rw [List.length_append]; simp only [List.length_singleton]; omega) (by omega) (by omega))
          rw [← hl2] at CP2
          rw [← hl1] at CP1
          have CP3 := Lib.hid (fun q W (h : Bytes (World.heap W).size W q l2) => rptput_any q l2 x.over W h (by omega))
          rw [← hl3] at CP3
          have hws := wrap_u64_hI r.size
          rw [k4] at hws
          have HK3 := Lib.hid k3; have HK4 := Lib.hid k4
          clear ht2 hl1 hl2 hl3 HT hkk k3 k4
          go_wp2_with (first
            | (go_at_call 22; (with_reducible refine CP1.out.mono ?_); rintro e w3 ⟨q, rfl, hq, hg⟩; obtain ⟨A3, c3, rfl, _, _⟩ := hq.form; have M3 := Lib.hid (hq.more HLR.out); have R3 := Lib.hid (HRw.out.grows hg); have G3 := Lib.hid (HB.out.trans hg); have kc2 := (HCr.out _ G3.out).2.2.1; clear hq hg))
          have HLQ : Hid (w.heap.size + 1 ≤ w3.heap.size) := by have := R3.out.lt; unfold Hid; omega
          have fc : ∀ w', KeepsB (w.heap.size + 1) 1#8 l2 w3.drew w' → w'.cell? ⟨g1, o1 + k * 8 + 7, none⟩ = some (.int .u16 (hI x.size)) := fun w' h => ((keeps_below h HLQ.out).cell (p := ⟨g1, o1 + k * 8 + 7, none⟩) (by have := HG1.out; show g1 < _; omega)).trans (by have h := (HCr.out w3 G3.out).2.2.2.1; rw [HK4.out] at h; exact h)
          have hGR := KeepsB.rel (B := w.heap.size + 1) (n := 1#8) (L := l2)
          refine wp_region_freeG hGR 11 71 (by kernel_rfl) (by kernel_rfl) rfl (by kernel_rfl) ?_; simp only [List.take_succ_cons, List.take_zero, List.drop_succ_cons, List.drop_zero]
          refine free_opG (OwnB (w.heap.size + 1) l1) rfl (OwnB.mono HPA1.out) (fun vs wq hg hd => by
            have ho := OwnB.mono HPA1.out _ w3.drew wq ⟨HLQ.out, M3.out⟩ hg
            (try simp [Region.binds] at hd); simp only [Does]; simp only [execOp, resolve, Option.map_some, Option.map_none, List.map_toArray, List.map_cons, List.map_nil, rho_const, rho_func]; (repeat (conv in rho _ _ _ _ (Operand.tmp _) => whnf)); (try simp only [hd]); go_simp; (repeat (conv in rho _ _ _ _ (Operand.tmp _) => whnf))
            first | exact KeepsB.rel.refl _ | exact ⟨KeepsB.rel.refl _, ho⟩) ?_
          refine free_opG (OneB (w.heap.size + 1) 1#8) rfl OneB.mono (fun vs wq hg hd => by
            have hbs := (keeps_below hg HLQ.out).size
            (try simp [Region.binds] at hd); simp only [Does]; simp only [execOp, resolve, Option.map_some, Option.map_none, List.map_toArray, List.map_cons, List.map_nil, rho_const, rho_func]; (repeat (conv in rho _ _ _ _ (Operand.tmp _) => whnf)); (try simp only [hd]); go_simp; (repeat (conv in rho _ _ _ _ (Operand.tmp _) => whnf))
            exact ⟨KeepsB.of_grows (Grows.alloc _ _), Nat.le_trans HLQ.out (Nat.le_trans hbs (Below.size (Grows.alloc _ _))), wq.heap.size, rfl, Row.new _ _ _⟩) ?_
          refine free_opG (OwnB (w.heap.size + 1) (l1 ++ [1#8])) rfl (OwnB.mono HPA2.out) (fun vs wq hg hd => by
            simp [Region.binds] at hd
            refine does_append_oneB (.tmp 45) (.tmp 46) rfl ?_ ?_ (by omega) HLL.out
            · (conv in rho _ _ _ _ (Operand.tmp _) => whnf)
              exact hd.1
            · (conv in rho _ _ _ _ (Operand.tmp _) => whnf)
              exact hd.2) ?_
          repeat (apply free_pureG hGR rfl; focus (intro vs w hg hd; have q0 := fc _ hg; (try simp [Region.binds] at hd); simp only [execOp, resolve, Option.map_some, Option.map_none, List.map_toArray, List.map_cons, List.map_nil, rho_const, rho_func]; (repeat (conv in rho _ _ _ _ (Operand.tmp _) => whnf)); (try simp only [hd]); go_simp; (repeat (conv in rho _ _ _ _ (Operand.tmp _) => whnf)); (try simp only [hd]); rfl))
          refine free_opG (OwnB (w.heap.size + 1) l2) rfl (OwnB.mono (fun _ _ h => h)) (fun vs wq hg hd => by
            have hbe := keeps_below hg HLQ.out
            (try simp [Region.binds] at hd); simp only [Does]; simp only [execOp, resolve, Option.map_some, Option.map_none, List.map_toArray, List.map_cons, List.map_nil, rho_const, rho_func]; (repeat (conv in rho _ _ _ _ (Operand.tmp _) => whnf)); (try simp only [hd]); go_simp; (repeat (conv in rho _ _ _ _ (Operand.tmp _) => whnf))
            (try rw [hws])
            refine (CP2.out _ wq hd.1.2.bytes).mono ?_
            rintro e w5 ⟨q, rfl, hq, hg5⟩
            exact ⟨_, rfl, KeepsB.of_grows hg5, Nat.le_trans HLQ.out (Nat.le_trans hbe.size hg5.size), hq.more (Nat.le_trans HLQ.out hbe.size)⟩) ?_
          refine free_opG (OwnB (w.heap.size + 1) l2) rfl (OwnB.mono (fun _ _ h => h)) (fun vs wq hg hd => by
            (try simp [Region.binds] at hd); simp only [Does]; simp only [execOp, resolve, Option.map_some, Option.map_none, List.map_toArray, List.map_cons, List.map_nil, rho_const, rho_func]; (repeat (conv in rho _ _ _ _ (Operand.tmp _) => whnf)); (try simp only [hd]); go_simp; (repeat (conv in rho _ _ _ _ (Operand.tmp _) => whnf))
            first | exact KeepsB.rel.refl _ | exact ⟨KeepsB.rel.refl _, hd.1⟩ | exact ⟨KeepsB.rel.refl _, hd⟩) ?_
          intro vs w' hg hv; have h10 := hv 10 (by omega); simp at h10; simp only [putL, dstAt, List.range, List.range.loop, if_true, List.getElem?_toArray, List.getElem?_cons_zero, List.getElem?_cons_succ, Option.bind_some, Act.put, List.setIfInBounds_toArray, List.set_cons_zero, List.set_cons_succ]
          have hbW := keeps_below hg HLQ.out
          have H9 := Lib.hid h10
          have R9 := Lib.hid (R3.out.below (w' := w') hbW (by omega))
          have G9 := Lib.hid (grows_below G3.out hbW)
          have P9 := (HCr.out _ G9.out).2.2.2.2
          rw [HK3.out] at P9
          have HP9 := Lib.hid P9
          clear hv h10 hg hbW hGR fc P9
          generalize vs 0 = z0, vs 1 = z1, vs 2 = z2, vs 3 = z3, vs 4 = z4, vs 5 = z5, vs 6 = z6, vs 7 = z7, vs 8 = z8, vs 9 = z9, vs 10 = z10 at *
          have M9 : Hid (Mine (w.heap.size + 1) w' z10 l2) := H9.out.2
          have B9 : Hid (w.heap.size + 1 ≤ w'.heap.size) := H9.out.1
          clear H9
          obtain ⟨A9, n9, c9, rfl⟩ : ∃ A n c, z10 = Value.slice A n c := (by obtain ⟨A, c, e, _⟩ := M9.out.form; exact ⟨A, _, c, e⟩)
          go_wp2_with (first
            | ((with_reducible refine wpList_load_ptAt (op := ⟨some 60, _, _, _, _, _⟩) ?_ (.tmp 59) ?_ g1 (o1 + k * 8 + 2) x.over ?_ ?_ ?_); exact rfl; exact rfl; exact rfl; exact HP9.out)
            | (go_at_call 24; (with_reducible refine (CP3.out _ _ M9.out.bytes).mono ?_); rintro e w8 ⟨q, rfl, hq, hg⟩; have M8 := Lib.hid (hq.more B9.out); have R8 := Lib.hid (R9.out.grows hg); have G8 := Lib.hid (G9.out.trans hg); clear hq hg))
          go_roundw
          case rel => exact ⟨k + 1, by omega, by go_num, by rw [← HNX.out, ← HN2.out]; exact M8.out, R8.out, G8.out⟩
          case measure => simp [intOf]; omega
      · obtain rfl : k = l.length := by omega
        have hlt' : ¬ (l.length : Int) < l.length := by omega
        rw [HPA.out] at HM
        have HFi := Lib.hid (fun W v (h : Bytes (World.heap W).size W v (LeafM.encB l)) => rfill_any v (LeafM.encB l) W h (by have := HF.out.2.2.2; omega))
        rw [← HF.out.1, HF.out.2.2.1] at HFi
        have HFL := Lib.hid (LeafM.encP_len l)
        have HEE := Lib.hid HF.out.2.1
        rw [HPA.out]
        clear hm hpl HPl HPA HP0 HF
        generalize LeafM.encB l = eb at *
        obtain ⟨ep, hep⟩ : ∃ ep, ep = LeafM.encP l := ⟨_, rfl⟩
        rw [← hep] at HFi HFL
        have HEP := Lib.hid hep
        clear hep
        go_wp2_with (first
          | (go_at_call 25; (with_reducible refine (HFi.out _ _ HM.out.bytes).mono ?_); rintro e w3 ⟨rfl, hg⟩; have R3 := Lib.hid (HRw.out.grows hg); have G3 := Lib.hid (HB.out.trans hg); clear hg)
          | ((with_reducible refine wpList_store_page ?_ (.tmp 6) (.tmp 65) ?_ w3.heap.size ep noughts ?_ ?_ ?_ ?_ ?_); exact rfl; exact rfl; exact rfl; exact rfl; exact HFL.out; exact PRow.new w3 noughts_length; intro w5 hp5 hg5; have g := grown_fresh (W := w3) (W' := w5) rfl hg5; have N5 := Lib.hid hp5; have R5 := Lib.hid (R3.out.grows g); have G5 := Lib.hid (G3.out.trans g); clear hp5 hg5 g)
          | ((with_reducible refine wpList_load_page (o := ⟨some 70, _, _, _, _, _⟩) ?_ (.tmp 6) ?_ w3.heap.size ep ?_ ?_ ?_); exact rfl; exact rfl; exact rfl; exact N5.out)
          | ((with_reducible refine wpList_store_page ?_ (.tmp 2) (.tmp 70) ?_ w.heap.size ep noughts ?_ ?_ ?_ ?_ ?_); exact rfl; exact rfl; exact rfl; exact rfl; exact HFL.out; exact R5.out; intro w6 hp6 hg6)
          | (refine bodyPost_ret (results_page_two (p := 2) (q := 3) (by exact rfl) _ (.int .i64 0) (by exact rfl) (by exact rfl) hp6) rfl ?_; exact ⟨by rw [HEE.out, ← HEP.out], G5.out.grown hg6 G5.out.size (fun k e => by cases e; exact Nat.le_refl _)⟩))
end Go.Proofs.YthdncpkmhodokaaDoor
