/- LfTake -/
import Derived.Test.YthdncpkmhodokaaDoorLfA
import Derived.Test.YthdncpkmhodokaaDoorFreeG
import Derived.Test.YthdncpkmhodokaaDoorVdA
import Derived.Test.YthdncpkmhodokaaDoorPackTb
import Derived.Test.YthdncpkmhodokaaDoorPackTake
import Derived.Test.YthdncpkmhodokaaDoorPtTake
/- What leaf takes ahead in bytes: a key and where its value stands; a size and a pointer. -/
namespace Go.Proofs.YthdncpkmhodokaaDoor
open Go.RowKit
set_option linter.unusedVariables false
set_option linter.unusedSimpArgs false
namespace LeafM
def tkE (b : List (BitVec 8)) : Int := if PackM.tbE b 8 = 0 then PackM.takeE (PackM.tbR b 8) 1 else PackM.tbE b 8
def tkN (b : List (BitVec 8)) : BitVec 64 := if PackM.tbE b 8 = 0 then PackM.takeN (PackM.tbR b 8) 1 else 0#64
def tkR (b : List (BitVec 8)) : List (BitVec 8) := if PackM.tbE b 8 = 0 then PackM.takeR (PackM.tbR b 8) 1 else PackM.tbR b 8
def toE (b : List (BitVec 8)) : Int := if PackM.takeE b 2 = 0 then PtM.takeE (PackM.takeR b 2) else PackM.takeE b 2
def toP (b : List (BitVec 8)) : Pt := if PackM.takeE b 2 = 0 then PtM.takeP (PackM.takeR b 2) else PtM.none
def toR (b : List (BitVec 8)) : List (BitVec 8) := if PackM.takeE b 2 = 0 then PtM.takeR (PackM.takeR b 2) else PackM.takeR b 2
end LeafM
theorem tbR_len' (b : List (BitVec 8)) (m : Int) : (PackM.tbR b m).length ≤ b.length := by
  unfold PackM.tbR; split
  · rw [List.length_drop]; omega
  · exact Nat.le_refl _
theorem takeR_len' (b : List (BitVec 8)) (m : Int) : (PackM.takeR b m).length ≤ b.length := by
  unfold PackM.takeR; split
  · exact Nat.le_refl _
  · rw [List.length_drop]; omega
theorem results_four {w : World} {fn : Func} {o p q r : Tmp} (h : fn.results = #[.tmp o, .tmp p, .tmp q, .tmp r]) (tmps : Array Value) (s t u v : Value) (ho : tmps.getD o undef = s) (hp : tmps.getD p undef = t) (hq : tmps.getD q undef = u) (hv : tmps.getD r undef = v) :
    (results fn tmps).run Tryd.prog w = .ok (.tuple #[s, t, u, v]) w := by
  have ho' : tmps[o]?.getD undef = s := by simpa using ho
  have hp' : tmps[p]?.getD undef = t := by simpa using hp
  have hq' : tmps[q]?.getD undef = u := by simpa using hq
  have hv' : tmps[r]?.getD undef = v := by simpa using hv
  simp [results, h, ho', hp', hq', hv']
set_option maxHeartbeats 2000000 in
theorem takeKey_any (v : Value) (b : List (BitVec 8)) (w : World) (hv : Bytes w.heap.size w v b) (hl : b.length ≤ 900000) :
    Calls Tryd.prog 42 #[v] w fun e w' => ∃ s r, e = .returned (.tuple #[s, .int .u64 (uI (LeafM.tkN b)), r, .int .i64 (LeafM.tkE b)]) ∧ Mine w.heap.size w' s (PackM.tbS b 8) ∧ Mine w.heap.size w' r (LeafM.tkR b) ∧ Grows w w' := by
  have H1 := Lib.hid (takeBytes_any v b 8 w hv hl (by omega) (by omega))
  have H2 := Lib.hid (fun q W (h : Bytes (World.heap W).size W q (PackM.tbR b 8)) => take_any q (PackM.tbR b 8) 1 W h (by have := tbR_len' b 8; omega) (by omega) (by omega))
  have u0 : uI 0#64 = 0 := rfl
  obtain ⟨A, cap, rfl, _⟩ := hv
  simp only [List.length_map] at H1 ⊢
  by_cases h : PackM.tbE b 8 = 0
  · have hE : Hid (LeafM.tkE b = PackM.takeE (PackM.tbR b 8) 1) := if_pos h
    have hN : Hid (LeafM.tkN b = PackM.takeN (PackM.tbR b 8) 1) := if_pos h
    have hR : Hid (LeafM.tkR b = PackM.takeR (PackM.tbR b 8) 1) := if_pos h
    rw [hE.out, hN.out, hR.out]
    rw [h] at H1
    clear h hE hN hR
    generalize PackM.tbR b 8 = b1 at *
    generalize PackM.tbS b 8 = s1 at *
    generalize PackM.takeE b1 1 = E at *
    generalize PackM.takeN b1 1 = N at *
    generalize PackM.takeR b1 1 = R at *
    go_enter Tryd.func42, Tryd.ntmps42
    go_wp2_with (first
      | (go_at_call 43; (with_reducible refine H1.out.mono ?_); rintro e w1 ⟨s, r, rfl, hs, hr, hg⟩; have S1 := Lib.hid hs; have Q1 := Lib.hid hr; have G1 := Lib.hid hg; clear hs hr hg)
      | (go_at_call 55; (with_reducible refine (H2.out _ _ Q1.out.bytes).mono ?_); rintro e w2 ⟨r2, rfl, hr, hg⟩; have S2 := Lib.hid (S1.out.grows hg); have Q2 := Lib.hid (hr.more G1.out.size); have G2 := Lib.hid (G1.out.trans hg); clear hr hg))
    refine bodyPost_ret (results_four (o := 2) (p := 3) (q := 4) (r := 5) (by exact rfl) _ _ _ _ _ (by exact rfl) (by exact rfl) (by exact rfl) (by exact rfl)) rfl ?_
    exact ⟨_, _, rfl, S2.out, Q2.out, G2.out⟩
  · have hE : Hid (LeafM.tkE b = PackM.tbE b 8) := if_neg h
    have hN : Hid (LeafM.tkN b = 0#64) := if_neg h
    have hR : Hid (LeafM.tkR b = PackM.tbR b 8) := if_neg h
    rw [hE.out, hN.out, hR.out, u0]
    clear hE hN hR H2
    generalize PackM.tbE b 8 = E at *
    generalize PackM.tbR b 8 = b1 at *
    generalize PackM.tbS b 8 = s1 at *
    go_enter Tryd.func42, Tryd.ntmps42
    go_wp2_with (first
      | (go_at_call 43; (with_reducible refine H1.out.mono ?_); rintro e w1 ⟨s, r, rfl, hs, hr, hg⟩; have S1 := Lib.hid hs; have Q1 := Lib.hid hr; have G1 := Lib.hid hg; clear hs hr hg))
    refine bodyPost_ret (results_four (o := 2) (p := 3) (q := 4) (r := 5) (by exact rfl) _ _ _ _ _ (by exact rfl) (by exact rfl) (by exact rfl) (by exact rfl)) rfl ?_
    exact ⟨_, _, rfl, S1.out, Q1.out, G1.out⟩
theorem results_pt_four {w : World} {g : Nat} {x : Pt} {fn : Func} {o p q r : Tmp} (h : fn.results = #[.tmp o, .cell p 43, .tmp q, .tmp r]) (tmps : Array Value) (t u v : Value) (ho : tmps.getD o undef = t) (hp : tmps.getD p undef = .pointer (some ⟨g, 0, none⟩)) (hq : tmps.getD q undef = u) (hv : tmps.getD r undef = v) (hr : Row w g 43 (ptA x)) :
    (results fn tmps).run Tryd.prog w = .ok (.tuple #[t, .agg (ptA x), u, v]) w := by
  have ho' : tmps[o]?.getD undef = t := by simpa using ho
  have hp' : tmps[p]?.getD undef = .pointer (some ⟨g, 0, none⟩) := by simpa using hp
  have hq' : tmps[q]?.getD undef = u := by simpa using hq
  have hv' : tmps[r]?.getD undef = v := by simpa using hv
  simp [results, h, ho', hp', hq', hv', asAddr, run_load_pt hr]
set_option maxHeartbeats 4000000 in
theorem takeOver_any (v : Value) (b : List (BitVec 8)) (w : World) (hv : Bytes w.heap.size w v b) (hl : b.length ≤ 900000) (hG : Glob w) :
    Calls Tryd.prog 44 #[v] w fun e w' => ∃ r, e = .returned (.tuple #[.int .u16 (hI ((PackM.takeN b 2).setWidth 16)), .agg (ptA (LeafM.toP b)), r, .int .i64 (LeafM.toE b)]) ∧ Mine w.heap.size w' r (LeafM.toR b) ∧ Grows w w' := by
  have X0 := Lib.hid (Row.new w 43 #[.int .u8 0, .int .u16 0, .int .u16 0, .int .u32 0, .int .u64 0])
  have G0 := Lib.hid (Grows.alloc w (.cells #[.int .u8 0, .int .u16 0, .int .u16 0, .int .u32 0, .int .u64 0] 43))
  have HGl := Lib.hid hG
  have H1 := Lib.hid (take_any v b 2 _ (hv.below G0.out |>.more G0.out.size) hl (by omega) (by omega))
  have H2 := Lib.hid (fun q W (h : Bytes (World.heap W).size W q (PackM.takeR b 2)) (hg : Grows w W) => pttake_any q (PackM.takeR b 2) W h (by have := takeR_len' b 2; omega) (HGl.out.grows hg))
  obtain ⟨A, cap, rfl, _⟩ := hv
  simp only [List.length_map] at H1 ⊢
  clear hG
  by_cases h : PackM.takeE b 2 = 0
  · have hE : Hid (LeafM.toE b = PtM.takeE (PackM.takeR b 2)) := if_pos h
    have hP : Hid (LeafM.toP b = PtM.takeP (PackM.takeR b 2)) := if_pos h
    have hR : Hid (LeafM.toR b = PtM.takeR (PackM.takeR b 2)) := if_pos h
    rw [hE.out, hP.out, hR.out]
    rw [h] at H1
    clear h hE hP hR
    generalize PackM.takeR b 2 = b1 at *
    generalize PackM.takeN b 2 = N at *
    generalize PtM.takeE b1 = E at *
    generalize PtM.takeP b1 = TP at *
    generalize PtM.takeR b1 = R at *
    go_enter Tryd.func44, Tryd.ntmps44
    go_wp2_with (first
      | (go_at_call 55; (with_reducible refine H1.out.mono ?_); rintro e w1 ⟨r, rfl, hr, hg⟩; have X1 := Lib.hid (Row.grows X0.out hg); have Q1 := Lib.hid hr; have G1 := Lib.hid (G0.out.trans hg); clear hr hg)
      | (go_at_call 57; (with_reducible refine (H2.out _ _ Q1.out.bytes G1.out).mono ?_); rintro e w2 ⟨r2, rfl, hr, hg⟩; have X2 := Lib.hid (Row.grows X1.out hg); have Q2 := Lib.hid (hr.more G1.out.size); have G2 := Lib.hid (G1.out.trans hg); clear hr hg)
      | ((with_reducible refine wpList_store_pt ?_ (.tmp 3) (.tmp 18) ?_ w.heap.size TP #[.int .u8 0, .int .u16 0, .int .u16 0, .int .u32 0, .int .u64 0] ?_ ?_ ?_ ?_ ?_); exact rfl; exact rfl; exact rfl; exact rfl; exact rfl; exact X2.out; intro w3 hp hg; have X3 := Lib.hid hp; have Q3 := Lib.hid (Q2.out.beside hg X2.out (by decide)); have G3 := Lib.hid (grown_grows G2.out hg (Nat.le_refl _)); clear hp hg))
    have hGR := Writes.rel (g := w.heap.size) (t := 43) (new := ptA TP) (n := 5)
    refine wp_region_freeG hGR 9 26 (by kernel_rfl) (by kernel_rfl) rfl (by kernel_rfl) ?_; simp only [List.take_succ_cons, List.take_zero, List.drop_succ_cons, List.drop_zero]
    repeat (apply free_pureG hGR rfl; focus (intro vs w hg hd;  (try simp [Region.binds] at hd); simp only [execOp, resolve, Option.map_some, Option.map_none, List.map_toArray, List.map_cons, List.map_nil, rho_const, rho_func]; (repeat (conv in rho _ _ _ _ (Operand.tmp _) => whnf)); (try simp only [hd]); go_simp; (repeat (conv in rho _ _ _ _ (Operand.tmp _) => whnf)); (try simp only [hd]); rfl))
    refine free_opG (fun v_ _ => v_ = .agg (ptA TP)) rfl (fun _ _ _ h _ => h) (fun vs wq hg hd => by
      (try simp [Region.binds] at hd)
      refine dk_load 43 (.tmp 3) ⟨w.heap.size, 0, none⟩ _ rfl ?_ (run_load_pt (hg.2.1 X3.out)) ⟨Writes.rel.refl _, rfl⟩
      (conv in rho _ _ _ _ (Operand.tmp _) => whnf)) ?_
    repeat (apply free_pureG hGR rfl; focus (intro vs w hg hd;  (try simp [Region.binds] at hd); simp only [execOp, resolve, Option.map_some, Option.map_none, List.map_toArray, List.map_cons, List.map_nil, rho_const, rho_func]; (repeat (conv in rho _ _ _ _ (Operand.tmp _) => whnf)); (try simp only [hd]); go_simp; (repeat (conv in rho _ _ _ _ (Operand.tmp _) => whnf)); (try simp only [hd]); rfl))
    refine free_opG (fun v_ w_ => Row w_ w.heap.size 43 (ptA TP)) rfl (fun _ _ _ h k => k.2.1 h) (fun vs wq hg hd => by
      simp [Region.binds] at hd
      obtain ⟨old, ho1, ho2⟩ := hg.2.2 ⟨ptA TP, rfl, X3.out⟩
      refine does_store_row 43 (.tmp 3) (.tmp 23) rfl w.heap.size (ptA TP) ?_ ?_ old _ ho2 ptr_info (by rw [ho1]; rfl) (ptA_one TP) fun w' r1 r2 => ⟨Writes.of_write r2 r1 rfl, r1⟩
      · (conv in rho _ _ _ _ (Operand.tmp _) => whnf)
      · (conv in rho _ _ _ _ (Operand.tmp _) => whnf)
        simp [hd]) ?_
    repeat (apply free_pureG hGR rfl; focus (intro vs w hg hd;  (try simp [Region.binds] at hd); simp only [execOp, resolve, Option.map_some, Option.map_none, List.map_toArray, List.map_cons, List.map_nil, rho_const, rho_func]; (repeat (conv in rho _ _ _ _ (Operand.tmp _) => whnf)); (try simp only [hd]); go_simp; (repeat (conv in rho _ _ _ _ (Operand.tmp _) => whnf)); (try simp only [hd]); rfl))
    intro vs w' hg hv; have h5 := hv 5 (by omega); simp at h5; have h6 := hv 6 (by omega); simp at h6; have h7 := hv 7 (by omega); simp at h7; have h8 := hv 8 (by omega); simp at h8; simp only [putL, dstAt, List.range, List.range.loop, if_true, List.getElem?_toArray, List.getElem?_cons_zero, List.getElem?_cons_succ, Option.bind_some, Act.put, List.setIfInBounds_toArray, List.set_cons_zero, List.set_cons_succ]
    have hgW := Lib.hid (hg.grows (G3.out.trans (Grows.drew _)) (Nat.le_refl _))
    have hM := Lib.hid (Q3.out.beside (w := (w3).drew) hg.1 X3.out (by decide))
    rw [h5, h7, h8]
    have hR2 := h6
    clear hv h5 h6 h7 h8 hg hGR
    generalize vs 0 = z0, vs 1 = z1, vs 2 = z2, vs 3 = z3, vs 4 = z4, vs 5 = z5, vs 6 = z6, vs 7 = z7, vs 8 = z8 at *
    go_wp2
    refine bodyPost_ret (results_pt_four (o := 2) (p := 3) (q := 4) (r := 5) (by exact rfl) _ _ _ _ (by exact rfl) (by exact rfl) (by exact rfl) (by exact rfl) hR2) rfl ?_
    exact ⟨_, by rw [← wrap_u16_uI]; rfl, hM.out, hgW.out⟩
  · have hE : Hid (LeafM.toE b = PackM.takeE b 2) := if_neg h
    have hP : Hid (LeafM.toP b = PtM.none) := if_neg h
    have hR : Hid (LeafM.toR b = PackM.takeR b 2) := if_neg h
    rw [hE.out, hP.out, hR.out]
    clear hE hP hR H2
    generalize PackM.takeR b 2 = b1 at *
    generalize PackM.takeN b 2 = N at *
    generalize PackM.takeE b 2 = E at *
    have hZ0 : Hid (ptA PtM.none = #[.int .u8 0, .int .u16 0, .int .u16 0, .int .u32 0, .int .u64 0]) := rfl
    go_enter Tryd.func44, Tryd.ntmps44
    go_wp2_with (first
      | (go_at_call 55; (with_reducible refine H1.out.mono ?_); rintro e w1 ⟨r, rfl, hr, hg⟩; have X1 := Lib.hid (Row.grows X0.out hg); have Q1 := Lib.hid (hr.more G0.out.size); have G1 := Lib.hid (G0.out.trans hg); clear hr hg))
    rw [← hZ0.out] at X1
    have hGR := Writes.rel (g := w.heap.size) (t := 43) (new := ptA PtM.none) (n := 5)
    refine wp_region_freeG hGR 9 26 (by kernel_rfl) (by kernel_rfl) rfl (by kernel_rfl) ?_; simp only [List.take_succ_cons, List.take_zero, List.drop_succ_cons, List.drop_zero]
    repeat (apply free_pureG hGR rfl; focus (intro vs w hg hd;  (try simp [Region.binds] at hd); simp only [execOp, resolve, Option.map_some, Option.map_none, List.map_toArray, List.map_cons, List.map_nil, rho_const, rho_func]; (repeat (conv in rho _ _ _ _ (Operand.tmp _) => whnf)); (try simp only [hd]); go_simp; (repeat (conv in rho _ _ _ _ (Operand.tmp _) => whnf)); (try simp only [hd]); rfl))
    refine free_opG (fun v_ _ => v_ = .agg (ptA PtM.none)) rfl (fun _ _ _ h _ => h) (fun vs wq hg hd => by
      (try simp [Region.binds] at hd)
      refine dk_load 43 (.tmp 3) ⟨w.heap.size, 0, none⟩ _ rfl ?_ (run_load_pt (hg.2.1 X1.out)) ⟨Writes.rel.refl _, rfl⟩
      (conv in rho _ _ _ _ (Operand.tmp _) => whnf)) ?_
    repeat (apply free_pureG hGR rfl; focus (intro vs w hg hd;  (try simp [Region.binds] at hd); simp only [execOp, resolve, Option.map_some, Option.map_none, List.map_toArray, List.map_cons, List.map_nil, rho_const, rho_func]; (repeat (conv in rho _ _ _ _ (Operand.tmp _) => whnf)); (try simp only [hd]); go_simp; (repeat (conv in rho _ _ _ _ (Operand.tmp _) => whnf)); (try simp only [hd]); rfl))
    refine free_opG (fun v_ w_ => Row w_ w.heap.size 43 (ptA PtM.none)) rfl (fun _ _ _ h k => k.2.1 h) (fun vs wq hg hd => by
      simp [Region.binds] at hd
      obtain ⟨old, ho1, ho2⟩ := hg.2.2 ⟨ptA PtM.none, rfl, X1.out⟩
      refine does_store_row 43 (.tmp 3) (.tmp 23) rfl w.heap.size (ptA PtM.none) ?_ ?_ old _ ho2 ptr_info (by rw [ho1]; rfl) (ptA_one PtM.none) fun w' r1 r2 => ⟨Writes.of_write r2 r1 rfl, r1⟩
      · (conv in rho _ _ _ _ (Operand.tmp _) => whnf)
      · (conv in rho _ _ _ _ (Operand.tmp _) => whnf)
        simp [hd]) ?_
    repeat (apply free_pureG hGR rfl; focus (intro vs w hg hd;  (try simp [Region.binds] at hd); simp only [execOp, resolve, Option.map_some, Option.map_none, List.map_toArray, List.map_cons, List.map_nil, rho_const, rho_func]; (repeat (conv in rho _ _ _ _ (Operand.tmp _) => whnf)); (try simp only [hd]); go_simp; (repeat (conv in rho _ _ _ _ (Operand.tmp _) => whnf)); (try simp only [hd]); rfl))
    intro vs w' hg hv; have h5 := hv 5 (by omega); simp at h5; have h6 := hv 6 (by omega); simp at h6; have h7 := hv 7 (by omega); simp at h7; have h8 := hv 8 (by omega); simp at h8; simp only [putL, dstAt, List.range, List.range.loop, if_true, List.getElem?_toArray, List.getElem?_cons_zero, List.getElem?_cons_succ, Option.bind_some, Act.put, List.setIfInBounds_toArray, List.set_cons_zero, List.set_cons_succ]
    have hgW := Lib.hid (hg.grows (G1.out.trans (Grows.drew _)) (Nat.le_refl _))
    have hM := Lib.hid (Q1.out.beside (w := (w1).drew) hg.1 X1.out (by decide))
    rw [h5, h7, h8]
    have hR2 := h6
    clear hv h5 h6 h7 h8 hg hGR
    generalize vs 0 = z0, vs 1 = z1, vs 2 = z2, vs 3 = z3, vs 4 = z4, vs 5 = z5, vs 6 = z6, vs 7 = z7, vs 8 = z8 at *
    go_wp2
    refine bodyPost_ret (results_pt_four (o := 2) (p := 3) (q := 4) (r := 5) (by exact rfl) _ _ _ _ (by exact rfl) (by exact rfl) (by exact rfl) (by exact rfl) hR2) rfl ?_
    exact ⟨_, by rw [← wrap_u16_uI]; rfl, hM.out, hgW.out⟩
end Go.Proofs.YthdncpkmhodokaaDoor
