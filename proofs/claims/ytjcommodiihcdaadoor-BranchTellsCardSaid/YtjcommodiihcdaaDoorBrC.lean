/- BrRight BrMay BrRightO -/
import Derived.Test.YtjcommodiihcdaaDoorBrA
import Derived.Test.YtjcommodiihcdaaDoorPtA
import Derived.Test.YtjcommodiihcdaaDoorPtRef
import Derived.Test.YtjcommodiihcdaaDoorBaseA
import Derived.Test.YtjcommodiihcdaaDoorStr
import Derived.Test.YtjcommodiihcdaaDoorLfB
import Derived.Test.YtjcommodiihcdaaDoorLfA
import Derived.Test.YtjcommodiihcdaaDoorPtRight
/- The document's Right for layer 7: may kids be? -/
namespace Go.Proofs.YtjcommodiihcdaaDoor
open Go.RowKit
set_option linter.unusedVariables false
set_option linter.unusedSimpArgs false
theorem BrM.kind0_eq {l : List Kd} {x : Kd} (h : l[0]? = some x) : BrM.kind0 l = x.ptr.kind := by unfold BrM.kind0; rw [h]
theorem BrM.head_eq {l : List Kd} {x : Kd} (h : l[0]? = some x) : BrM.head l = decide (x.key.length = 0) := by unfold BrM.head; rw [h]
theorem BrM.ptOk_eq (k : BitVec 8) (x : Kd) : BrM.ptOk k x = (PtM.node x.ptr && PtM.right x.ptr 256 && (bI x.ptr.kind == bI k)) := by unfold BrM.ptOk; rw [bI_beq]
theorem BrM.okAt_k {l : List Kd} {k : Nat} {x : Kd} (hx : l[k]? = some x) (h : BrM.ptOk (BrM.kind0 l) x = false) : BrM.okAt l k = false := by unfold BrM.okAt; rw [hx]; simp [h]
set_option maxRecDepth 20000 in
set_option maxHeartbeats 8000000 in
theorem rrights7_any (v : Value) (l : List Kd) (w : World) (hv : Kds w.heap.size w v l) :
    Calls Tryd.prog 16 #[v] w fun e w' => e = .returned (.bool (BrM.right l)) ∧ Grows w w' := by
  have HV := Lib.hid hv
  obtain ⟨A, cap, rfl, q1, q2, q3⟩ := hv.form
  have HQ := Lib.hid q3
  clear q3 hv
  unfold maxLen at q2
  by_cases hfew : l.length < 2
  · have hfew' : (l.length : Int) < 2 := by omega
    have HF := Lib.hid (BrM.right_few hfew)
    go_enter Tryd.func16, Tryd.ntmps16
    go_wp2
    go_ret
    exact ⟨by rw [HF.out]; rfl, Grows.refl _⟩
  by_cases hmany : 6 < l.length
  · have hfew' : ¬ (l.length : Int) < 2 := by omega
    have hmany' : (6 : Int) < l.length := by omega
    have HF := Lib.hid (BrM.right_many hmany)
    go_enter Tryd.func16, Tryd.ntmps16
    go_wp2
    go_ret
    exact ⟨by rw [HF.out]; rfl, Grows.refl _⟩
  have hfew' : ¬ (l.length : Int) < 2 := by omega
  have hmany' : ¬ (6 : Int) < l.length := by omega
  have hpos : (0 : Int) < l.length := by omega
  obtain ⟨g1, o1, rfl, hg1, hcA⟩ := HQ.out (by omega)
  clear HQ
  have e0 : l[0]? = some (l[0]'(by omega)) := List.getElem?_eq_getElem (by omega)
  obtain ⟨r0, hr0, hc0⟩ := hcA 0 _ e0
  rw [show o1 + 0 * 6 = o1 by omega] at hc0
  have z0 := (kd_at hc0).1
  have Z1 := Lib.hid (kd_at hc0).2.1
  have HH := Lib.hid (BrM.head_eq e0)
  have HK0 := Lib.hid (BrM.kind0_eq e0)
  have hn0 := hr0.1.len
  have hp0 := hr0.2
  rw [← hn0] at HH
  rw [← hp0] at HK0
  have HCA := Lib.hid hcA
  have HG1 := Lib.hid hg1
  clear hr0 hc0 hn0 hp0 hcA e0 hg1
  by_cases hhd : r0.kn = 0
  case neg =>
    have hhd' : ¬ (r0.kn : Int) = 0 := by omega
    have hhb : ((r0.kn : Int) != 0) = true := by simpa using hhd
    have HF : Hid (BrM.right l = false) := BrM.right_head (by rw [HH.out]; exact decide_eq_false hhd)
    go_enter Tryd.func16, Tryd.ntmps16
    go_wp2
    go_ret
    exact ⟨by rw [HF.out]; rfl, Grows.refl _⟩
  have HHd : Hid (BrM.head l = true) := by unfold Hid; rw [HH.out]; exact decide_eq_true hhd
  have hhb : ((r0.kn : Int) != 0) = false := by simpa using hhd
  clear HH
  go_enter Tryd.func16, Tryd.ntmps16
  go_wp2
  clear z0 hhb hhd
  go_loopw [3] (fun i wr => ∃ k : Nat, k ≤ l.length ∧ i = .int .i64 k ∧ (List.range k).all (BrM.okAt l) = true ∧ Grows w wr) (fun i _ => l.length - (intOf i).toNat)
  case atStart => exact ⟨0, Nat.zero_le _, rfl, rfl, Grows.refl _⟩
  case round =>
    obtain ⟨k, hk, rfl, hg, hb⟩ := hrel
    have HGr := Lib.hid hg; have HB := Lib.hid hb
    clear hg hb
    by_cases hlt : k < l.length
    · have e1 : l[k]? = some l[k] := List.getElem?_eq_getElem hlt
      obtain ⟨r, hr, hc⟩ := HCA.out k _ e1
      have HC := Lib.hid (kd_at (rangeAt_keep hc (fun a ha => Below.cell HB.out (by have := HG1.out; omega))))
      have HK := Lib.hid (hr.grows HB.out).1
      have HP := Lib.hid HC.out.2.2.2
      have c0 := (Below.cell HB.out (p := ⟨g1, o1 + 1, none⟩) HG1.out).trans Z1.out
      have c1 := HC.out.2.1
      have HNo := Lib.hid (fun h => BrM.right_false (k := k) hlt h)
      have HYes := Lib.hid (fun h => BrM.all_step (k := k) HGr.out h)
      have HPO := Lib.hid (BrM.ptOk_eq (BrM.kind0 l) l[k])
      rw [HK0.out, ← hr.2] at HPO
      have HA := Lib.hid (fun h => BrM.okAt_k (l := l) e1 h)
      rw [HK0.out] at HA
      have HN := Lib.hid (fun W => rnode_any r.ptr W)
      have HR := Lib.hid (fun W => rright_any r.ptr 256 W)
      have hlt' : (k : Int) < l.length := by omega
      have hne : ¬ l = [] := by intro e; subst e; simp at hlt
      have hpn : 0 < l.length := by omega
      generalize hx : l[k] = x at *
      generalize PtM.node r.ptr = t1 at *
      generalize PtM.right r.ptr 256 = t2 at *
      generalize ht3 : (bI r.ptr.kind == bI r0.ptr.kind) = t3 at *
      have ht4 : (bI r.ptr.kind != bI r0.ptr.kind) = !t3 := by rw [bne, ht3]
      cases t1
      case false =>
        go_wp2
        refine wp_region_free 30 92 (by kernel_rfl) (by kernel_rfl) rfl (by kernel_rfl) ?_; simp only [List.take_succ_cons, List.take_zero, List.drop_succ_cons, List.drop_zero]
        repeat (apply free_pure rfl; focus (intro vs w hg hd;  (try simp [Region.binds] at hd); simp only [execOp, resolve, Option.map_some, Option.map_none, List.map_toArray, List.map_cons, List.map_nil, rho_const, rho_func]; (repeat (conv in rho _ _ _ _ (Operand.tmp _) => whnf)); (try simp only [hd]); go_simp; (repeat (conv in rho _ _ _ _ (Operand.tmp _) => whnf)); (try simp only [hd]);  rfl))
        refine free_op (fun v_ _ => v_ = .agg (ptA r.ptr)) rfl (dk_mono _) (fun vs wq hg hd => by
          (try simp [Region.binds] at hd)
          refine dk_load 45 (.tmp 29) ⟨g1, o1 + k * 6 + 1, none⟩ _ rfl ?_ (pt_run_loadK (range_grows HP.out (Grows.of_drew hg))) ⟨Grows.refl _, rfl⟩
          (conv in rho _ _ _ _ (Operand.tmp _) => whnf)
          simp [hd]) ?_
        refine free_op (fun v_ _ => v_ = .bool false) rfl (dk_mono _) (fun vs wq hg hd => by
          (try simp [Region.binds] at hd); simp only [Does]; simp only [execOp, resolve, Option.map_some, Option.map_none, List.map_toArray, List.map_cons, List.map_nil, rho_const, rho_func]; (repeat (conv in rho _ _ _ _ (Operand.tmp _) => whnf)); (try simp only [hd]); go_simp; (repeat (conv in rho _ _ _ _ (Operand.tmp _) => whnf))
          exact HN.out _) ?_
        repeat (apply free_pure rfl; focus (intro vs w hg hd;  (try simp [Region.binds] at hd); simp only [execOp, resolve, Option.map_some, Option.map_none, List.map_toArray, List.map_cons, List.map_nil, rho_const, rho_func]; (repeat (conv in rho _ _ _ _ (Operand.tmp _) => whnf)); (try simp only [hd]); go_simp; (repeat (conv in rho _ _ _ _ (Operand.tmp _) => whnf)); (try simp only [hd]);  rfl))
        repeat (refine free_passed (fun vs wq hg hd => ?_) ?_; focus ((try simp [Region.binds] at hd); (first | (simp [Region.wanted, yieldR]; (repeat (conv in rho _ _ _ _ (Operand.tmp _) => whnf)); simp [hd]; done) | (simp [Region.wanted, yieldR]; (repeat (conv in rho _ _ _ _ (Operand.tmp _) => whnf)); simp [hd, undef]; done) | (simp [Region.wanted, yieldR]; (repeat (conv in rho _ _ _ _ (Operand.tmp _) => whnf)); (try simp [hd]); simp [*]))))
        repeat (first | (apply free_pure rfl; focus (intro vs w hg hd;  (try simp [Region.binds] at hd); simp only [execOp, resolve, Option.map_some, Option.map_none, List.map_toArray, List.map_cons, List.map_nil, rho_const, rho_func]; (repeat (conv in rho _ _ _ _ (Operand.tmp _) => whnf)); (try simp only [hd]); go_simp; (repeat (conv in rho _ _ _ _ (Operand.tmp _) => whnf)); (try simp only [hd]);  rfl)) | (apply free_gpure; (focus (intro vs w hg hd; (try simp [Region.binds] at hd); (first | (simp [Region.wanted, yieldR]; (repeat (conv in rho _ _ _ _ (Operand.tmp _) => whnf)); simp [hd]; done) | (simp [Region.wanted, yieldR]; (repeat (conv in rho _ _ _ _ (Operand.tmp _) => whnf)); simp [hd, undef]; done) | (simp [Region.wanted, yieldR]; (repeat (conv in rho _ _ _ _ (Operand.tmp _) => whnf)); (try simp [hd]); simp [*])))); focus (intro vs w hg hd;  (try simp [Region.binds] at hd); simp only [execOp, resolve, Option.map_some, Option.map_none, List.map_toArray, List.map_cons, List.map_nil, rho_const, rho_func]; (repeat (conv in rho _ _ _ _ (Operand.tmp _) => whnf)); (try simp only [hd]); go_simp; (repeat (conv in rho _ _ _ _ (Operand.tmp _) => whnf)); (try simp only [hd]);  rfl)))
        repeat (refine free_passed (fun vs wq hg hd => ?_) ?_; focus ((try simp [Region.binds] at hd); (first | (simp [Region.wanted, yieldR]; (repeat (conv in rho _ _ _ _ (Operand.tmp _) => whnf)); simp [hd]; done) | (simp [Region.wanted, yieldR]; (repeat (conv in rho _ _ _ _ (Operand.tmp _) => whnf)); simp [hd, undef]; done) | (simp [Region.wanted, yieldR]; (repeat (conv in rho _ _ _ _ (Operand.tmp _) => whnf)); (try simp [hd]); simp [*]))))
        repeat (first | (apply free_pure rfl; focus (intro vs w hg hd;  (try simp [Region.binds] at hd); simp only [execOp, resolve, Option.map_some, Option.map_none, List.map_toArray, List.map_cons, List.map_nil, rho_const, rho_func]; (repeat (conv in rho _ _ _ _ (Operand.tmp _) => whnf)); (try simp only [hd]); go_simp; (repeat (conv in rho _ _ _ _ (Operand.tmp _) => whnf)); (try simp only [hd]);  rfl)) | (apply free_gpure; (focus (intro vs w hg hd; (try simp [Region.binds] at hd); (first | (simp [Region.wanted, yieldR]; (repeat (conv in rho _ _ _ _ (Operand.tmp _) => whnf)); simp [hd]; done) | (simp [Region.wanted, yieldR]; (repeat (conv in rho _ _ _ _ (Operand.tmp _) => whnf)); simp [hd, undef]; done) | (simp [Region.wanted, yieldR]; (repeat (conv in rho _ _ _ _ (Operand.tmp _) => whnf)); (try simp [hd]); simp [*])))); focus (intro vs w hg hd;  (try simp [Region.binds] at hd); simp only [execOp, resolve, Option.map_some, Option.map_none, List.map_toArray, List.map_cons, List.map_nil, rho_const, rho_func]; (repeat (conv in rho _ _ _ _ (Operand.tmp _) => whnf)); (try simp only [hd]); go_simp; (repeat (conv in rho _ _ _ _ (Operand.tmp _) => whnf)); (try simp only [hd]);  rfl)))
        intro vs w' hg hv; have h29 := hv 29 (by omega); simp at h29; simp only [putL, dstAt, List.range, List.range.loop, if_true, List.getElem?_toArray, List.getElem?_cons_zero, List.getElem?_cons_succ, Option.bind_some, Act.put, List.setIfInBounds_toArray, List.set_cons_zero, List.set_cons_succ]
        rw [h29]
        have hgW := Lib.hid (HB.out.trans (Grows.of_drew hg))
        clear hv h29 hg
        generalize vs 0 = z0, vs 1 = z1, vs 2 = z2, vs 3 = z3, vs 4 = z4, vs 5 = z5, vs 6 = z6, vs 7 = z7, vs 8 = z8, vs 9 = z9, vs 10 = z10, vs 11 = z11, vs 12 = z12, vs 13 = z13, vs 14 = z14, vs 15 = z15, vs 16 = z16, vs 17 = z17, vs 18 = z18, vs 19 = z19, vs 20 = z20, vs 21 = z21, vs 22 = z22, vs 23 = z23, vs 24 = z24, vs 25 = z25, vs 26 = z26, vs 27 = z27, vs 28 = z28, vs 29 = z29 at *
        go_wp2
        go_ret
        exact ⟨by rw [HNo.out (HA.out (by rw [HPO.out]; rfl))]; rfl, hgW.out⟩
      cases t2
      case false =>
        go_wp2
        refine wp_region_free 30 92 (by kernel_rfl) (by kernel_rfl) rfl (by kernel_rfl) ?_; simp only [List.take_succ_cons, List.take_zero, List.drop_succ_cons, List.drop_zero]
        repeat (apply free_pure rfl; focus (intro vs w hg hd;  (try simp [Region.binds] at hd); simp only [execOp, resolve, Option.map_some, Option.map_none, List.map_toArray, List.map_cons, List.map_nil, rho_const, rho_func]; (repeat (conv in rho _ _ _ _ (Operand.tmp _) => whnf)); (try simp only [hd]); go_simp; (repeat (conv in rho _ _ _ _ (Operand.tmp _) => whnf)); (try simp only [hd]);  rfl))
        refine free_op (fun v_ _ => v_ = .agg (ptA r.ptr)) rfl (dk_mono _) (fun vs wq hg hd => by
          (try simp [Region.binds] at hd)
          refine dk_load 45 (.tmp 29) ⟨g1, o1 + k * 6 + 1, none⟩ _ rfl ?_ (pt_run_loadK (range_grows HP.out (Grows.of_drew hg))) ⟨Grows.refl _, rfl⟩
          (conv in rho _ _ _ _ (Operand.tmp _) => whnf)
          simp [hd]) ?_
        refine free_op (fun v_ _ => v_ = .bool true) rfl (dk_mono _) (fun vs wq hg hd => by
          (try simp [Region.binds] at hd); simp only [Does]; simp only [execOp, resolve, Option.map_some, Option.map_none, List.map_toArray, List.map_cons, List.map_nil, rho_const, rho_func]; (repeat (conv in rho _ _ _ _ (Operand.tmp _) => whnf)); (try simp only [hd]); go_simp; (repeat (conv in rho _ _ _ _ (Operand.tmp _) => whnf))
          exact HN.out _) ?_
        repeat (apply free_pure rfl; focus (intro vs w hg hd;  (try simp [Region.binds] at hd); simp only [execOp, resolve, Option.map_some, Option.map_none, List.map_toArray, List.map_cons, List.map_nil, rho_const, rho_func]; (repeat (conv in rho _ _ _ _ (Operand.tmp _) => whnf)); (try simp only [hd]); go_simp; (repeat (conv in rho _ _ _ _ (Operand.tmp _) => whnf)); (try simp only [hd]);  rfl))
        repeat (first | (apply free_pure rfl; focus (intro vs w hg hd;  (try simp [Region.binds] at hd); simp only [execOp, resolve, Option.map_some, Option.map_none, List.map_toArray, List.map_cons, List.map_nil, rho_const, rho_func]; (repeat (conv in rho _ _ _ _ (Operand.tmp _) => whnf)); (try simp only [hd]); go_simp; (repeat (conv in rho _ _ _ _ (Operand.tmp _) => whnf)); (try simp only [hd]);  rfl)) | (apply free_gpure; (focus (intro vs w hg hd; (try simp [Region.binds] at hd); (first | (simp [Region.wanted, yieldR]; (repeat (conv in rho _ _ _ _ (Operand.tmp _) => whnf)); simp [hd]; done) | (simp [Region.wanted, yieldR]; (repeat (conv in rho _ _ _ _ (Operand.tmp _) => whnf)); simp [hd, undef]; done) | (simp [Region.wanted, yieldR]; (repeat (conv in rho _ _ _ _ (Operand.tmp _) => whnf)); (try simp [hd]); simp [*])))); focus (intro vs w hg hd;  (try simp [Region.binds] at hd); simp only [execOp, resolve, Option.map_some, Option.map_none, List.map_toArray, List.map_cons, List.map_nil, rho_const, rho_func]; (repeat (conv in rho _ _ _ _ (Operand.tmp _) => whnf)); (try simp only [hd]); go_simp; (repeat (conv in rho _ _ _ _ (Operand.tmp _) => whnf)); (try simp only [hd]);  rfl)))
        refine free_guarded (fun v_ _ => v_ = .agg (ptA r.ptr)) (dk_mono _) (fun vs wq hg hd => by
          (try simp [Region.binds] at hd)
          refine ⟨?_, ?_⟩
          · (first | (simp [Region.wanted, yieldR]; (repeat (conv in rho _ _ _ _ (Operand.tmp _) => whnf)); simp [hd]; done) | (simp [Region.wanted, yieldR]; (repeat (conv in rho _ _ _ _ (Operand.tmp _) => whnf)); simp [hd, undef]; done) | (simp [Region.wanted, yieldR]; (repeat (conv in rho _ _ _ _ (Operand.tmp _) => whnf)); (try simp [hd]); simp [*]))
          · refine dk_load 45 (.tmp 37) ⟨g1, o1 + k * 6 + 1, none⟩ _ rfl ?_ (pt_run_loadK (range_grows HP.out (Grows.of_drew hg))) ⟨Grows.refl _, rfl⟩
            (conv in rho _ _ _ _ (Operand.tmp _) => whnf)
            simp [hd]) ?_
        refine free_guarded (fun v_ _ => v_ = .bool false) (dk_mono _) (fun vs wq hg hd => by
          (try simp [Region.binds] at hd)
          refine ⟨?_, ?_⟩
          · (first | (simp [Region.wanted, yieldR]; (repeat (conv in rho _ _ _ _ (Operand.tmp _) => whnf)); simp [hd]; done) | (simp [Region.wanted, yieldR]; (repeat (conv in rho _ _ _ _ (Operand.tmp _) => whnf)); simp [hd, undef]; done) | (simp [Region.wanted, yieldR]; (repeat (conv in rho _ _ _ _ (Operand.tmp _) => whnf)); (try simp [hd]); simp [*]))
          · (try simp [Region.binds] at hd); simp only [Does]; simp only [execOp, resolve, Option.map_some, Option.map_none, List.map_toArray, List.map_cons, List.map_nil, rho_const, rho_func]; (repeat (conv in rho _ _ _ _ (Operand.tmp _) => whnf)); (try simp only [hd]); go_simp; (repeat (conv in rho _ _ _ _ (Operand.tmp _) => whnf))
            exact HR.out _) ?_
        repeat (first | (apply free_pure rfl; focus (intro vs w hg hd;  (try simp [Region.binds] at hd); simp only [execOp, resolve, Option.map_some, Option.map_none, List.map_toArray, List.map_cons, List.map_nil, rho_const, rho_func]; (repeat (conv in rho _ _ _ _ (Operand.tmp _) => whnf)); (try simp only [hd]); go_simp; (repeat (conv in rho _ _ _ _ (Operand.tmp _) => whnf)); (try simp only [hd]);  rfl)) | (apply free_gpure; (focus (intro vs w hg hd; (try simp [Region.binds] at hd); (first | (simp [Region.wanted, yieldR]; (repeat (conv in rho _ _ _ _ (Operand.tmp _) => whnf)); simp [hd]; done) | (simp [Region.wanted, yieldR]; (repeat (conv in rho _ _ _ _ (Operand.tmp _) => whnf)); simp [hd, undef]; done) | (simp [Region.wanted, yieldR]; (repeat (conv in rho _ _ _ _ (Operand.tmp _) => whnf)); (try simp [hd]); simp [*])))); focus (intro vs w hg hd;  (try simp [Region.binds] at hd); simp only [execOp, resolve, Option.map_some, Option.map_none, List.map_toArray, List.map_cons, List.map_nil, rho_const, rho_func]; (repeat (conv in rho _ _ _ _ (Operand.tmp _) => whnf)); (try simp only [hd]); go_simp; (repeat (conv in rho _ _ _ _ (Operand.tmp _) => whnf)); (try simp only [hd]);  rfl)))
        repeat (refine free_passed (fun vs wq hg hd => ?_) ?_; focus ((try simp [Region.binds] at hd); (first | (simp [Region.wanted, yieldR]; (repeat (conv in rho _ _ _ _ (Operand.tmp _) => whnf)); simp [hd]; done) | (simp [Region.wanted, yieldR]; (repeat (conv in rho _ _ _ _ (Operand.tmp _) => whnf)); simp [hd, undef]; done) | (simp [Region.wanted, yieldR]; (repeat (conv in rho _ _ _ _ (Operand.tmp _) => whnf)); (try simp [hd]); simp [*]))))
        repeat (first | (apply free_pure rfl; focus (intro vs w hg hd;  (try simp [Region.binds] at hd); simp only [execOp, resolve, Option.map_some, Option.map_none, List.map_toArray, List.map_cons, List.map_nil, rho_const, rho_func]; (repeat (conv in rho _ _ _ _ (Operand.tmp _) => whnf)); (try simp only [hd]); go_simp; (repeat (conv in rho _ _ _ _ (Operand.tmp _) => whnf)); (try simp only [hd]);  rfl)) | (apply free_gpure; (focus (intro vs w hg hd; (try simp [Region.binds] at hd); (first | (simp [Region.wanted, yieldR]; (repeat (conv in rho _ _ _ _ (Operand.tmp _) => whnf)); simp [hd]; done) | (simp [Region.wanted, yieldR]; (repeat (conv in rho _ _ _ _ (Operand.tmp _) => whnf)); simp [hd, undef]; done) | (simp [Region.wanted, yieldR]; (repeat (conv in rho _ _ _ _ (Operand.tmp _) => whnf)); (try simp [hd]); simp [*])))); focus (intro vs w hg hd;  (try simp [Region.binds] at hd); simp only [execOp, resolve, Option.map_some, Option.map_none, List.map_toArray, List.map_cons, List.map_nil, rho_const, rho_func]; (repeat (conv in rho _ _ _ _ (Operand.tmp _) => whnf)); (try simp only [hd]); go_simp; (repeat (conv in rho _ _ _ _ (Operand.tmp _) => whnf)); (try simp only [hd]);  rfl)))
        intro vs w' hg hv; have h29 := hv 29 (by omega); simp at h29; simp only [putL, dstAt, List.range, List.range.loop, if_true, List.getElem?_toArray, List.getElem?_cons_zero, List.getElem?_cons_succ, Option.bind_some, Act.put, List.setIfInBounds_toArray, List.set_cons_zero, List.set_cons_succ]
        rw [h29]
        have hgW := Lib.hid (HB.out.trans (Grows.of_drew hg))
        clear hv h29 hg
        generalize vs 0 = z0, vs 1 = z1, vs 2 = z2, vs 3 = z3, vs 4 = z4, vs 5 = z5, vs 6 = z6, vs 7 = z7, vs 8 = z8, vs 9 = z9, vs 10 = z10, vs 11 = z11, vs 12 = z12, vs 13 = z13, vs 14 = z14, vs 15 = z15, vs 16 = z16, vs 17 = z17, vs 18 = z18, vs 19 = z19, vs 20 = z20, vs 21 = z21, vs 22 = z22, vs 23 = z23, vs 24 = z24, vs 25 = z25, vs 26 = z26, vs 27 = z27, vs 28 = z28, vs 29 = z29 at *
        go_wp2
        go_ret
        exact ⟨by rw [HNo.out (HA.out (by rw [HPO.out]; rfl))]; rfl, hgW.out⟩
      cases t3
      case false =>
        go_wp2
        refine wp_region_free 30 92 (by kernel_rfl) (by kernel_rfl) rfl (by kernel_rfl) ?_; simp only [List.take_succ_cons, List.take_zero, List.drop_succ_cons, List.drop_zero]
        repeat (apply free_pure rfl; focus (intro vs w hg hd;  (try simp [Region.binds] at hd); simp only [execOp, resolve, Option.map_some, Option.map_none, List.map_toArray, List.map_cons, List.map_nil, rho_const, rho_func]; (repeat (conv in rho _ _ _ _ (Operand.tmp _) => whnf)); (try simp only [hd]); go_simp; (repeat (conv in rho _ _ _ _ (Operand.tmp _) => whnf)); (try simp only [hd]);  rfl))
        refine free_op (fun v_ _ => v_ = .agg (ptA r.ptr)) rfl (dk_mono _) (fun vs wq hg hd => by
          (try simp [Region.binds] at hd)
          refine dk_load 45 (.tmp 29) ⟨g1, o1 + k * 6 + 1, none⟩ _ rfl ?_ (pt_run_loadK (range_grows HP.out (Grows.of_drew hg))) ⟨Grows.refl _, rfl⟩
          (conv in rho _ _ _ _ (Operand.tmp _) => whnf)
          simp [hd]) ?_
        refine free_op (fun v_ _ => v_ = .bool true) rfl (dk_mono _) (fun vs wq hg hd => by
          (try simp [Region.binds] at hd); simp only [Does]; simp only [execOp, resolve, Option.map_some, Option.map_none, List.map_toArray, List.map_cons, List.map_nil, rho_const, rho_func]; (repeat (conv in rho _ _ _ _ (Operand.tmp _) => whnf)); (try simp only [hd]); go_simp; (repeat (conv in rho _ _ _ _ (Operand.tmp _) => whnf))
          exact HN.out _) ?_
        repeat (apply free_pure rfl; focus (intro vs w hg hd;  (try simp [Region.binds] at hd); simp only [execOp, resolve, Option.map_some, Option.map_none, List.map_toArray, List.map_cons, List.map_nil, rho_const, rho_func]; (repeat (conv in rho _ _ _ _ (Operand.tmp _) => whnf)); (try simp only [hd]); go_simp; (repeat (conv in rho _ _ _ _ (Operand.tmp _) => whnf)); (try simp only [hd]);  rfl))
        repeat (first | (apply free_pure rfl; focus (intro vs w hg hd;  (try simp [Region.binds] at hd); simp only [execOp, resolve, Option.map_some, Option.map_none, List.map_toArray, List.map_cons, List.map_nil, rho_const, rho_func]; (repeat (conv in rho _ _ _ _ (Operand.tmp _) => whnf)); (try simp only [hd]); go_simp; (repeat (conv in rho _ _ _ _ (Operand.tmp _) => whnf)); (try simp only [hd]);  rfl)) | (apply free_gpure; (focus (intro vs w hg hd; (try simp [Region.binds] at hd); (first | (simp [Region.wanted, yieldR]; (repeat (conv in rho _ _ _ _ (Operand.tmp _) => whnf)); simp [hd]; done) | (simp [Region.wanted, yieldR]; (repeat (conv in rho _ _ _ _ (Operand.tmp _) => whnf)); simp [hd, undef]; done) | (simp [Region.wanted, yieldR]; (repeat (conv in rho _ _ _ _ (Operand.tmp _) => whnf)); (try simp [hd]); simp [*])))); focus (intro vs w hg hd;  (try simp [Region.binds] at hd); simp only [execOp, resolve, Option.map_some, Option.map_none, List.map_toArray, List.map_cons, List.map_nil, rho_const, rho_func]; (repeat (conv in rho _ _ _ _ (Operand.tmp _) => whnf)); (try simp only [hd]); go_simp; (repeat (conv in rho _ _ _ _ (Operand.tmp _) => whnf)); (try simp only [hd]);  rfl)))
        refine free_guarded (fun v_ _ => v_ = .agg (ptA r.ptr)) (dk_mono _) (fun vs wq hg hd => by
          (try simp [Region.binds] at hd)
          refine ⟨?_, ?_⟩
          · (first | (simp [Region.wanted, yieldR]; (repeat (conv in rho _ _ _ _ (Operand.tmp _) => whnf)); simp [hd]; done) | (simp [Region.wanted, yieldR]; (repeat (conv in rho _ _ _ _ (Operand.tmp _) => whnf)); simp [hd, undef]; done) | (simp [Region.wanted, yieldR]; (repeat (conv in rho _ _ _ _ (Operand.tmp _) => whnf)); (try simp [hd]); simp [*]))
          · refine dk_load 45 (.tmp 37) ⟨g1, o1 + k * 6 + 1, none⟩ _ rfl ?_ (pt_run_loadK (range_grows HP.out (Grows.of_drew hg))) ⟨Grows.refl _, rfl⟩
            (conv in rho _ _ _ _ (Operand.tmp _) => whnf)
            simp [hd]) ?_
        refine free_guarded (fun v_ _ => v_ = .bool true) (dk_mono _) (fun vs wq hg hd => by
          (try simp [Region.binds] at hd)
          refine ⟨?_, ?_⟩
          · (first | (simp [Region.wanted, yieldR]; (repeat (conv in rho _ _ _ _ (Operand.tmp _) => whnf)); simp [hd]; done) | (simp [Region.wanted, yieldR]; (repeat (conv in rho _ _ _ _ (Operand.tmp _) => whnf)); simp [hd, undef]; done) | (simp [Region.wanted, yieldR]; (repeat (conv in rho _ _ _ _ (Operand.tmp _) => whnf)); (try simp [hd]); simp [*]))
          · (try simp [Region.binds] at hd); simp only [Does]; simp only [execOp, resolve, Option.map_some, Option.map_none, List.map_toArray, List.map_cons, List.map_nil, rho_const, rho_func]; (repeat (conv in rho _ _ _ _ (Operand.tmp _) => whnf)); (try simp only [hd]); go_simp; (repeat (conv in rho _ _ _ _ (Operand.tmp _) => whnf))
            exact HR.out _) ?_
        repeat (first | (apply free_pure rfl; focus (intro vs w hg hd; have q0 := hg.cell c1; have q1 := hg.cell c0; (try simp [Region.binds] at hd); simp only [execOp, resolve, Option.map_some, Option.map_none, List.map_toArray, List.map_cons, List.map_nil, rho_const, rho_func]; (repeat (conv in rho _ _ _ _ (Operand.tmp _) => whnf)); (try simp only [hd]); go_simp; (repeat (conv in rho _ _ _ _ (Operand.tmp _) => whnf)); (try simp only [hd]); (try simp only [ht3, ht4]); rfl)) | (apply free_gpure; (focus (intro vs w hg hd; (try simp [Region.binds] at hd); (first | (simp [Region.wanted, yieldR]; (repeat (conv in rho _ _ _ _ (Operand.tmp _) => whnf)); simp [hd]; done) | (simp [Region.wanted, yieldR]; (repeat (conv in rho _ _ _ _ (Operand.tmp _) => whnf)); simp [hd, undef]; done) | (simp [Region.wanted, yieldR]; (repeat (conv in rho _ _ _ _ (Operand.tmp _) => whnf)); (try simp [hd]); simp [*])))); focus (intro vs w hg hd; have q0 := hg.cell c1; have q1 := hg.cell c0; (try simp [Region.binds] at hd); simp only [execOp, resolve, Option.map_some, Option.map_none, List.map_toArray, List.map_cons, List.map_nil, rho_const, rho_func]; (repeat (conv in rho _ _ _ _ (Operand.tmp _) => whnf)); (try simp only [hd]); go_simp; (repeat (conv in rho _ _ _ _ (Operand.tmp _) => whnf)); (try simp only [hd]); (try simp only [ht3, ht4]); rfl)))
        intro vs w' hg hv; have h29 := hv 29 (by omega); simp at h29; simp only [putL, dstAt, List.range, List.range.loop, if_true, List.getElem?_toArray, List.getElem?_cons_zero, List.getElem?_cons_succ, Option.bind_some, Act.put, List.setIfInBounds_toArray, List.set_cons_zero, List.set_cons_succ]
        rw [h29]
        have hgW := Lib.hid (HB.out.trans (Grows.of_drew hg))
        clear hv h29 hg
        generalize vs 0 = z0, vs 1 = z1, vs 2 = z2, vs 3 = z3, vs 4 = z4, vs 5 = z5, vs 6 = z6, vs 7 = z7, vs 8 = z8, vs 9 = z9, vs 10 = z10, vs 11 = z11, vs 12 = z12, vs 13 = z13, vs 14 = z14, vs 15 = z15, vs 16 = z16, vs 17 = z17, vs 18 = z18, vs 19 = z19, vs 20 = z20, vs 21 = z21, vs 22 = z22, vs 23 = z23, vs 24 = z24, vs 25 = z25, vs 26 = z26, vs 27 = z27, vs 28 = z28, vs 29 = z29 at *
        go_wp2
        go_ret
        exact ⟨by rw [HNo.out (HA.out (by rw [HPO.out]; rfl))]; rfl, hgW.out⟩
      have HPT : Hid (BrM.ptOk r0.ptr.kind x = true) := HPO.out
      clear HA HPO
      go_wp2
      refine wp_region_free 30 92 (by kernel_rfl) (by kernel_rfl) rfl (by kernel_rfl) ?_; simp only [List.take_succ_cons, List.take_zero, List.drop_succ_cons, List.drop_zero]
      repeat (apply free_pure rfl; focus (intro vs w hg hd;  (try simp [Region.binds] at hd); simp only [execOp, resolve, Option.map_some, Option.map_none, List.map_toArray, List.map_cons, List.map_nil, rho_const, rho_func]; (repeat (conv in rho _ _ _ _ (Operand.tmp _) => whnf)); (try simp only [hd]); go_simp; (repeat (conv in rho _ _ _ _ (Operand.tmp _) => whnf)); (try simp only [hd]);  rfl))
      refine free_op (fun v_ _ => v_ = .agg (ptA r.ptr)) rfl (dk_mono _) (fun vs wq hg hd => by
        (try simp [Region.binds] at hd)
        refine dk_load 45 (.tmp 29) ⟨g1, o1 + k * 6 + 1, none⟩ _ rfl ?_ (pt_run_loadK (range_grows HP.out (Grows.of_drew hg))) ⟨Grows.refl _, rfl⟩
        (conv in rho _ _ _ _ (Operand.tmp _) => whnf)
        simp [hd]) ?_
      refine free_op (fun v_ _ => v_ = .bool true) rfl (dk_mono _) (fun vs wq hg hd => by
        (try simp [Region.binds] at hd); simp only [Does]; simp only [execOp, resolve, Option.map_some, Option.map_none, List.map_toArray, List.map_cons, List.map_nil, rho_const, rho_func]; (repeat (conv in rho _ _ _ _ (Operand.tmp _) => whnf)); (try simp only [hd]); go_simp; (repeat (conv in rho _ _ _ _ (Operand.tmp _) => whnf))
        exact HN.out _) ?_
      repeat (apply free_pure rfl; focus (intro vs w hg hd;  (try simp [Region.binds] at hd); simp only [execOp, resolve, Option.map_some, Option.map_none, List.map_toArray, List.map_cons, List.map_nil, rho_const, rho_func]; (repeat (conv in rho _ _ _ _ (Operand.tmp _) => whnf)); (try simp only [hd]); go_simp; (repeat (conv in rho _ _ _ _ (Operand.tmp _) => whnf)); (try simp only [hd]);  rfl))
      repeat (first | (apply free_pure rfl; focus (intro vs w hg hd;  (try simp [Region.binds] at hd); simp only [execOp, resolve, Option.map_some, Option.map_none, List.map_toArray, List.map_cons, List.map_nil, rho_const, rho_func]; (repeat (conv in rho _ _ _ _ (Operand.tmp _) => whnf)); (try simp only [hd]); go_simp; (repeat (conv in rho _ _ _ _ (Operand.tmp _) => whnf)); (try simp only [hd]);  rfl)) | (apply free_gpure; (focus (intro vs w hg hd; (try simp [Region.binds] at hd); (first | (simp [Region.wanted, yieldR]; (repeat (conv in rho _ _ _ _ (Operand.tmp _) => whnf)); simp [hd]; done) | (simp [Region.wanted, yieldR]; (repeat (conv in rho _ _ _ _ (Operand.tmp _) => whnf)); simp [hd, undef]; done) | (simp [Region.wanted, yieldR]; (repeat (conv in rho _ _ _ _ (Operand.tmp _) => whnf)); (try simp [hd]); simp [*])))); focus (intro vs w hg hd;  (try simp [Region.binds] at hd); simp only [execOp, resolve, Option.map_some, Option.map_none, List.map_toArray, List.map_cons, List.map_nil, rho_const, rho_func]; (repeat (conv in rho _ _ _ _ (Operand.tmp _) => whnf)); (try simp only [hd]); go_simp; (repeat (conv in rho _ _ _ _ (Operand.tmp _) => whnf)); (try simp only [hd]);  rfl)))
      refine free_guarded (fun v_ _ => v_ = .agg (ptA r.ptr)) (dk_mono _) (fun vs wq hg hd => by
        (try simp [Region.binds] at hd)
        refine ⟨?_, ?_⟩
        · (first | (simp [Region.wanted, yieldR]; (repeat (conv in rho _ _ _ _ (Operand.tmp _) => whnf)); simp [hd]; done) | (simp [Region.wanted, yieldR]; (repeat (conv in rho _ _ _ _ (Operand.tmp _) => whnf)); simp [hd, undef]; done) | (simp [Region.wanted, yieldR]; (repeat (conv in rho _ _ _ _ (Operand.tmp _) => whnf)); (try simp [hd]); simp [*]))
        · refine dk_load 45 (.tmp 37) ⟨g1, o1 + k * 6 + 1, none⟩ _ rfl ?_ (pt_run_loadK (range_grows HP.out (Grows.of_drew hg))) ⟨Grows.refl _, rfl⟩
          (conv in rho _ _ _ _ (Operand.tmp _) => whnf)
          simp [hd]) ?_
      refine free_guarded (fun v_ _ => v_ = .bool true) (dk_mono _) (fun vs wq hg hd => by
        (try simp [Region.binds] at hd)
        refine ⟨?_, ?_⟩
        · (first | (simp [Region.wanted, yieldR]; (repeat (conv in rho _ _ _ _ (Operand.tmp _) => whnf)); simp [hd]; done) | (simp [Region.wanted, yieldR]; (repeat (conv in rho _ _ _ _ (Operand.tmp _) => whnf)); simp [hd, undef]; done) | (simp [Region.wanted, yieldR]; (repeat (conv in rho _ _ _ _ (Operand.tmp _) => whnf)); (try simp [hd]); simp [*]))
        · (try simp [Region.binds] at hd); simp only [Does]; simp only [execOp, resolve, Option.map_some, Option.map_none, List.map_toArray, List.map_cons, List.map_nil, rho_const, rho_func]; (repeat (conv in rho _ _ _ _ (Operand.tmp _) => whnf)); (try simp only [hd]); go_simp; (repeat (conv in rho _ _ _ _ (Operand.tmp _) => whnf))
          exact HR.out _) ?_
      repeat (first | (apply free_pure rfl; focus (intro vs w hg hd; have q0 := hg.cell c1; have q1 := hg.cell c0; (try simp [Region.binds] at hd); simp only [execOp, resolve, Option.map_some, Option.map_none, List.map_toArray, List.map_cons, List.map_nil, rho_const, rho_func]; (repeat (conv in rho _ _ _ _ (Operand.tmp _) => whnf)); (try simp only [hd]); go_simp; (repeat (conv in rho _ _ _ _ (Operand.tmp _) => whnf)); (try simp only [hd]); (try simp only [ht3, ht4]); rfl)) | (apply free_gpure; (focus (intro vs w hg hd; (try simp [Region.binds] at hd); (first | (simp [Region.wanted, yieldR]; (repeat (conv in rho _ _ _ _ (Operand.tmp _) => whnf)); simp [hd]; done) | (simp [Region.wanted, yieldR]; (repeat (conv in rho _ _ _ _ (Operand.tmp _) => whnf)); simp [hd, undef]; done) | (simp [Region.wanted, yieldR]; (repeat (conv in rho _ _ _ _ (Operand.tmp _) => whnf)); (try simp [hd]); simp [*])))); focus (intro vs w hg hd; have q0 := hg.cell c1; have q1 := hg.cell c0; (try simp [Region.binds] at hd); simp only [execOp, resolve, Option.map_some, Option.map_none, List.map_toArray, List.map_cons, List.map_nil, rho_const, rho_func]; (repeat (conv in rho _ _ _ _ (Operand.tmp _) => whnf)); (try simp only [hd]); go_simp; (repeat (conv in rho _ _ _ _ (Operand.tmp _) => whnf)); (try simp only [hd]); (try simp only [ht3, ht4]); rfl)))
      intro vs w' hg hv; have h29 := hv 29 (by omega); simp at h29; simp only [putL, dstAt, List.range, List.range.loop, if_true, List.getElem?_toArray, List.getElem?_cons_zero, List.getElem?_cons_succ, Option.bind_some, Act.put, List.setIfInBounds_toArray, List.set_cons_zero, List.set_cons_succ]
      rw [h29]
      have hgW := Lib.hid (HB.out.trans (Grows.of_drew hg))
      clear hv h29 hg
      generalize vs 0 = z0, vs 1 = z1, vs 2 = z2, vs 3 = z3, vs 4 = z4, vs 5 = z5, vs 6 = z6, vs 7 = z7, vs 8 = z8, vs 9 = z9, vs 10 = z10, vs 11 = z11, vs 12 = z12, vs 13 = z13, vs 14 = z14, vs 15 = z15, vs 16 = z16, vs 17 = z17, vs 18 = z18, vs 19 = z19, vs 20 = z20, vs 21 = z21, vs 22 = z22, vs 23 = z23, vs 24 = z24, vs 25 = z25, vs 26 = z26, vs 27 = z27, vs 28 = z28, vs 29 = z29 at *
      go_wp2
      clear ht3 ht4 HP HN HR
      have H0 := Lib.hid ((Below.cell hgW.out (p := ⟨g1, o1 + k * 6, none⟩) HG1.out).trans (kd_at hc).1)
      by_cases hz : k = 0
      · subst hz
        have HO : Hid (BrM.okAt l 0 = true) := by unfold Hid; rw [BrM.okAt_zero e1, HK0.out]; exact HPT.out
        refine wp_region_free 36 92 (by kernel_rfl) (by kernel_rfl) rfl (by kernel_rfl) ?_; simp only [List.take_succ_cons, List.take_zero, List.drop_succ_cons, List.drop_zero]
        repeat (apply free_pure rfl; focus (intro vs w hg hd;  (try simp [Region.binds] at hd); simp only [execOp, resolve, Option.map_some, Option.map_none, List.map_toArray, List.map_cons, List.map_nil, rho_const, rho_func]; (repeat (conv in rho _ _ _ _ (Operand.tmp _) => whnf)); (try simp only [hd]); go_simp; (repeat (conv in rho _ _ _ _ (Operand.tmp _) => whnf)); (try simp only [hd]);  rfl))
        repeat (refine free_passed (fun vs wq hg hd => ?_) ?_; focus ((try simp [Region.binds] at hd); (first | (simp [Region.wanted, yieldR]; (repeat (conv in rho _ _ _ _ (Operand.tmp _) => whnf)); simp [hd]; done) | (simp [Region.wanted, yieldR]; (repeat (conv in rho _ _ _ _ (Operand.tmp _) => whnf)); simp [hd, undef]; done) | (simp [Region.wanted, yieldR]; (repeat (conv in rho _ _ _ _ (Operand.tmp _) => whnf)); (try simp [hd]); simp [*]))))
        repeat (first | (apply free_pure rfl; focus (intro vs w hg hd;  (try simp [Region.binds] at hd); simp only [execOp, resolve, Option.map_some, Option.map_none, List.map_toArray, List.map_cons, List.map_nil, rho_const, rho_func]; (repeat (conv in rho _ _ _ _ (Operand.tmp _) => whnf)); (try simp only [hd]); go_simp; (repeat (conv in rho _ _ _ _ (Operand.tmp _) => whnf)); (try simp only [hd]);  rfl)) | (apply free_gpure; (focus (intro vs w hg hd; (try simp [Region.binds] at hd); (first | (simp [Region.wanted, yieldR]; (repeat (conv in rho _ _ _ _ (Operand.tmp _) => whnf)); simp [hd]; done) | (simp [Region.wanted, yieldR]; (repeat (conv in rho _ _ _ _ (Operand.tmp _) => whnf)); simp [hd, undef]; done) | (simp [Region.wanted, yieldR]; (repeat (conv in rho _ _ _ _ (Operand.tmp _) => whnf)); (try simp [hd]); simp [*])))); focus (intro vs w hg hd;  (try simp [Region.binds] at hd); simp only [execOp, resolve, Option.map_some, Option.map_none, List.map_toArray, List.map_cons, List.map_nil, rho_const, rho_func]; (repeat (conv in rho _ _ _ _ (Operand.tmp _) => whnf)); (try simp only [hd]); go_simp; (repeat (conv in rho _ _ _ _ (Operand.tmp _) => whnf)); (try simp only [hd]);  rfl)))
        intro vs w' hg hv; have h35 := hv 35 (by omega); simp at h35; simp only [putL, dstAt, List.range, List.range.loop, if_true, List.getElem?_toArray, List.getElem?_cons_zero, List.getElem?_cons_succ, Option.bind_some, Act.put, List.setIfInBounds_toArray, List.set_cons_zero, List.set_cons_succ]
        rw [h35]
        have hgV := Lib.hid (hgW.out.trans (Grows.of_drew hg))
        clear hv h35 hg
        generalize vs 0 = z0, vs 1 = z1, vs 2 = z2, vs 3 = z3, vs 4 = z4, vs 5 = z5, vs 6 = z6, vs 7 = z7, vs 8 = z8, vs 9 = z9, vs 10 = z10, vs 11 = z11, vs 12 = z12, vs 13 = z13, vs 14 = z14, vs 15 = z15, vs 16 = z16, vs 17 = z17, vs 18 = z18, vs 19 = z19, vs 20 = z20, vs 21 = z21, vs 22 = z22, vs 23 = z23, vs 24 = z24, vs 25 = z25, vs 26 = z26, vs 27 = z27, vs 28 = z28, vs 29 = z29, vs 30 = z30, vs 31 = z31, vs 32 = z32, vs 33 = z33, vs 34 = z34, vs 35 = z35 at *
        go_wp2
        go_roundw
        case rel => exact ⟨0 + 1, by omega, by go_num, HYes.out HO.out, hgV.out⟩
        case measure => simp [intOf]; omega
      obtain ⟨m, hm⟩ : ∃ m, m + 1 = k := ⟨k - 1, by omega⟩
      have e2 : l[m]? = some (l[m]'(by omega)) := List.getElem?_eq_getElem (by omega)
      obtain ⟨r2, hr2, hc2⟩ := HCA.out m _ e2
      have y0 := (Below.cell hgW.out (p := ⟨g1, o1 + m * 6, none⟩) HG1.out).trans (kd_at hc2).1
      have HK2 := Lib.hid (hr2.grows hgW.out).1
      have x0 := H0.out
      have HK1 := Lib.hid (hr.grows hgW.out).1
      have hos := BrM.okAt_succ (l := l) (k := m) (x := x) (y := l[m]'(by omega)) (by rw [hm]; exact e1) e2
      rw [hm, HK0.out, HPT.out, Bool.true_and] at hos
      have u1 : IntKind.i64.wrap ((k : Int) - 1) = m := by rw [IntWalk.i64_in _ (by omega)]; omega
      have u2 : (0 : Int) < k := by omega
      have u3 : (m : Int) < l.length := by omega
      have u4 : decide ((0 : Int) < k) = true := decide_eq_true u2
      have u5 : decide (0 < k) = true := decide_eq_true (by omega)
      have hkn := hr.1.len
      have HOK : Hid (BrM.okAt l k = (decide (1 ≤ r.kn) && decide (r.kn ≤ 8) && BrM.keyOk (l[m]'(by omega)) x)) := by
        unfold Hid
        rw [hos, hkn]
        unfold BrM.keyOk
        cases decide (1 ≤ x.key.length) <;> cases decide (x.key.length ≤ 8) <;> rfl
      have HLT : Hid (BrM.keyOk (l[m]'(by omega)) x = (decide (1 ≤ r.kn) && decide (r.kn ≤ 8) && Op.bytesLess (str (l[m]'(by omega)).key).toList (str x.key).toList)) := by unfold Hid BrM.keyOk LeafM.lt; rw [hkn]
      generalize hy : l[m]'(by omega) = y at *
      generalize BrM.okAt l k = oa at *
      generalize BrM.keyOk y x = ok at *
      clear hos hc e1 e2 hc2 hr2 hr hm hz hkn hx hy H0
      by_cases a1 : r.kn < 1
      · have a1' : (r.kn : Int) < 1 := by omega
        have HF : Hid (oa = false) := by unfold Hid; rw [HOK.out, decide_eq_false (p := 1 ≤ r.kn) (by omega)]; rfl
        refine wp_region_free 36 92 (by kernel_rfl) (by kernel_rfl) rfl (by kernel_rfl) ?_; simp only [List.take_succ_cons, List.take_zero, List.drop_succ_cons, List.drop_zero]
        repeat (apply free_pure rfl; focus (intro vs w hg hd;  (try simp [Region.binds] at hd); simp only [execOp, resolve, Option.map_some, Option.map_none, List.map_toArray, List.map_cons, List.map_nil, rho_const, rho_func]; (repeat (conv in rho _ _ _ _ (Operand.tmp _) => whnf)); (try simp only [hd]); go_simp; (repeat (conv in rho _ _ _ _ (Operand.tmp _) => whnf)); (try simp only [hd]);  rfl))
        repeat (first | (apply free_pure rfl; focus (intro vs w hg hd; have q0 := hg.cell x0; (try simp [Region.binds] at hd); simp only [execOp, resolve, Option.map_some, Option.map_none, List.map_toArray, List.map_cons, List.map_nil, rho_const, rho_func]; (repeat (conv in rho _ _ _ _ (Operand.tmp _) => whnf)); (try simp only [hd]); go_simp; (repeat (conv in rho _ _ _ _ (Operand.tmp _) => whnf)); (try simp only [hd]); (try simp only [u4, u5]); rfl)) | (apply free_gpure; (focus (intro vs w hg hd; (try simp [Region.binds] at hd); (first | (simp [Region.wanted, yieldR]; (repeat (conv in rho _ _ _ _ (Operand.tmp _) => whnf)); simp [hd]; done) | (simp [Region.wanted, yieldR]; (repeat (conv in rho _ _ _ _ (Operand.tmp _) => whnf)); simp [hd, undef]; done) | (simp [Region.wanted, yieldR]; (repeat (conv in rho _ _ _ _ (Operand.tmp _) => whnf)); (try simp [hd]); simp [*])))); focus (intro vs w hg hd; have q0 := hg.cell x0; (try simp [Region.binds] at hd); simp only [execOp, resolve, Option.map_some, Option.map_none, List.map_toArray, List.map_cons, List.map_nil, rho_const, rho_func]; (repeat (conv in rho _ _ _ _ (Operand.tmp _) => whnf)); (try simp only [hd]); go_simp; (repeat (conv in rho _ _ _ _ (Operand.tmp _) => whnf)); (try simp only [hd]); (try simp only [u4, u5]); rfl)))
        repeat (refine free_passed (fun vs wq hg hd => ?_) ?_; focus ((try simp [Region.binds] at hd); (first | (simp [Region.wanted, yieldR]; (repeat (conv in rho _ _ _ _ (Operand.tmp _) => whnf)); simp [hd]; done) | (simp [Region.wanted, yieldR]; (repeat (conv in rho _ _ _ _ (Operand.tmp _) => whnf)); simp [hd, undef]; done) | (simp [Region.wanted, yieldR]; (repeat (conv in rho _ _ _ _ (Operand.tmp _) => whnf)); (try simp [hd]); simp [*]))))
        repeat (first | (apply free_pure rfl; focus (intro vs w hg hd;  (try simp [Region.binds] at hd); simp only [execOp, resolve, Option.map_some, Option.map_none, List.map_toArray, List.map_cons, List.map_nil, rho_const, rho_func]; (repeat (conv in rho _ _ _ _ (Operand.tmp _) => whnf)); (try simp only [hd]); go_simp; (repeat (conv in rho _ _ _ _ (Operand.tmp _) => whnf)); (try simp only [hd]);  rfl)) | (apply free_gpure; (focus (intro vs w hg hd; (try simp [Region.binds] at hd); (first | (simp [Region.wanted, yieldR]; (repeat (conv in rho _ _ _ _ (Operand.tmp _) => whnf)); simp [hd]; done) | (simp [Region.wanted, yieldR]; (repeat (conv in rho _ _ _ _ (Operand.tmp _) => whnf)); simp [hd, undef]; done) | (simp [Region.wanted, yieldR]; (repeat (conv in rho _ _ _ _ (Operand.tmp _) => whnf)); (try simp [hd]); simp [*])))); focus (intro vs w hg hd;  (try simp [Region.binds] at hd); simp only [execOp, resolve, Option.map_some, Option.map_none, List.map_toArray, List.map_cons, List.map_nil, rho_const, rho_func]; (repeat (conv in rho _ _ _ _ (Operand.tmp _) => whnf)); (try simp only [hd]); go_simp; (repeat (conv in rho _ _ _ _ (Operand.tmp _) => whnf)); (try simp only [hd]);  rfl)))
        repeat (refine free_passed (fun vs wq hg hd => ?_) ?_; focus ((try simp [Region.binds] at hd); (first | (simp [Region.wanted, yieldR]; (repeat (conv in rho _ _ _ _ (Operand.tmp _) => whnf)); simp [hd]; done) | (simp [Region.wanted, yieldR]; (repeat (conv in rho _ _ _ _ (Operand.tmp _) => whnf)); simp [hd, undef]; done) | (simp [Region.wanted, yieldR]; (repeat (conv in rho _ _ _ _ (Operand.tmp _) => whnf)); (try simp [hd]); simp [*]))))
        repeat (first | (apply free_pure rfl; focus (intro vs w hg hd;  (try simp [Region.binds] at hd); simp only [execOp, resolve, Option.map_some, Option.map_none, List.map_toArray, List.map_cons, List.map_nil, rho_const, rho_func]; (repeat (conv in rho _ _ _ _ (Operand.tmp _) => whnf)); (try simp only [hd]); go_simp; (repeat (conv in rho _ _ _ _ (Operand.tmp _) => whnf)); (try simp only [hd]);  rfl)) | (apply free_gpure; (focus (intro vs w hg hd; (try simp [Region.binds] at hd); (first | (simp [Region.wanted, yieldR]; (repeat (conv in rho _ _ _ _ (Operand.tmp _) => whnf)); simp [hd]; done) | (simp [Region.wanted, yieldR]; (repeat (conv in rho _ _ _ _ (Operand.tmp _) => whnf)); simp [hd, undef]; done) | (simp [Region.wanted, yieldR]; (repeat (conv in rho _ _ _ _ (Operand.tmp _) => whnf)); (try simp [hd]); simp [*])))); focus (intro vs w hg hd;  (try simp [Region.binds] at hd); simp only [execOp, resolve, Option.map_some, Option.map_none, List.map_toArray, List.map_cons, List.map_nil, rho_const, rho_func]; (repeat (conv in rho _ _ _ _ (Operand.tmp _) => whnf)); (try simp only [hd]); go_simp; (repeat (conv in rho _ _ _ _ (Operand.tmp _) => whnf)); (try simp only [hd]);  rfl)))
        intro vs w' hg hv; have h35 := hv 35 (by omega); simp at h35; simp only [putL, dstAt, List.range, List.range.loop, if_true, List.getElem?_toArray, List.getElem?_cons_zero, List.getElem?_cons_succ, Option.bind_some, Act.put, List.setIfInBounds_toArray, List.set_cons_zero, List.set_cons_succ]
        rw [h35]
        have hgV := Lib.hid (hgW.out.trans (Grows.of_drew hg))
        clear hv h35 hg
        generalize vs 0 = z0, vs 1 = z1, vs 2 = z2, vs 3 = z3, vs 4 = z4, vs 5 = z5, vs 6 = z6, vs 7 = z7, vs 8 = z8, vs 9 = z9, vs 10 = z10, vs 11 = z11, vs 12 = z12, vs 13 = z13, vs 14 = z14, vs 15 = z15, vs 16 = z16, vs 17 = z17, vs 18 = z18, vs 19 = z19, vs 20 = z20, vs 21 = z21, vs 22 = z22, vs 23 = z23, vs 24 = z24, vs 25 = z25, vs 26 = z26, vs 27 = z27, vs 28 = z28, vs 29 = z29, vs 30 = z30, vs 31 = z31, vs 32 = z32, vs 33 = z33, vs 34 = z34, vs 35 = z35 at *
        go_wp2
        go_ret
        exact ⟨by rw [HNo.out HF.out]; rfl, hgV.out⟩
      have a1' : ¬ (r.kn : Int) < 1 := by omega
      by_cases a2 : 8 < r.kn
      · have a2' : (8 : Int) < r.kn := by omega
        have HF : Hid (oa = false) := by unfold Hid; rw [HOK.out, decide_eq_false (p := r.kn ≤ 8) (by omega), Bool.and_false]; rfl
        refine wp_region_free 36 92 (by kernel_rfl) (by kernel_rfl) rfl (by kernel_rfl) ?_; simp only [List.take_succ_cons, List.take_zero, List.drop_succ_cons, List.drop_zero]
        repeat (apply free_pure rfl; focus (intro vs w hg hd;  (try simp [Region.binds] at hd); simp only [execOp, resolve, Option.map_some, Option.map_none, List.map_toArray, List.map_cons, List.map_nil, rho_const, rho_func]; (repeat (conv in rho _ _ _ _ (Operand.tmp _) => whnf)); (try simp only [hd]); go_simp; (repeat (conv in rho _ _ _ _ (Operand.tmp _) => whnf)); (try simp only [hd]);  rfl))
        repeat (first | (apply free_pure rfl; focus (intro vs w hg hd; have q0 := hg.cell x0; (try simp [Region.binds] at hd); simp only [execOp, resolve, Option.map_some, Option.map_none, List.map_toArray, List.map_cons, List.map_nil, rho_const, rho_func]; (repeat (conv in rho _ _ _ _ (Operand.tmp _) => whnf)); (try simp only [hd]); go_simp; (repeat (conv in rho _ _ _ _ (Operand.tmp _) => whnf)); (try simp only [hd]); (try simp only [u4, u5]); rfl)) | (apply free_gpure; (focus (intro vs w hg hd; (try simp [Region.binds] at hd); (first | (simp [Region.wanted, yieldR]; (repeat (conv in rho _ _ _ _ (Operand.tmp _) => whnf)); simp [hd]; done) | (simp [Region.wanted, yieldR]; (repeat (conv in rho _ _ _ _ (Operand.tmp _) => whnf)); simp [hd, undef]; done) | (simp [Region.wanted, yieldR]; (repeat (conv in rho _ _ _ _ (Operand.tmp _) => whnf)); (try simp [hd]); simp [*])))); focus (intro vs w hg hd; have q0 := hg.cell x0; (try simp [Region.binds] at hd); simp only [execOp, resolve, Option.map_some, Option.map_none, List.map_toArray, List.map_cons, List.map_nil, rho_const, rho_func]; (repeat (conv in rho _ _ _ _ (Operand.tmp _) => whnf)); (try simp only [hd]); go_simp; (repeat (conv in rho _ _ _ _ (Operand.tmp _) => whnf)); (try simp only [hd]); (try simp only [u4, u5]); rfl)))
        repeat (refine free_passed (fun vs wq hg hd => ?_) ?_; focus ((try simp [Region.binds] at hd); (first | (simp [Region.wanted, yieldR]; (repeat (conv in rho _ _ _ _ (Operand.tmp _) => whnf)); simp [hd]; done) | (simp [Region.wanted, yieldR]; (repeat (conv in rho _ _ _ _ (Operand.tmp _) => whnf)); simp [hd, undef]; done) | (simp [Region.wanted, yieldR]; (repeat (conv in rho _ _ _ _ (Operand.tmp _) => whnf)); (try simp [hd]); simp [*]))))
        repeat (first | (apply free_pure rfl; focus (intro vs w hg hd;  (try simp [Region.binds] at hd); simp only [execOp, resolve, Option.map_some, Option.map_none, List.map_toArray, List.map_cons, List.map_nil, rho_const, rho_func]; (repeat (conv in rho _ _ _ _ (Operand.tmp _) => whnf)); (try simp only [hd]); go_simp; (repeat (conv in rho _ _ _ _ (Operand.tmp _) => whnf)); (try simp only [hd]);  rfl)) | (apply free_gpure; (focus (intro vs w hg hd; (try simp [Region.binds] at hd); (first | (simp [Region.wanted, yieldR]; (repeat (conv in rho _ _ _ _ (Operand.tmp _) => whnf)); simp [hd]; done) | (simp [Region.wanted, yieldR]; (repeat (conv in rho _ _ _ _ (Operand.tmp _) => whnf)); simp [hd, undef]; done) | (simp [Region.wanted, yieldR]; (repeat (conv in rho _ _ _ _ (Operand.tmp _) => whnf)); (try simp [hd]); simp [*])))); focus (intro vs w hg hd;  (try simp [Region.binds] at hd); simp only [execOp, resolve, Option.map_some, Option.map_none, List.map_toArray, List.map_cons, List.map_nil, rho_const, rho_func]; (repeat (conv in rho _ _ _ _ (Operand.tmp _) => whnf)); (try simp only [hd]); go_simp; (repeat (conv in rho _ _ _ _ (Operand.tmp _) => whnf)); (try simp only [hd]);  rfl)))
        intro vs w' hg hv; have h35 := hv 35 (by omega); simp at h35; simp only [putL, dstAt, List.range, List.range.loop, if_true, List.getElem?_toArray, List.getElem?_cons_zero, List.getElem?_cons_succ, Option.bind_some, Act.put, List.setIfInBounds_toArray, List.set_cons_zero, List.set_cons_succ]
        rw [h35]
        have hgV := Lib.hid (hgW.out.trans (Grows.of_drew hg))
        clear hv h35 hg
        generalize vs 0 = z0, vs 1 = z1, vs 2 = z2, vs 3 = z3, vs 4 = z4, vs 5 = z5, vs 6 = z6, vs 7 = z7, vs 8 = z8, vs 9 = z9, vs 10 = z10, vs 11 = z11, vs 12 = z12, vs 13 = z13, vs 14 = z14, vs 15 = z15, vs 16 = z16, vs 17 = z17, vs 18 = z18, vs 19 = z19, vs 20 = z20, vs 21 = z21, vs 22 = z22, vs 23 = z23, vs 24 = z24, vs 25 = z25, vs 26 = z26, vs 27 = z27, vs 28 = z28, vs 29 = z29, vs 30 = z30, vs 31 = z31, vs 32 = z32, vs 33 = z33, vs 34 = z34, vs 35 = z35 at *
        go_wp2
        go_ret
        exact ⟨by rw [HNo.out HF.out]; rfl, hgV.out⟩
      have a2' : ¬ (8 : Int) < r.kn := by omega
      have HOL : Hid (oa = Op.bytesLess (str y.key).toList (str x.key).toList) := by
        unfold Hid
        rw [HOK.out, HLT.out, decide_eq_true (p := 1 ≤ r.kn) (by omega), decide_eq_true (p := r.kn ≤ 8) (by omega)]
        rfl
      clear HOK HLT
      generalize htl : Op.bytesLess (str y.key).toList (str x.key).toList = tl at *
      cases tl
      · have HF : Hid (oa = false) := HOL.out
        refine wp_region_free 36 92 (by kernel_rfl) (by kernel_rfl) rfl (by kernel_rfl) ?_; simp only [List.take_succ_cons, List.take_zero, List.drop_succ_cons, List.drop_zero]
        repeat (apply free_pure rfl; focus (intro vs w hg hd;  (try simp [Region.binds] at hd); simp only [execOp, resolve, Option.map_some, Option.map_none, List.map_toArray, List.map_cons, List.map_nil, rho_const, rho_func]; (repeat (conv in rho _ _ _ _ (Operand.tmp _) => whnf)); (try simp only [hd]); go_simp; (repeat (conv in rho _ _ _ _ (Operand.tmp _) => whnf)); (try simp only [hd]);  rfl))
        repeat (first | (apply free_pure rfl; focus (intro vs w hg hd; have q0 := hg.cell x0; (try simp [Region.binds] at hd); simp only [execOp, resolve, Option.map_some, Option.map_none, List.map_toArray, List.map_cons, List.map_nil, rho_const, rho_func]; (repeat (conv in rho _ _ _ _ (Operand.tmp _) => whnf)); (try simp only [hd]); go_simp; (repeat (conv in rho _ _ _ _ (Operand.tmp _) => whnf)); (try simp only [hd]); (try simp only [u4, u5]); rfl)) | (apply free_gpure; (focus (intro vs w hg hd; (try simp [Region.binds] at hd); (first | (simp [Region.wanted, yieldR]; (repeat (conv in rho _ _ _ _ (Operand.tmp _) => whnf)); simp [hd]; done) | (simp [Region.wanted, yieldR]; (repeat (conv in rho _ _ _ _ (Operand.tmp _) => whnf)); simp [hd, undef]; done) | (simp [Region.wanted, yieldR]; (repeat (conv in rho _ _ _ _ (Operand.tmp _) => whnf)); (try simp [hd]); simp [*])))); focus (intro vs w hg hd; have q0 := hg.cell x0; (try simp [Region.binds] at hd); simp only [execOp, resolve, Option.map_some, Option.map_none, List.map_toArray, List.map_cons, List.map_nil, rho_const, rho_func]; (repeat (conv in rho _ _ _ _ (Operand.tmp _) => whnf)); (try simp only [hd]); go_simp; (repeat (conv in rho _ _ _ _ (Operand.tmp _) => whnf)); (try simp only [hd]); (try simp only [u4, u5]); rfl)))
        repeat (first | (apply free_pure rfl; focus (intro vs w hg hd; have q0 := hg.cell y0; (try simp [Region.binds] at hd); simp only [execOp, resolve, Option.map_some, Option.map_none, List.map_toArray, List.map_cons, List.map_nil, rho_const, rho_func]; (repeat (conv in rho _ _ _ _ (Operand.tmp _) => whnf)); (try simp only [hd]); go_simp; (repeat (conv in rho _ _ _ _ (Operand.tmp _) => whnf)); (try simp only [hd]); (try simp only [u1]); rfl)) | (apply free_gpure; (focus (intro vs w hg hd; (try simp [Region.binds] at hd); (first | (simp [Region.wanted, yieldR]; (repeat (conv in rho _ _ _ _ (Operand.tmp _) => whnf)); simp [hd]; done) | (simp [Region.wanted, yieldR]; (repeat (conv in rho _ _ _ _ (Operand.tmp _) => whnf)); simp [hd, undef]; done) | (simp [Region.wanted, yieldR]; (repeat (conv in rho _ _ _ _ (Operand.tmp _) => whnf)); (try simp [hd]); simp [*])))); focus (intro vs w hg hd; have q0 := hg.cell y0; (try simp [Region.binds] at hd); simp only [execOp, resolve, Option.map_some, Option.map_none, List.map_toArray, List.map_cons, List.map_nil, rho_const, rho_func]; (repeat (conv in rho _ _ _ _ (Operand.tmp _) => whnf)); (try simp only [hd]); go_simp; (repeat (conv in rho _ _ _ _ (Operand.tmp _) => whnf)); (try simp only [hd]); (try simp only [u1]); rfl)))
        refine free_guarded (fun v_ _ => v_ = .string (str (y.key))) (dk_mono _) (fun vs wq hg hd => by ((try simp [Region.binds] at hd); refine ⟨?_, ?_⟩; (focus (first | (simp [Region.wanted, yieldR]; (repeat (conv in rho _ _ _ _ (Operand.tmp _) => whnf)); simp [hd]; done) | (simp [Region.wanted, yieldR]; (repeat (conv in rho _ _ _ _ (Operand.tmp _) => whnf)); simp [hd, undef]; done) | (simp [Region.wanted, yieldR]; (repeat (conv in rho _ _ _ _ (Operand.tmp _) => whnf)); (try simp [hd]); simp [*]))); (focus (have e1 := run_str (P := Tryd.prog) (Sl.below HK2.out (Grows.of_drew hg)) 40 5 9 Tryd.underlying40 Tryd.underlying5 Tryd.underlying9; simp only [Does]; simp only [execOp, resolve, Option.map_some, Option.map_none, List.map_toArray, List.map_cons, List.map_nil, rho_const, rho_func]; (repeat (conv in rho _ _ _ _ (Operand.tmp _) => whnf)); (try simp only [hd]); go_simp; (repeat (conv in rho _ _ _ _ (Operand.tmp _) => whnf)); exact Grows.refl _)))) ?_
        repeat (first | (apply free_pure rfl; focus (intro vs w hg hd; have q0 := hg.cell x0; (try simp [Region.binds] at hd); simp only [execOp, resolve, Option.map_some, Option.map_none, List.map_toArray, List.map_cons, List.map_nil, rho_const, rho_func]; (repeat (conv in rho _ _ _ _ (Operand.tmp _) => whnf)); (try simp only [hd]); go_simp; (repeat (conv in rho _ _ _ _ (Operand.tmp _) => whnf)); (try simp only [hd]);  rfl)) | (apply free_gpure; (focus (intro vs w hg hd; (try simp [Region.binds] at hd); (first | (simp [Region.wanted, yieldR]; (repeat (conv in rho _ _ _ _ (Operand.tmp _) => whnf)); simp [hd]; done) | (simp [Region.wanted, yieldR]; (repeat (conv in rho _ _ _ _ (Operand.tmp _) => whnf)); simp [hd, undef]; done) | (simp [Region.wanted, yieldR]; (repeat (conv in rho _ _ _ _ (Operand.tmp _) => whnf)); (try simp [hd]); simp [*])))); focus (intro vs w hg hd; have q0 := hg.cell x0; (try simp [Region.binds] at hd); simp only [execOp, resolve, Option.map_some, Option.map_none, List.map_toArray, List.map_cons, List.map_nil, rho_const, rho_func]; (repeat (conv in rho _ _ _ _ (Operand.tmp _) => whnf)); (try simp only [hd]); go_simp; (repeat (conv in rho _ _ _ _ (Operand.tmp _) => whnf)); (try simp only [hd]);  rfl)))
        refine free_guarded (fun v_ _ => v_ = .string (str (x.key))) (dk_mono _) (fun vs wq hg hd => by ((try simp [Region.binds] at hd); refine ⟨?_, ?_⟩; (focus (first | (simp [Region.wanted, yieldR]; (repeat (conv in rho _ _ _ _ (Operand.tmp _) => whnf)); simp [hd]; done) | (simp [Region.wanted, yieldR]; (repeat (conv in rho _ _ _ _ (Operand.tmp _) => whnf)); simp [hd, undef]; done) | (simp [Region.wanted, yieldR]; (repeat (conv in rho _ _ _ _ (Operand.tmp _) => whnf)); (try simp [hd]); simp [*]))); (focus (have e1 := run_str (P := Tryd.prog) (Sl.below HK1.out (Grows.of_drew hg)) 40 5 9 Tryd.underlying40 Tryd.underlying5 Tryd.underlying9; simp only [Does]; simp only [execOp, resolve, Option.map_some, Option.map_none, List.map_toArray, List.map_cons, List.map_nil, rho_const, rho_func]; (repeat (conv in rho _ _ _ _ (Operand.tmp _) => whnf)); (try simp only [hd]); go_simp; (repeat (conv in rho _ _ _ _ (Operand.tmp _) => whnf)); exact Grows.refl _)))) ?_
        repeat (first | (apply free_pure rfl; focus (intro vs w hg hd;  (try simp [Region.binds] at hd); simp only [execOp, resolve, Option.map_some, Option.map_none, List.map_toArray, List.map_cons, List.map_nil, rho_const, rho_func]; (repeat (conv in rho _ _ _ _ (Operand.tmp _) => whnf)); (try simp only [hd]); go_simp; (repeat (conv in rho _ _ _ _ (Operand.tmp _) => whnf)); (try simp only [hd]); (try simp only [htl]); rfl)) | (apply free_gpure; (focus (intro vs w hg hd; (try simp [Region.binds] at hd); (first | (simp [Region.wanted, yieldR]; (repeat (conv in rho _ _ _ _ (Operand.tmp _) => whnf)); simp [hd]; done) | (simp [Region.wanted, yieldR]; (repeat (conv in rho _ _ _ _ (Operand.tmp _) => whnf)); simp [hd, undef]; done) | (simp [Region.wanted, yieldR]; (repeat (conv in rho _ _ _ _ (Operand.tmp _) => whnf)); (try simp [hd]); simp [*])))); focus (intro vs w hg hd;  (try simp [Region.binds] at hd); simp only [execOp, resolve, Option.map_some, Option.map_none, List.map_toArray, List.map_cons, List.map_nil, rho_const, rho_func]; (repeat (conv in rho _ _ _ _ (Operand.tmp _) => whnf)); (try simp only [hd]); go_simp; (repeat (conv in rho _ _ _ _ (Operand.tmp _) => whnf)); (try simp only [hd]); (try simp only [htl]); rfl)))
        intro vs w' hg hv; have h35 := hv 35 (by omega); simp at h35; simp only [putL, dstAt, List.range, List.range.loop, if_true, List.getElem?_toArray, List.getElem?_cons_zero, List.getElem?_cons_succ, Option.bind_some, Act.put, List.setIfInBounds_toArray, List.set_cons_zero, List.set_cons_succ]
        rw [h35]
        have hgV := Lib.hid (hgW.out.trans (Grows.of_drew hg))
        clear hv h35 hg
        generalize vs 0 = z0, vs 1 = z1, vs 2 = z2, vs 3 = z3, vs 4 = z4, vs 5 = z5, vs 6 = z6, vs 7 = z7, vs 8 = z8, vs 9 = z9, vs 10 = z10, vs 11 = z11, vs 12 = z12, vs 13 = z13, vs 14 = z14, vs 15 = z15, vs 16 = z16, vs 17 = z17, vs 18 = z18, vs 19 = z19, vs 20 = z20, vs 21 = z21, vs 22 = z22, vs 23 = z23, vs 24 = z24, vs 25 = z25, vs 26 = z26, vs 27 = z27, vs 28 = z28, vs 29 = z29, vs 30 = z30, vs 31 = z31, vs 32 = z32, vs 33 = z33, vs 34 = z34, vs 35 = z35 at *
        go_wp2
        go_ret
        exact ⟨by rw [HNo.out HF.out]; rfl, hgV.out⟩
      · have HO : Hid (oa = true) := HOL.out
        refine wp_region_free 36 92 (by kernel_rfl) (by kernel_rfl) rfl (by kernel_rfl) ?_; simp only [List.take_succ_cons, List.take_zero, List.drop_succ_cons, List.drop_zero]
        repeat (apply free_pure rfl; focus (intro vs w hg hd;  (try simp [Region.binds] at hd); simp only [execOp, resolve, Option.map_some, Option.map_none, List.map_toArray, List.map_cons, List.map_nil, rho_const, rho_func]; (repeat (conv in rho _ _ _ _ (Operand.tmp _) => whnf)); (try simp only [hd]); go_simp; (repeat (conv in rho _ _ _ _ (Operand.tmp _) => whnf)); (try simp only [hd]);  rfl))
        repeat (first | (apply free_pure rfl; focus (intro vs w hg hd; have q0 := hg.cell x0; (try simp [Region.binds] at hd); simp only [execOp, resolve, Option.map_some, Option.map_none, List.map_toArray, List.map_cons, List.map_nil, rho_const, rho_func]; (repeat (conv in rho _ _ _ _ (Operand.tmp _) => whnf)); (try simp only [hd]); go_simp; (repeat (conv in rho _ _ _ _ (Operand.tmp _) => whnf)); (try simp only [hd]); (try simp only [u4, u5]); rfl)) | (apply free_gpure; (focus (intro vs w hg hd; (try simp [Region.binds] at hd); (first | (simp [Region.wanted, yieldR]; (repeat (conv in rho _ _ _ _ (Operand.tmp _) => whnf)); simp [hd]; done) | (simp [Region.wanted, yieldR]; (repeat (conv in rho _ _ _ _ (Operand.tmp _) => whnf)); simp [hd, undef]; done) | (simp [Region.wanted, yieldR]; (repeat (conv in rho _ _ _ _ (Operand.tmp _) => whnf)); (try simp [hd]); simp [*])))); focus (intro vs w hg hd; have q0 := hg.cell x0; (try simp [Region.binds] at hd); simp only [execOp, resolve, Option.map_some, Option.map_none, List.map_toArray, List.map_cons, List.map_nil, rho_const, rho_func]; (repeat (conv in rho _ _ _ _ (Operand.tmp _) => whnf)); (try simp only [hd]); go_simp; (repeat (conv in rho _ _ _ _ (Operand.tmp _) => whnf)); (try simp only [hd]); (try simp only [u4, u5]); rfl)))
        repeat (first | (apply free_pure rfl; focus (intro vs w hg hd; have q0 := hg.cell y0; (try simp [Region.binds] at hd); simp only [execOp, resolve, Option.map_some, Option.map_none, List.map_toArray, List.map_cons, List.map_nil, rho_const, rho_func]; (repeat (conv in rho _ _ _ _ (Operand.tmp _) => whnf)); (try simp only [hd]); go_simp; (repeat (conv in rho _ _ _ _ (Operand.tmp _) => whnf)); (try simp only [hd]); (try simp only [u1]); rfl)) | (apply free_gpure; (focus (intro vs w hg hd; (try simp [Region.binds] at hd); (first | (simp [Region.wanted, yieldR]; (repeat (conv in rho _ _ _ _ (Operand.tmp _) => whnf)); simp [hd]; done) | (simp [Region.wanted, yieldR]; (repeat (conv in rho _ _ _ _ (Operand.tmp _) => whnf)); simp [hd, undef]; done) | (simp [Region.wanted, yieldR]; (repeat (conv in rho _ _ _ _ (Operand.tmp _) => whnf)); (try simp [hd]); simp [*])))); focus (intro vs w hg hd; have q0 := hg.cell y0; (try simp [Region.binds] at hd); simp only [execOp, resolve, Option.map_some, Option.map_none, List.map_toArray, List.map_cons, List.map_nil, rho_const, rho_func]; (repeat (conv in rho _ _ _ _ (Operand.tmp _) => whnf)); (try simp only [hd]); go_simp; (repeat (conv in rho _ _ _ _ (Operand.tmp _) => whnf)); (try simp only [hd]); (try simp only [u1]); rfl)))
        refine free_guarded (fun v_ _ => v_ = .string (str (y.key))) (dk_mono _) (fun vs wq hg hd => by ((try simp [Region.binds] at hd); refine ⟨?_, ?_⟩; (focus (first | (simp [Region.wanted, yieldR]; (repeat (conv in rho _ _ _ _ (Operand.tmp _) => whnf)); simp [hd]; done) | (simp [Region.wanted, yieldR]; (repeat (conv in rho _ _ _ _ (Operand.tmp _) => whnf)); simp [hd, undef]; done) | (simp [Region.wanted, yieldR]; (repeat (conv in rho _ _ _ _ (Operand.tmp _) => whnf)); (try simp [hd]); simp [*]))); (focus (have e1 := run_str (P := Tryd.prog) (Sl.below HK2.out (Grows.of_drew hg)) 40 5 9 Tryd.underlying40 Tryd.underlying5 Tryd.underlying9; simp only [Does]; simp only [execOp, resolve, Option.map_some, Option.map_none, List.map_toArray, List.map_cons, List.map_nil, rho_const, rho_func]; (repeat (conv in rho _ _ _ _ (Operand.tmp _) => whnf)); (try simp only [hd]); go_simp; (repeat (conv in rho _ _ _ _ (Operand.tmp _) => whnf)); exact Grows.refl _)))) ?_
        repeat (first | (apply free_pure rfl; focus (intro vs w hg hd; have q0 := hg.cell x0; (try simp [Region.binds] at hd); simp only [execOp, resolve, Option.map_some, Option.map_none, List.map_toArray, List.map_cons, List.map_nil, rho_const, rho_func]; (repeat (conv in rho _ _ _ _ (Operand.tmp _) => whnf)); (try simp only [hd]); go_simp; (repeat (conv in rho _ _ _ _ (Operand.tmp _) => whnf)); (try simp only [hd]);  rfl)) | (apply free_gpure; (focus (intro vs w hg hd; (try simp [Region.binds] at hd); (first | (simp [Region.wanted, yieldR]; (repeat (conv in rho _ _ _ _ (Operand.tmp _) => whnf)); simp [hd]; done) | (simp [Region.wanted, yieldR]; (repeat (conv in rho _ _ _ _ (Operand.tmp _) => whnf)); simp [hd, undef]; done) | (simp [Region.wanted, yieldR]; (repeat (conv in rho _ _ _ _ (Operand.tmp _) => whnf)); (try simp [hd]); simp [*])))); focus (intro vs w hg hd; have q0 := hg.cell x0; (try simp [Region.binds] at hd); simp only [execOp, resolve, Option.map_some, Option.map_none, List.map_toArray, List.map_cons, List.map_nil, rho_const, rho_func]; (repeat (conv in rho _ _ _ _ (Operand.tmp _) => whnf)); (try simp only [hd]); go_simp; (repeat (conv in rho _ _ _ _ (Operand.tmp _) => whnf)); (try simp only [hd]);  rfl)))
        refine free_guarded (fun v_ _ => v_ = .string (str (x.key))) (dk_mono _) (fun vs wq hg hd => by ((try simp [Region.binds] at hd); refine ⟨?_, ?_⟩; (focus (first | (simp [Region.wanted, yieldR]; (repeat (conv in rho _ _ _ _ (Operand.tmp _) => whnf)); simp [hd]; done) | (simp [Region.wanted, yieldR]; (repeat (conv in rho _ _ _ _ (Operand.tmp _) => whnf)); simp [hd, undef]; done) | (simp [Region.wanted, yieldR]; (repeat (conv in rho _ _ _ _ (Operand.tmp _) => whnf)); (try simp [hd]); simp [*]))); (focus (have e1 := run_str (P := Tryd.prog) (Sl.below HK1.out (Grows.of_drew hg)) 40 5 9 Tryd.underlying40 Tryd.underlying5 Tryd.underlying9; simp only [Does]; simp only [execOp, resolve, Option.map_some, Option.map_none, List.map_toArray, List.map_cons, List.map_nil, rho_const, rho_func]; (repeat (conv in rho _ _ _ _ (Operand.tmp _) => whnf)); (try simp only [hd]); go_simp; (repeat (conv in rho _ _ _ _ (Operand.tmp _) => whnf)); exact Grows.refl _)))) ?_
        repeat (first | (apply free_pure rfl; focus (intro vs w hg hd;  (try simp [Region.binds] at hd); simp only [execOp, resolve, Option.map_some, Option.map_none, List.map_toArray, List.map_cons, List.map_nil, rho_const, rho_func]; (repeat (conv in rho _ _ _ _ (Operand.tmp _) => whnf)); (try simp only [hd]); go_simp; (repeat (conv in rho _ _ _ _ (Operand.tmp _) => whnf)); (try simp only [hd]); (try simp only [htl]); rfl)) | (apply free_gpure; (focus (intro vs w hg hd; (try simp [Region.binds] at hd); (first | (simp [Region.wanted, yieldR]; (repeat (conv in rho _ _ _ _ (Operand.tmp _) => whnf)); simp [hd]; done) | (simp [Region.wanted, yieldR]; (repeat (conv in rho _ _ _ _ (Operand.tmp _) => whnf)); simp [hd, undef]; done) | (simp [Region.wanted, yieldR]; (repeat (conv in rho _ _ _ _ (Operand.tmp _) => whnf)); (try simp [hd]); simp [*])))); focus (intro vs w hg hd;  (try simp [Region.binds] at hd); simp only [execOp, resolve, Option.map_some, Option.map_none, List.map_toArray, List.map_cons, List.map_nil, rho_const, rho_func]; (repeat (conv in rho _ _ _ _ (Operand.tmp _) => whnf)); (try simp only [hd]); go_simp; (repeat (conv in rho _ _ _ _ (Operand.tmp _) => whnf)); (try simp only [hd]); (try simp only [htl]); rfl)))
        intro vs w' hg hv; have h35 := hv 35 (by omega); simp at h35; simp only [putL, dstAt, List.range, List.range.loop, if_true, List.getElem?_toArray, List.getElem?_cons_zero, List.getElem?_cons_succ, Option.bind_some, Act.put, List.setIfInBounds_toArray, List.set_cons_zero, List.set_cons_succ]
        rw [h35]
        have hgV := Lib.hid (hgW.out.trans (Grows.of_drew hg))
        clear hv h35 hg
        generalize vs 0 = z0, vs 1 = z1, vs 2 = z2, vs 3 = z3, vs 4 = z4, vs 5 = z5, vs 6 = z6, vs 7 = z7, vs 8 = z8, vs 9 = z9, vs 10 = z10, vs 11 = z11, vs 12 = z12, vs 13 = z13, vs 14 = z14, vs 15 = z15, vs 16 = z16, vs 17 = z17, vs 18 = z18, vs 19 = z19, vs 20 = z20, vs 21 = z21, vs 22 = z22, vs 23 = z23, vs 24 = z24, vs 25 = z25, vs 26 = z26, vs 27 = z27, vs 28 = z28, vs 29 = z29, vs 30 = z30, vs 31 = z31, vs 32 = z32, vs 33 = z33, vs 34 = z34, vs 35 = z35 at *
        go_wp2
        go_roundw
        case rel => exact ⟨k + 1, by omega, by go_num, HYes.out HO.out, hgV.out⟩
        case measure => simp [intOf]; omega
    · obtain rfl : k = l.length := by omega
      have HE : Hid (BrM.right l = true) := BrM.right_end (by omega) (by omega) HHd.out HGr.out
      go_wp2
      go_ret
      exact ⟨by rw [HE.out]; rfl, HB.out⟩
end Go.Proofs.YtjcommodiihcdaaDoor
/- Layer 7's own small answers: may a pointer be a kid's, may a key stand behind another? -/
namespace Go.Proofs.YtjcommodiihcdaaDoor
open Go.RowKit
set_option linter.unusedVariables false
set_option linter.unusedSimpArgs false
theorem ptA_range {w : World} {g : Nat} {x : Pt} (h : Row w g 45 (ptA x)) : w.rangeAt g 0 (ptE x) := fun j v hv => by
  rw [Nat.zero_add, h.cell]
  simpa [ptA, ptE] using hv
theorem pointsRight_any (x : Pt) (k : BitVec 8) (w : World) :
    Calls Tryd.prog 34 #[.agg (ptA x), .int .u8 (bI k)] w fun e w' => e = .returned (.bool (PtM.node x && PtM.right x 256 && (x.kind == k))) ∧ Grows w w' := by
  have HX := Lib.hid (Row.new w 45 (ptA x))
  have HG := Lib.hid (Grows.alloc w (.cells (ptA x) 45))
  have HM := Lib.hid (fun W => node_any x W)
  have HR := Lib.hid (fun W => right_any x 256 W)
  have HP := Lib.hid (fun W (h : Row W w.heap.size 45 (ptA x)) => ptA_range h)
  have hbk := bI_beq x.kind k
  generalize (x.kind == k) = t1 at *
  generalize PtM.node x = t2 at *
  generalize PtM.right x 256 = t3 at *
  cases t1
  · go_enter Tryd.func34, Tryd.ntmps34
    go_wp2
    go_ret
    exact ⟨by simp, HG.out⟩
  cases t2
  · go_enter Tryd.func34, Tryd.ntmps34
    go_wp2_with (first
      | ((with_reducible refine wpList_loadG_ptAt (op := ⟨some 10, _, _, _, _, _⟩) ?_ (.tmp 2) ?_ w.heap.size 0 x ?_ ?_ ?_); exact rfl; exact rfl; exact rfl; exact HP.out _ HX.out)
      | (go_at_call 48; (with_reducible refine (HM.out _).mono ?_); rintro e w2 ⟨rfl, g⟩; have G2 := Lib.hid (HG.out.trans g); clear g))
    go_ret
    exact ⟨rfl, G2.out⟩
  go_enter Tryd.func34, Tryd.ntmps34
  go_wp2_with (first
    | ((with_reducible refine wpList_loadG_ptAt (op := ⟨some 10, _, _, _, _, _⟩) ?_ (.tmp 2) ?_ w.heap.size 0 x ?_ ?_ ?_); exact rfl; exact rfl; exact rfl; exact HP.out _ HX.out)
    | (go_at_call 48; (with_reducible refine (HM.out _).mono ?_); rintro e w2 ⟨rfl, g⟩; have G2 := Lib.hid (HG.out.trans g); have X2 := Lib.hid (Row.grows HX.out g); clear g)
    | ((with_reducible refine wpList_loadG_ptAt (op := ⟨some 14, _, _, _, _, _⟩) ?_ (.tmp 2) ?_ w.heap.size 0 x ?_ ?_ ?_); exact rfl; exact rfl; exact rfl; exact HP.out _ X2.out)
    | (go_at_call 49; (with_reducible refine (HR.out _).mono ?_); rintro e w3 ⟨rfl, g⟩; have G3 := Lib.hid (G2.out.trans g); clear g))
  go_ret
  exact ⟨by simp, G3.out⟩
theorem lt_some {a b : List (BitVec 8)} (h : LeafM.lt a b = true) : 1 ≤ b.length := by
  cases b with
  | nil =>
    have h1 : (str ([] : List (BitVec 8))).toList = [] := by kernel_rfl
    unfold LeafM.lt at h
    rw [h1] at h
    cases (str a).toList <;> simp [Op.bytesLess] at h
  | cons x b => simp
theorem BrM.keyOk_eq (y x : Kd) : BrM.keyOk y x = (decide (x.key.length ≤ 8) && LeafM.lt y.key x.key) := by
  unfold BrM.keyOk
  by_cases h : LeafM.lt y.key x.key = true
  · rw [h, decide_eq_true (lt_some h)]
    simp
  · simp only [Bool.not_eq_true] at h
    rw [h, Bool.and_false, Bool.and_false]
theorem rises_any (u v : Value) (a b : List (BitVec 8)) (w : World) (hu : Bytes w.heap.size w u a) (hv : Bytes w.heap.size w v b) :
    Calls Tryd.prog 35 #[u, v] w fun e w' => e = .returned (.bool (decide (b.length ≤ 8) && LeafM.lt a b)) ∧ Grows w w' := by
  have HC := Lib.hid (bcompare_any u v a b w hu hv)
  have hcl := cmpI_lt a b
  obtain ⟨A, cap, rfl, q1, q2, _⟩ := hu
  obtain ⟨A', cap', rfl, q1', q2', _⟩ := hv
  simp only [List.length_map] at HC q1 q1' ⊢
  generalize cmpI a b = ci at *
  generalize LeafM.lt a b = t at *
  by_cases h8 : b.length ≤ 8
  · have h8' : (b.length : Int) ≤ 8 := by omega
    rw [decide_eq_true h8, Bool.true_and]
    have hlt : decide (ci < 0) = t := by
      have : decide (ci < 0) = !decide (0 ≤ ci) := by by_cases h : 0 ≤ ci <;> simp [h] <;> omega
      rw [this, hcl, Bool.not_not]
    clear hcl
    go_enter Tryd.func35, Tryd.ntmps35
    go_wp2_with (first
      | (go_at_call 50; (with_reducible refine HC.out.mono ?_); rintro e w2 ⟨rfl, g⟩; have G2 := Lib.hid g; clear g))
    go_ret
    exact ⟨by simp [hlt], G2.out⟩
  · have h8' : ¬ (b.length : Int) ≤ 8 := by omega
    rw [decide_eq_false h8, Bool.false_and]
    go_enter Tryd.func35, Tryd.ntmps35
    go_wp2
    go_ret
    exact ⟨rfl, Grows.refl _⟩
end Go.Proofs.YtjcommodiihcdaaDoor
/- Layer 7's own Right: may kids be? -/
namespace Go.Proofs.YtjcommodiihcdaaDoor
open Go.RowKit
set_option linter.unusedVariables false
set_option linter.unusedSimpArgs false
set_option maxRecDepth 20000 in
set_option maxHeartbeats 8000000 in
theorem right7_any (v : Value) (l : List Kd) (w : World) (hv : Kds w.heap.size w v l) :
    Calls Tryd.prog 15 #[v] w fun e w' => e = .returned (.bool (BrM.right l)) ∧ Grows w w' := by
  obtain ⟨A, cap, rfl, q1, q2, q3⟩ := hv.form
  have HQ := Lib.hid q3
  clear q3 hv
  unfold maxLen at q2
  by_cases hfew : l.length < 2
  · have hfew' : (l.length : Int) < 2 := by omega
    have HF := Lib.hid (BrM.right_few hfew)
    go_enter Tryd.func15, Tryd.ntmps15
    go_wp2
    go_ret
    exact ⟨by rw [HF.out]; rfl, Grows.refl _⟩
  have hfew' : ¬ (l.length : Int) < 2 := by omega
  by_cases hmany : 6 < l.length
  · have hmany' : (6 : Int) < l.length := by omega
    have HF := Lib.hid (BrM.right_many hmany)
    go_enter Tryd.func15, Tryd.ntmps15
    go_wp2
    go_ret
    exact ⟨by rw [HF.out]; rfl, Grows.refl _⟩
  have hmany' : ¬ (6 : Int) < l.length := by omega
  have hpos : (0 : Int) < l.length := by omega
  have hposn : 0 < l.length := by omega
  have hne : ¬ l = [] := by intro e; subst e; simp at hposn
  obtain ⟨g1, o1, rfl, hg1, hcA⟩ := HQ.out (by omega)
  clear HQ
  have e0 : l[0]? = some (l[0]'(by omega)) := List.getElem?_eq_getElem (by omega)
  obtain ⟨r0, hr0, hc0⟩ := hcA 0 _ e0
  rw [show o1 + 0 * 6 = o1 by omega] at hc0
  have z0 := (kd_at hc0).1
  have Z1 := Lib.hid (kd_at hc0).2.1
  have HH := Lib.hid (BrM.head_eq e0)
  have HK0 := Lib.hid (BrM.kind0_eq e0)
  have hn0 := hr0.1.len
  have hp0 := hr0.2
  rw [← hn0] at HH
  rw [← hp0] at HK0
  have HCA := Lib.hid hcA
  have HG1 := Lib.hid hg1
  clear hr0 hc0 hn0 hp0 hcA e0 hg1
  by_cases hhd : 0 < r0.kn
  · have hhd' : (0 : Int) < r0.kn := by omega
    have HF : Hid (BrM.right l = false) := BrM.right_head (by rw [HH.out]; exact decide_eq_false (by omega))
    go_enter Tryd.func15, Tryd.ntmps15
    go_wp2
    go_ret
    exact ⟨by rw [HF.out]; rfl, Grows.refl _⟩
  have hhd' : ¬ (0 : Int) < r0.kn := by omega
  have HHd : Hid (BrM.head l = true) := by unfold Hid; rw [HH.out]; exact decide_eq_true (by omega)
  clear HH
  go_enter Tryd.func15, Tryd.ntmps15
  go_wp2
  clear z0 hhd hhd'
  go_loopw [3, 4, 23] (fun _ _ i wr => ∃ k : Nat, k ≤ l.length ∧ i = .int .i64 k ∧ (List.range k).all (BrM.okAt l) = true ∧ Grows w wr) (fun _ _ i _ => l.length - (intOf i).toNat)
  case atStart => exact ⟨0, Nat.zero_le _, rfl, rfl, Grows.refl _⟩
  case round =>
    obtain ⟨k, hk, rfl, hg, hb⟩ := hrel
    have HGr := Lib.hid hg; have HB := Lib.hid hb
    clear hg hb
    by_cases hlt : k < l.length
    · have e1 : l[k]? = some l[k] := List.getElem?_eq_getElem hlt
      obtain ⟨r, hr, hc⟩ := HCA.out k _ e1
      have HC := Lib.hid (rangeAt_keep hc (fun a ha => Below.cell HB.out (by have := HG1.out; omega)))
      have HKr := Lib.hid hr.1
      have HNo := Lib.hid (fun h => BrM.right_false (k := k) hlt h)
      have HYes := Lib.hid (fun h => BrM.all_step (k := k) HGr.out h)
      have HPO : Hid (BrM.ptOk (BrM.kind0 l) l[k] = (PtM.node r.ptr && PtM.right r.ptr 256 && (r.ptr.kind == r0.ptr.kind))) := by
        unfold Hid; rw [HK0.out, hr.2]; rfl
      have HPR := Lib.hid (fun W => pointsRight_any r.ptr r0.ptr.kind W)
      rw [← HPO.out] at HPR
      have HA := Lib.hid (fun h => BrM.okAt_k (l := l) e1 h)
      have hlt' : (k : Int) < l.length := by omega
      have HZ := Lib.hid (Row.new wr 47 #[.slice none 0 0, .int .u8 0, .int .u16 0, .int .u16 0, .int .u32 0, .int .u64 0])
      have HOZ : Hid (k = 0 → BrM.okAt l k = BrM.ptOk (BrM.kind0 l) l[k]) := by intro h; subst h; exact BrM.okAt_zero (l := l) e1
      generalize htt : BrM.ptOk (BrM.kind0 l) l[k] = tt at *
      clear HPO hc
      cases tt
      · -- the pointer may not be
        go_wp2_with (first
          | ((with_reducible refine wpList_load_kid (op := ⟨some 27, _, _, _, _, _⟩) ?_ (.tmp 26) ?_ g1 (o1 + k * 6) r ?_ ?_ ?_); exact rfl; exact rfl; exact rfl; exact HC.out)
          | ((with_reducible refine wpList_store_kid ?_ (.tmp 4) (.tmp 27) ?_ wr.heap.size r #[.slice none 0 0, .int .u8 0, .int .u16 0, .int .u16 0, .int .u32 0, .int .u64 0] ?_ ?_ ?_ ?_ ?_); exact rfl; exact rfl; exact rfl; exact rfl; exact rfl; exact HZ.out; intro w1 hp hg; have P1 := Lib.hid (kdA_row hp); have G1 := Lib.hid (HB.out.trans (grown_fresh (W := wr) (W' := w1) rfl hg)); clear hp hg))
        have PP := Lib.hid (kd_at P1.out).2.2.2
        rw [Nat.zero_add] at PP
        have k0 := (Below.cell G1.out (p := ⟨g1, o1 + 1, none⟩) HG1.out).trans Z1.out
        refine wp_region_free 25 54 (by kernel_rfl) (by kernel_rfl) rfl (by kernel_rfl) ?_; simp only [List.take_succ_cons, List.take_zero, List.drop_succ_cons, List.drop_zero]
        repeat (apply free_pure rfl; focus (intro vs w hg hd;  (try simp [Region.binds] at hd); simp only [execOp, resolve, Option.map_some, Option.map_none, List.map_toArray, List.map_cons, List.map_nil, rho_const, rho_func]; (repeat (conv in rho _ _ _ _ (Operand.tmp _) => whnf)); (try simp only [hd]); go_simp; (repeat (conv in rho _ _ _ _ (Operand.tmp _) => whnf)); (try simp only [hd]);  rfl))
        refine free_op (fun v_ _ => v_ = .agg (ptA r.ptr)) rfl (dk_mono _) (fun vs wq hg hd => by
          (try simp [Region.binds] at hd)
          refine dk_load 45 (.tmp 28) ⟨wr.heap.size, 1, none⟩ _ rfl ?_ (pt_run_loadK (range_grows PP.out (Grows.of_drew hg))) ⟨Grows.refl _, rfl⟩
          (conv in rho _ _ _ _ (Operand.tmp _) => whnf)
          simp [hd]) ?_
        repeat (apply free_pure rfl; focus (intro vs w hg hd; have q0 := hg.cell k0; (try simp [Region.binds] at hd); simp only [execOp, resolve, Option.map_some, Option.map_none, List.map_toArray, List.map_cons, List.map_nil, rho_const, rho_func]; (repeat (conv in rho _ _ _ _ (Operand.tmp _) => whnf)); (try simp only [hd]); go_simp; (repeat (conv in rho _ _ _ _ (Operand.tmp _) => whnf)); (try simp only [hd]);  rfl))
        refine free_op (fun v_ _ => v_ = .bool false) rfl (dk_mono _) (fun vs wq hg hd => by
          (try simp [Region.binds] at hd); simp only [Does]; simp only [execOp, resolve, Option.map_some, Option.map_none, List.map_toArray, List.map_cons, List.map_nil, rho_const, rho_func]; (repeat (conv in rho _ _ _ _ (Operand.tmp _) => whnf)); (try simp only [hd]); go_simp; (repeat (conv in rho _ _ _ _ (Operand.tmp _) => whnf))
          exact HPR.out _) ?_
        repeat (apply free_pure rfl; focus (intro vs w hg hd;  (try simp [Region.binds] at hd); simp only [execOp, resolve, Option.map_some, Option.map_none, List.map_toArray, List.map_cons, List.map_nil, rho_const, rho_func]; (repeat (conv in rho _ _ _ _ (Operand.tmp _) => whnf)); (try simp only [hd]); go_simp; (repeat (conv in rho _ _ _ _ (Operand.tmp _) => whnf)); (try simp only [hd]);  rfl))
        repeat (refine free_passed (fun vs wq hg hd => ?_) ?_; focus ((try simp [Region.binds] at hd); (first | (simp [Region.wanted, yieldR]; (repeat (conv in rho _ _ _ _ (Operand.tmp _) => whnf)); simp [hd]; done) | (simp [Region.wanted, yieldR]; (repeat (conv in rho _ _ _ _ (Operand.tmp _) => whnf)); simp [hd, undef]; done) | (simp [Region.wanted, yieldR]; (repeat (conv in rho _ _ _ _ (Operand.tmp _) => whnf)); (try simp [hd]); simp [*]))))
        repeat (first | (apply free_pure rfl; focus (intro vs w hg hd;  (try simp [Region.binds] at hd); simp only [execOp, resolve, Option.map_some, Option.map_none, List.map_toArray, List.map_cons, List.map_nil, rho_const, rho_func]; (repeat (conv in rho _ _ _ _ (Operand.tmp _) => whnf)); (try simp only [hd]); go_simp; (repeat (conv in rho _ _ _ _ (Operand.tmp _) => whnf)); (try simp only [hd]);  rfl)) | (apply free_gpure; (focus (intro vs w hg hd; (try simp [Region.binds] at hd); (first | (simp [Region.wanted, yieldR]; (repeat (conv in rho _ _ _ _ (Operand.tmp _) => whnf)); simp [hd]; done) | (simp [Region.wanted, yieldR]; (repeat (conv in rho _ _ _ _ (Operand.tmp _) => whnf)); simp [hd, undef]; done) | (simp [Region.wanted, yieldR]; (repeat (conv in rho _ _ _ _ (Operand.tmp _) => whnf)); (try simp [hd]); simp [*])))); focus (intro vs w hg hd;  (try simp [Region.binds] at hd); simp only [execOp, resolve, Option.map_some, Option.map_none, List.map_toArray, List.map_cons, List.map_nil, rho_const, rho_func]; (repeat (conv in rho _ _ _ _ (Operand.tmp _) => whnf)); (try simp only [hd]); go_simp; (repeat (conv in rho _ _ _ _ (Operand.tmp _) => whnf)); (try simp only [hd]);  rfl)))
        intro vs w' hg hv; have h24 := hv 24 (by omega); simp at h24; simp only [putL, dstAt, List.range, List.range.loop, if_true, List.getElem?_toArray, List.getElem?_cons_zero, List.getElem?_cons_succ, Option.bind_some, Act.put, List.setIfInBounds_toArray, List.set_cons_zero, List.set_cons_succ]
        rw [h24]
        have hgW := Lib.hid (G1.out.trans (Grows.of_drew hg))
        clear hv h24 hg
        generalize vs 0 = z0, vs 1 = z1, vs 2 = z2, vs 3 = z3, vs 4 = z4, vs 5 = z5, vs 6 = z6, vs 7 = z7, vs 8 = z8, vs 9 = z9, vs 10 = z10, vs 11 = z11, vs 12 = z12, vs 13 = z13, vs 14 = z14, vs 15 = z15, vs 16 = z16, vs 17 = z17, vs 18 = z18, vs 19 = z19, vs 20 = z20, vs 21 = z21, vs 22 = z22, vs 23 = z23, vs 24 = z24 at *
        go_wp2
        go_ret
        exact ⟨by rw [HNo.out (HA.out (by trivial))]; rfl, hgW.out⟩
      by_cases hz : k = 0
      · subst hz
        go_wp2_with (first
          | ((with_reducible refine wpList_load_kid (op := ⟨some 27, _, _, _, _, _⟩) ?_ (.tmp 26) ?_ g1 (o1 + 0 * 6) r ?_ ?_ ?_); exact rfl; exact rfl; exact rfl; exact HC.out)
          | ((with_reducible refine wpList_store_kid ?_ (.tmp 4) (.tmp 27) ?_ wr.heap.size r #[.slice none 0 0, .int .u8 0, .int .u16 0, .int .u16 0, .int .u32 0, .int .u64 0] ?_ ?_ ?_ ?_ ?_); exact rfl; exact rfl; exact rfl; exact rfl; exact rfl; exact HZ.out; intro w1 hp hg; have P1 := Lib.hid (kdA_row hp); have G1 := Lib.hid (HB.out.trans (grown_fresh (W := wr) (W' := w1) rfl hg)); clear hp hg))
        have PP := Lib.hid (kd_at P1.out).2.2.2
        rw [Nat.zero_add] at PP
        have k0 := (Below.cell G1.out (p := ⟨g1, o1 + 1, none⟩) HG1.out).trans Z1.out
        refine wp_region_free 25 54 (by kernel_rfl) (by kernel_rfl) rfl (by kernel_rfl) ?_; simp only [List.take_succ_cons, List.take_zero, List.drop_succ_cons, List.drop_zero]
        repeat (apply free_pure rfl; focus (intro vs w hg hd;  (try simp [Region.binds] at hd); simp only [execOp, resolve, Option.map_some, Option.map_none, List.map_toArray, List.map_cons, List.map_nil, rho_const, rho_func]; (repeat (conv in rho _ _ _ _ (Operand.tmp _) => whnf)); (try simp only [hd]); go_simp; (repeat (conv in rho _ _ _ _ (Operand.tmp _) => whnf)); (try simp only [hd]);  rfl))
        refine free_op (fun v_ _ => v_ = .agg (ptA r.ptr)) rfl (dk_mono _) (fun vs wq hg hd => by
          (try simp [Region.binds] at hd)
          refine dk_load 45 (.tmp 28) ⟨wr.heap.size, 1, none⟩ _ rfl ?_ (pt_run_loadK (range_grows PP.out (Grows.of_drew hg))) ⟨Grows.refl _, rfl⟩
          (conv in rho _ _ _ _ (Operand.tmp _) => whnf)
          simp [hd]) ?_
        repeat (apply free_pure rfl; focus (intro vs w hg hd; have q0 := hg.cell k0; (try simp [Region.binds] at hd); simp only [execOp, resolve, Option.map_some, Option.map_none, List.map_toArray, List.map_cons, List.map_nil, rho_const, rho_func]; (repeat (conv in rho _ _ _ _ (Operand.tmp _) => whnf)); (try simp only [hd]); go_simp; (repeat (conv in rho _ _ _ _ (Operand.tmp _) => whnf)); (try simp only [hd]);  rfl))
        refine free_op (fun v_ _ => v_ = .bool true) rfl (dk_mono _) (fun vs wq hg hd => by
          (try simp [Region.binds] at hd); simp only [Does]; simp only [execOp, resolve, Option.map_some, Option.map_none, List.map_toArray, List.map_cons, List.map_nil, rho_const, rho_func]; (repeat (conv in rho _ _ _ _ (Operand.tmp _) => whnf)); (try simp only [hd]); go_simp; (repeat (conv in rho _ _ _ _ (Operand.tmp _) => whnf))
          exact HPR.out _) ?_
        repeat (apply free_pure rfl; focus (intro vs w hg hd;  (try simp [Region.binds] at hd); simp only [execOp, resolve, Option.map_some, Option.map_none, List.map_toArray, List.map_cons, List.map_nil, rho_const, rho_func]; (repeat (conv in rho _ _ _ _ (Operand.tmp _) => whnf)); (try simp only [hd]); go_simp; (repeat (conv in rho _ _ _ _ (Operand.tmp _) => whnf)); (try simp only [hd]);  rfl))
        repeat (first | (apply free_pure rfl; focus (intro vs w hg hd;  (try simp [Region.binds] at hd); simp only [execOp, resolve, Option.map_some, Option.map_none, List.map_toArray, List.map_cons, List.map_nil, rho_const, rho_func]; (repeat (conv in rho _ _ _ _ (Operand.tmp _) => whnf)); (try simp only [hd]); go_simp; (repeat (conv in rho _ _ _ _ (Operand.tmp _) => whnf)); (try simp only [hd]);  rfl)) | (apply free_gpure; (focus (intro vs w hg hd; (try simp [Region.binds] at hd); (first | (simp [Region.wanted, yieldR]; (repeat (conv in rho _ _ _ _ (Operand.tmp _) => whnf)); simp [hd]; done) | (simp [Region.wanted, yieldR]; (repeat (conv in rho _ _ _ _ (Operand.tmp _) => whnf)); simp [hd, undef]; done) | (simp [Region.wanted, yieldR]; (repeat (conv in rho _ _ _ _ (Operand.tmp _) => whnf)); (try simp [hd]); simp [*])))); focus (intro vs w hg hd;  (try simp [Region.binds] at hd); simp only [execOp, resolve, Option.map_some, Option.map_none, List.map_toArray, List.map_cons, List.map_nil, rho_const, rho_func]; (repeat (conv in rho _ _ _ _ (Operand.tmp _) => whnf)); (try simp only [hd]); go_simp; (repeat (conv in rho _ _ _ _ (Operand.tmp _) => whnf)); (try simp only [hd]);  rfl)))
        repeat (refine free_passed (fun vs wq hg hd => ?_) ?_; focus ((try simp [Region.binds] at hd); (first | (simp [Region.wanted, yieldR]; (repeat (conv in rho _ _ _ _ (Operand.tmp _) => whnf)); simp [hd]; done) | (simp [Region.wanted, yieldR]; (repeat (conv in rho _ _ _ _ (Operand.tmp _) => whnf)); simp [hd, undef]; done) | (simp [Region.wanted, yieldR]; (repeat (conv in rho _ _ _ _ (Operand.tmp _) => whnf)); (try simp [hd]); simp [*]))))
        repeat (first | (apply free_pure rfl; focus (intro vs w hg hd;  (try simp [Region.binds] at hd); simp only [execOp, resolve, Option.map_some, Option.map_none, List.map_toArray, List.map_cons, List.map_nil, rho_const, rho_func]; (repeat (conv in rho _ _ _ _ (Operand.tmp _) => whnf)); (try simp only [hd]); go_simp; (repeat (conv in rho _ _ _ _ (Operand.tmp _) => whnf)); (try simp only [hd]);  rfl)) | (apply free_gpure; (focus (intro vs w hg hd; (try simp [Region.binds] at hd); (first | (simp [Region.wanted, yieldR]; (repeat (conv in rho _ _ _ _ (Operand.tmp _) => whnf)); simp [hd]; done) | (simp [Region.wanted, yieldR]; (repeat (conv in rho _ _ _ _ (Operand.tmp _) => whnf)); simp [hd, undef]; done) | (simp [Region.wanted, yieldR]; (repeat (conv in rho _ _ _ _ (Operand.tmp _) => whnf)); (try simp [hd]); simp [*])))); focus (intro vs w hg hd;  (try simp [Region.binds] at hd); simp only [execOp, resolve, Option.map_some, Option.map_none, List.map_toArray, List.map_cons, List.map_nil, rho_const, rho_func]; (repeat (conv in rho _ _ _ _ (Operand.tmp _) => whnf)); (try simp only [hd]); go_simp; (repeat (conv in rho _ _ _ _ (Operand.tmp _) => whnf)); (try simp only [hd]);  rfl)))
        intro vs w' hg hv; have h24 := hv 24 (by omega); simp at h24; simp only [putL, dstAt, List.range, List.range.loop, if_true, List.getElem?_toArray, List.getElem?_cons_zero, List.getElem?_cons_succ, Option.bind_some, Act.put, List.setIfInBounds_toArray, List.set_cons_zero, List.set_cons_succ]
        rw [h24]
        have hgW := Lib.hid (G1.out.trans (Grows.of_drew hg))
        clear hv h24 hg
        generalize vs 0 = z0, vs 1 = z1, vs 2 = z2, vs 3 = z3, vs 4 = z4, vs 5 = z5, vs 6 = z6, vs 7 = z7, vs 8 = z8, vs 9 = z9, vs 10 = z10, vs 11 = z11, vs 12 = z12, vs 13 = z13, vs 14 = z14, vs 15 = z15, vs 16 = z16, vs 17 = z17, vs 18 = z18, vs 19 = z19, vs 20 = z20, vs 21 = z21, vs 22 = z22, vs 23 = z23, vs 24 = z24 at *
        go_wp2
        go_roundw
        case rel => exact ⟨0 + 1, by omega, by go_num, HYes.out (by first | exact HOZ.out trivial | exact HOZ.out (by trivial) | exact HOZ.out), hgW.out⟩
        case measure => simp [intOf]; omega
      · obtain ⟨m, hm⟩ : ∃ m, m + 1 = k := ⟨k - 1, by omega⟩
        have e2 : l[m]? = some (l[m]'(by omega)) := List.getElem?_eq_getElem (by omega)
        obtain ⟨r2, hr2, hc2⟩ := HCA.out m _ e2
        have HC2 := Lib.hid (fun W (h : Grows w W) => (kd_at (rangeAt_keep hc2 (fun a ha => Below.cell h (by have := HG1.out; omega)))).1)
        have hos := BrM.okAt_succ (l := l) (k := m) (x := l[k]) (y := l[m]'(by omega)) (by rw [hm]; exact e1) e2
        rw [hm, htt, Bool.true_and, BrM.keyOk_eq] at hos
        have u1 : IntKind.i64.wrap ((k : Int) - 1) = m := by rw [IntWalk.i64_in _ (by omega)]; omega
        have u2 : (0 : Int) < k := by omega
        have u3 : (m : Int) < l.length := by omega
        have u4 : decide ((0 : Int) < k) = true := decide_eq_true u2
        have u5 : decide (0 < k) = true := decide_eq_true (by omega)
        have HRi := Lib.hid (fun W (h : Grows w W) => rises_any (.slice r2.ka r2.kn r2.kc) (.slice r.ka r.kn r.kc) _ _ W (hr2.1.below h |>.more h.size) (HKr.out.below h |>.more h.size))
        rw [← hos] at HRi
        clear hos hc2 hr2 hr e1 e2 hm hz
        generalize BrM.okAt l k = tk at *
        cases tk
        · go_wp2_with (first
            | ((with_reducible refine wpList_load_kid (op := ⟨some 27, _, _, _, _, _⟩) ?_ (.tmp 26) ?_ g1 (o1 + k * 6) r ?_ ?_ ?_); exact rfl; exact rfl; exact rfl; exact HC.out)
            | ((with_reducible refine wpList_store_kid ?_ (.tmp 4) (.tmp 27) ?_ wr.heap.size r #[.slice none 0 0, .int .u8 0, .int .u16 0, .int .u16 0, .int .u32 0, .int .u64 0] ?_ ?_ ?_ ?_ ?_); exact rfl; exact rfl; exact rfl; exact rfl; exact rfl; exact HZ.out; intro w1 hp hg; have P1 := Lib.hid (kdA_row hp); have G1 := Lib.hid (HB.out.trans (grown_fresh (W := wr) (W' := w1) rfl hg)); clear hp hg))
          have PP := Lib.hid (kd_at P1.out).2.2.2
          rw [Nat.zero_add] at PP
          have k0 := (Below.cell G1.out (p := ⟨g1, o1 + 1, none⟩) HG1.out).trans Z1.out
          have hy0 := HC2.out _ G1.out
          have x0 := (kd_at P1.out).1
          refine wp_region_free 25 54 (by kernel_rfl) (by kernel_rfl) rfl (by kernel_rfl) ?_; simp only [List.take_succ_cons, List.take_zero, List.drop_succ_cons, List.drop_zero]
          repeat (apply free_pure rfl; focus (intro vs w hg hd;  (try simp [Region.binds] at hd); simp only [execOp, resolve, Option.map_some, Option.map_none, List.map_toArray, List.map_cons, List.map_nil, rho_const, rho_func]; (repeat (conv in rho _ _ _ _ (Operand.tmp _) => whnf)); (try simp only [hd]); go_simp; (repeat (conv in rho _ _ _ _ (Operand.tmp _) => whnf)); (try simp only [hd]);  rfl))
          refine free_op (fun v_ _ => v_ = .agg (ptA r.ptr)) rfl (dk_mono _) (fun vs wq hg hd => by
            (try simp [Region.binds] at hd)
            refine dk_load 45 (.tmp 28) ⟨wr.heap.size, 1, none⟩ _ rfl ?_ (pt_run_loadK (range_grows PP.out (Grows.of_drew hg))) ⟨Grows.refl _, rfl⟩
            (conv in rho _ _ _ _ (Operand.tmp _) => whnf)
            simp [hd]) ?_
          repeat (apply free_pure rfl; focus (intro vs w hg hd; have q0 := hg.cell k0; (try simp [Region.binds] at hd); simp only [execOp, resolve, Option.map_some, Option.map_none, List.map_toArray, List.map_cons, List.map_nil, rho_const, rho_func]; (repeat (conv in rho _ _ _ _ (Operand.tmp _) => whnf)); (try simp only [hd]); go_simp; (repeat (conv in rho _ _ _ _ (Operand.tmp _) => whnf)); (try simp only [hd]);  rfl))
          refine free_op (fun v_ _ => v_ = .bool true) rfl (dk_mono _) (fun vs wq hg hd => by
            (try simp [Region.binds] at hd); simp only [Does]; simp only [execOp, resolve, Option.map_some, Option.map_none, List.map_toArray, List.map_cons, List.map_nil, rho_const, rho_func]; (repeat (conv in rho _ _ _ _ (Operand.tmp _) => whnf)); (try simp only [hd]); go_simp; (repeat (conv in rho _ _ _ _ (Operand.tmp _) => whnf))
            exact HPR.out _) ?_
          repeat (apply free_pure rfl; focus (intro vs w hg hd;  (try simp [Region.binds] at hd); simp only [execOp, resolve, Option.map_some, Option.map_none, List.map_toArray, List.map_cons, List.map_nil, rho_const, rho_func]; (repeat (conv in rho _ _ _ _ (Operand.tmp _) => whnf)); (try simp only [hd]); go_simp; (repeat (conv in rho _ _ _ _ (Operand.tmp _) => whnf)); (try simp only [hd]);  rfl))
          repeat (first | (apply free_pure rfl; focus (intro vs w hg hd; have q0 := hg.cell hy0; have q1 := hg.cell x0; (try simp [Region.binds] at hd); simp only [execOp, resolve, Option.map_some, Option.map_none, List.map_toArray, List.map_cons, List.map_nil, rho_const, rho_func]; (repeat (conv in rho _ _ _ _ (Operand.tmp _) => whnf)); (try simp only [hd]); go_simp; (repeat (conv in rho _ _ _ _ (Operand.tmp _) => whnf)); (try simp only [hd]); (try simp only [u4, u5, u1]); rfl)) | (apply free_gpure; (focus (intro vs w hg hd; (try simp [Region.binds] at hd); (first | (simp [Region.wanted, yieldR]; (repeat (conv in rho _ _ _ _ (Operand.tmp _) => whnf)); simp [hd]; done) | (simp [Region.wanted, yieldR]; (repeat (conv in rho _ _ _ _ (Operand.tmp _) => whnf)); simp [hd, undef]; done) | (simp [Region.wanted, yieldR]; (repeat (conv in rho _ _ _ _ (Operand.tmp _) => whnf)); (try simp [hd]); simp [*])))); focus (intro vs w hg hd; have q0 := hg.cell hy0; have q1 := hg.cell x0; (try simp [Region.binds] at hd); simp only [execOp, resolve, Option.map_some, Option.map_none, List.map_toArray, List.map_cons, List.map_nil, rho_const, rho_func]; (repeat (conv in rho _ _ _ _ (Operand.tmp _) => whnf)); (try simp only [hd]); go_simp; (repeat (conv in rho _ _ _ _ (Operand.tmp _) => whnf)); (try simp only [hd]); (try simp only [u4, u5, u1]); rfl)))
          refine free_guarded (fun v_ _ => v_ = .bool false) (dk_mono _) (fun vs wq hg hd => by
            (try simp [Region.binds] at hd)
            refine ⟨?_, ?_⟩
            · (first | (simp [Region.wanted, yieldR]; (repeat (conv in rho _ _ _ _ (Operand.tmp _) => whnf)); simp [hd]; done) | (simp [Region.wanted, yieldR]; (repeat (conv in rho _ _ _ _ (Operand.tmp _) => whnf)); simp [hd, undef]; done) | (simp [Region.wanted, yieldR]; (repeat (conv in rho _ _ _ _ (Operand.tmp _) => whnf)); (try simp [hd]); simp [*]))
            · have hbc := HRi.out wq (G1.out.trans (Grows.of_drew hg))
              (try simp [Region.binds] at hd); simp only [Does]; simp only [execOp, resolve, Option.map_some, Option.map_none, List.map_toArray, List.map_cons, List.map_nil, rho_const, rho_func]; (repeat (conv in rho _ _ _ _ (Operand.tmp _) => whnf)); (try simp only [hd]); go_simp; (repeat (conv in rho _ _ _ _ (Operand.tmp _) => whnf))
              all_goals exact hbc) ?_
          repeat (first | (apply free_pure rfl; focus (intro vs w hg hd;  (try simp [Region.binds] at hd); simp only [execOp, resolve, Option.map_some, Option.map_none, List.map_toArray, List.map_cons, List.map_nil, rho_const, rho_func]; (repeat (conv in rho _ _ _ _ (Operand.tmp _) => whnf)); (try simp only [hd]); go_simp; (repeat (conv in rho _ _ _ _ (Operand.tmp _) => whnf)); (try simp only [hd]);  rfl)) | (apply free_gpure; (focus (intro vs w hg hd; (try simp [Region.binds] at hd); (first | (simp [Region.wanted, yieldR]; (repeat (conv in rho _ _ _ _ (Operand.tmp _) => whnf)); simp [hd]; done) | (simp [Region.wanted, yieldR]; (repeat (conv in rho _ _ _ _ (Operand.tmp _) => whnf)); simp [hd, undef]; done) | (simp [Region.wanted, yieldR]; (repeat (conv in rho _ _ _ _ (Operand.tmp _) => whnf)); (try simp [hd]); simp [*])))); focus (intro vs w hg hd;  (try simp [Region.binds] at hd); simp only [execOp, resolve, Option.map_some, Option.map_none, List.map_toArray, List.map_cons, List.map_nil, rho_const, rho_func]; (repeat (conv in rho _ _ _ _ (Operand.tmp _) => whnf)); (try simp only [hd]); go_simp; (repeat (conv in rho _ _ _ _ (Operand.tmp _) => whnf)); (try simp only [hd]);  rfl)))
          intro vs w' hg hv; have h24 := hv 24 (by omega); simp at h24; simp only [putL, dstAt, List.range, List.range.loop, if_true, List.getElem?_toArray, List.getElem?_cons_zero, List.getElem?_cons_succ, Option.bind_some, Act.put, List.setIfInBounds_toArray, List.set_cons_zero, List.set_cons_succ]
          rw [h24]
          have hgW := Lib.hid (G1.out.trans (Grows.of_drew hg))
          clear hv h24 hg
          generalize vs 0 = z0, vs 1 = z1, vs 2 = z2, vs 3 = z3, vs 4 = z4, vs 5 = z5, vs 6 = z6, vs 7 = z7, vs 8 = z8, vs 9 = z9, vs 10 = z10, vs 11 = z11, vs 12 = z12, vs 13 = z13, vs 14 = z14, vs 15 = z15, vs 16 = z16, vs 17 = z17, vs 18 = z18, vs 19 = z19, vs 20 = z20, vs 21 = z21, vs 22 = z22, vs 23 = z23, vs 24 = z24 at *
          go_wp2
          go_ret
          exact ⟨by rw [HNo.out (by trivial)]; rfl, hgW.out⟩
        · go_wp2_with (first
            | ((with_reducible refine wpList_load_kid (op := ⟨some 27, _, _, _, _, _⟩) ?_ (.tmp 26) ?_ g1 (o1 + k * 6) r ?_ ?_ ?_); exact rfl; exact rfl; exact rfl; exact HC.out)
            | ((with_reducible refine wpList_store_kid ?_ (.tmp 4) (.tmp 27) ?_ wr.heap.size r #[.slice none 0 0, .int .u8 0, .int .u16 0, .int .u16 0, .int .u32 0, .int .u64 0] ?_ ?_ ?_ ?_ ?_); exact rfl; exact rfl; exact rfl; exact rfl; exact rfl; exact HZ.out; intro w1 hp hg; have P1 := Lib.hid (kdA_row hp); have G1 := Lib.hid (HB.out.trans (grown_fresh (W := wr) (W' := w1) rfl hg)); clear hp hg))
          have PP := Lib.hid (kd_at P1.out).2.2.2
          rw [Nat.zero_add] at PP
          have k0 := (Below.cell G1.out (p := ⟨g1, o1 + 1, none⟩) HG1.out).trans Z1.out
          have hy0 := HC2.out _ G1.out
          have x0 := (kd_at P1.out).1
          refine wp_region_free 25 54 (by kernel_rfl) (by kernel_rfl) rfl (by kernel_rfl) ?_; simp only [List.take_succ_cons, List.take_zero, List.drop_succ_cons, List.drop_zero]
          repeat (apply free_pure rfl; focus (intro vs w hg hd;  (try simp [Region.binds] at hd); simp only [execOp, resolve, Option.map_some, Option.map_none, List.map_toArray, List.map_cons, List.map_nil, rho_const, rho_func]; (repeat (conv in rho _ _ _ _ (Operand.tmp _) => whnf)); (try simp only [hd]); go_simp; (repeat (conv in rho _ _ _ _ (Operand.tmp _) => whnf)); (try simp only [hd]);  rfl))
          refine free_op (fun v_ _ => v_ = .agg (ptA r.ptr)) rfl (dk_mono _) (fun vs wq hg hd => by
            (try simp [Region.binds] at hd)
            refine dk_load 45 (.tmp 28) ⟨wr.heap.size, 1, none⟩ _ rfl ?_ (pt_run_loadK (range_grows PP.out (Grows.of_drew hg))) ⟨Grows.refl _, rfl⟩
            (conv in rho _ _ _ _ (Operand.tmp _) => whnf)
            simp [hd]) ?_
          repeat (apply free_pure rfl; focus (intro vs w hg hd; have q0 := hg.cell k0; (try simp [Region.binds] at hd); simp only [execOp, resolve, Option.map_some, Option.map_none, List.map_toArray, List.map_cons, List.map_nil, rho_const, rho_func]; (repeat (conv in rho _ _ _ _ (Operand.tmp _) => whnf)); (try simp only [hd]); go_simp; (repeat (conv in rho _ _ _ _ (Operand.tmp _) => whnf)); (try simp only [hd]);  rfl))
          refine free_op (fun v_ _ => v_ = .bool true) rfl (dk_mono _) (fun vs wq hg hd => by
            (try simp [Region.binds] at hd); simp only [Does]; simp only [execOp, resolve, Option.map_some, Option.map_none, List.map_toArray, List.map_cons, List.map_nil, rho_const, rho_func]; (repeat (conv in rho _ _ _ _ (Operand.tmp _) => whnf)); (try simp only [hd]); go_simp; (repeat (conv in rho _ _ _ _ (Operand.tmp _) => whnf))
            exact HPR.out _) ?_
          repeat (apply free_pure rfl; focus (intro vs w hg hd;  (try simp [Region.binds] at hd); simp only [execOp, resolve, Option.map_some, Option.map_none, List.map_toArray, List.map_cons, List.map_nil, rho_const, rho_func]; (repeat (conv in rho _ _ _ _ (Operand.tmp _) => whnf)); (try simp only [hd]); go_simp; (repeat (conv in rho _ _ _ _ (Operand.tmp _) => whnf)); (try simp only [hd]);  rfl))
          repeat (first | (apply free_pure rfl; focus (intro vs w hg hd; have q0 := hg.cell hy0; have q1 := hg.cell x0; (try simp [Region.binds] at hd); simp only [execOp, resolve, Option.map_some, Option.map_none, List.map_toArray, List.map_cons, List.map_nil, rho_const, rho_func]; (repeat (conv in rho _ _ _ _ (Operand.tmp _) => whnf)); (try simp only [hd]); go_simp; (repeat (conv in rho _ _ _ _ (Operand.tmp _) => whnf)); (try simp only [hd]); (try simp only [u4, u5, u1]); rfl)) | (apply free_gpure; (focus (intro vs w hg hd; (try simp [Region.binds] at hd); (first | (simp [Region.wanted, yieldR]; (repeat (conv in rho _ _ _ _ (Operand.tmp _) => whnf)); simp [hd]; done) | (simp [Region.wanted, yieldR]; (repeat (conv in rho _ _ _ _ (Operand.tmp _) => whnf)); simp [hd, undef]; done) | (simp [Region.wanted, yieldR]; (repeat (conv in rho _ _ _ _ (Operand.tmp _) => whnf)); (try simp [hd]); simp [*])))); focus (intro vs w hg hd; have q0 := hg.cell hy0; have q1 := hg.cell x0; (try simp [Region.binds] at hd); simp only [execOp, resolve, Option.map_some, Option.map_none, List.map_toArray, List.map_cons, List.map_nil, rho_const, rho_func]; (repeat (conv in rho _ _ _ _ (Operand.tmp _) => whnf)); (try simp only [hd]); go_simp; (repeat (conv in rho _ _ _ _ (Operand.tmp _) => whnf)); (try simp only [hd]); (try simp only [u4, u5, u1]); rfl)))
          refine free_guarded (fun v_ _ => v_ = .bool true) (dk_mono _) (fun vs wq hg hd => by
            (try simp [Region.binds] at hd)
            refine ⟨?_, ?_⟩
            · (first | (simp [Region.wanted, yieldR]; (repeat (conv in rho _ _ _ _ (Operand.tmp _) => whnf)); simp [hd]; done) | (simp [Region.wanted, yieldR]; (repeat (conv in rho _ _ _ _ (Operand.tmp _) => whnf)); simp [hd, undef]; done) | (simp [Region.wanted, yieldR]; (repeat (conv in rho _ _ _ _ (Operand.tmp _) => whnf)); (try simp [hd]); simp [*]))
            · have hbc := HRi.out wq (G1.out.trans (Grows.of_drew hg))
              (try simp [Region.binds] at hd); simp only [Does]; simp only [execOp, resolve, Option.map_some, Option.map_none, List.map_toArray, List.map_cons, List.map_nil, rho_const, rho_func]; (repeat (conv in rho _ _ _ _ (Operand.tmp _) => whnf)); (try simp only [hd]); go_simp; (repeat (conv in rho _ _ _ _ (Operand.tmp _) => whnf))
              all_goals exact hbc) ?_
          repeat (first | (apply free_pure rfl; focus (intro vs w hg hd;  (try simp [Region.binds] at hd); simp only [execOp, resolve, Option.map_some, Option.map_none, List.map_toArray, List.map_cons, List.map_nil, rho_const, rho_func]; (repeat (conv in rho _ _ _ _ (Operand.tmp _) => whnf)); (try simp only [hd]); go_simp; (repeat (conv in rho _ _ _ _ (Operand.tmp _) => whnf)); (try simp only [hd]);  rfl)) | (apply free_gpure; (focus (intro vs w hg hd; (try simp [Region.binds] at hd); (first | (simp [Region.wanted, yieldR]; (repeat (conv in rho _ _ _ _ (Operand.tmp _) => whnf)); simp [hd]; done) | (simp [Region.wanted, yieldR]; (repeat (conv in rho _ _ _ _ (Operand.tmp _) => whnf)); simp [hd, undef]; done) | (simp [Region.wanted, yieldR]; (repeat (conv in rho _ _ _ _ (Operand.tmp _) => whnf)); (try simp [hd]); simp [*])))); focus (intro vs w hg hd;  (try simp [Region.binds] at hd); simp only [execOp, resolve, Option.map_some, Option.map_none, List.map_toArray, List.map_cons, List.map_nil, rho_const, rho_func]; (repeat (conv in rho _ _ _ _ (Operand.tmp _) => whnf)); (try simp only [hd]); go_simp; (repeat (conv in rho _ _ _ _ (Operand.tmp _) => whnf)); (try simp only [hd]);  rfl)))
          intro vs w' hg hv; have h24 := hv 24 (by omega); simp at h24; simp only [putL, dstAt, List.range, List.range.loop, if_true, List.getElem?_toArray, List.getElem?_cons_zero, List.getElem?_cons_succ, Option.bind_some, Act.put, List.setIfInBounds_toArray, List.set_cons_zero, List.set_cons_succ]
          rw [h24]
          have hgW := Lib.hid (G1.out.trans (Grows.of_drew hg))
          clear hv h24 hg
          generalize vs 0 = z0, vs 1 = z1, vs 2 = z2, vs 3 = z3, vs 4 = z4, vs 5 = z5, vs 6 = z6, vs 7 = z7, vs 8 = z8, vs 9 = z9, vs 10 = z10, vs 11 = z11, vs 12 = z12, vs 13 = z13, vs 14 = z14, vs 15 = z15, vs 16 = z16, vs 17 = z17, vs 18 = z18, vs 19 = z19, vs 20 = z20, vs 21 = z21, vs 22 = z22, vs 23 = z23, vs 24 = z24 at *
          go_wp2
          go_roundw
          case rel => exact ⟨k + 1, by omega, by go_num, HYes.out (by trivial), hgW.out⟩
          case measure => simp [intOf]; omega
    · obtain rfl : k = l.length := by omega
      have HE : Hid (BrM.right l = true) := BrM.right_end (by omega) (by omega) HHd.out HGr.out
      go_wp2
      go_ret
      exact ⟨by rw [HE.out]; rfl, HB.out⟩
end Go.Proofs.YtjcommodiihcdaaDoor
