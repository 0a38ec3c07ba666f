/- BrSame BrOwn BrKid BrSameO BrOwnO -/
import Derived.Test.YtjcommodiihcdaaDoorBrA
import Derived.Test.YtjcommodiihcdaaDoorBaseA
import Derived.Test.YtjcommodiihcdaaDoorStr
import Derived.Test.YtjcommodiihcdaaDoorVdA
import Derived.Test.YtjcommodiihcdaaDoorApp
import Derived.Test.YtjcommodiihcdaaDoorPtA
import Derived.Test.YtjcommodiihcdaaDoorBrC
import Derived.Test.YtjcommodiihcdaaDoorLfB
import Derived.Test.YtjcommodiihcdaaDoorPackSmall
import Derived.Lib.ConvBytes
/- The document's Same for layer 7: are two rows of kids the same? -/
namespace Go.Proofs.YtjcommodiihcdaaDoor
open Go.RowKit
set_option linter.unusedVariables false
set_option linter.unusedSimpArgs false
theorem kds_step {a b : List Kd} {k : Nat} (h : a.take k = b.take k) {x y : Kd} (ha : a[k]? = some x) (hb : b[k]? = some y) (e1 : x.key = y.key) (e2 : x.ptr = y.ptr) : a.take (k + 1) = b.take (k + 1) := by
  obtain rfl : x = y := (Kd.eq_iff _ _).1 ⟨e1, e2⟩
  rw [List.take_add_one, List.take_add_one, h, ha, hb]
theorem kds_ne {a b : List Kd} {k : Nat} {x y : Kd} (ha : a[k]? = some x) (hb : b[k]? = some y) (h : x ≠ y) : decide (a = b) = false := by
  refine decide_eq_false fun e => h ?_
  subst e
  rw [ha] at hb
  exact Option.some.inj hb
theorem kstr_ne {a b : List (BitVec 8)} (h : a ≠ b) : ((str a).toList == (str b).toList) = false := by
  rw [str_beq_toList]; simpa using h
theorem kstr_eq {a b : List (BitVec 8)} (h : a = b) : ((str a).toList == (str b).toList) = true := by
  rw [str_beq_toList]; simpa using h
set_option maxRecDepth 20000 in
set_option maxHeartbeats 8000000 in
theorem rsame7_any (u v : Value) (a b : List Kd) (w : World) (hu : Kds w.heap.size w u a) (hv : Kds w.heap.size w v b) :
    Calls Tryd.prog 33 #[u, v] w fun e w' => e = .returned (.bool (decide (a = b))) ∧ Grows w w' := by
  obtain ⟨A, cap, rfl, q1, q2, q3⟩ := hu.form
  obtain ⟨A', cap', rfl, q1', q2', q3'⟩ := hv.form
  have HQ := Lib.hid q3; have HQ' := Lib.hid q3'
  clear q3 q3' hu hv
  unfold maxLen at q2 q2'
  by_cases h1 : a.length = b.length
  case neg =>
    have h1' : ¬ (a.length : Int) = b.length := by omega
    have hne : Hid (decide (a = b) = false) := decide_eq_false (by rintro rfl; exact h1 rfl)
    go_enter Tryd.func33, Tryd.ntmps33
    go_wp2
    go_ret
    exact ⟨by rw [hne.out]; rfl, Grows.refl _⟩
  have h1' : (a.length : Int) = b.length := by omega
  go_enter Tryd.func33, Tryd.ntmps33
  go_wp2
  go_loopw [5] (fun i wr => ∃ k : Nat, k ≤ a.length ∧ i = .int .i64 k ∧ a.take k = b.take k ∧ Grows w wr) (fun i _ => a.length - (intOf i).toNat)
  case atStart => exact ⟨0, Nat.zero_le _, rfl, rfl, Grows.refl _⟩
  case round =>
    obtain ⟨k, hk, rfl, hg, hb⟩ := hrel
    have HT := Lib.hid hg; have HB := Lib.hid hb
    clear hg hb
    by_cases hlt : k < a.length
    · obtain ⟨g1, o1, rfl, hg1, hcA⟩ := HQ.out (by omega)
      obtain ⟨g2, o2, rfl, hg2, hcB⟩ := HQ'.out (by omega)
      have e1 : a[k]? = some a[k] := List.getElem?_eq_getElem hlt
      have e2 : b[k]? = some (b[k]'(by omega)) := List.getElem?_eq_getElem (by omega)
      have hltb : (k : Int) < b.length := by omega
      obtain ⟨r, hr, hc⟩ := hcA k _ e1
      obtain ⟨r', hr', hc'⟩ := hcB k _ e2
      have HC := Lib.hid (kd_at (rangeAt_keep hc (fun p hp => Below.cell HB.out (by omega))))
      have HC' := Lib.hid (kd_at (rangeAt_keep hc' (fun p hp => Below.cell HB.out (by omega))))
      have HR := Lib.hid (hr.grows HB.out)
      have HR' := Lib.hid (hr'.grows HB.out)
      have a0 := HC.out.1
      have b0 := HC'.out.1
      have HP := Lib.hid HC.out.2.2.2; have HP' := Lib.hid HC'.out.2.2.2
      have HS := Lib.hid (fun f1 f2 => kds_step HT.out e1 e2 f1 f2)
      have HNe := Lib.hid (fun h => kds_ne e1 e2 h)
      have k3 := HR.out.2
      have k3' := HR'.out.2
      clear e1 e2 hcA hcB hc hc' hr hr' HC HC'
      generalize a[k] = x at *
      generalize b[k]'(by omega) = y at *
      rw [k3] at HP; rw [k3'] at HP'
      have HK := Lib.hid HR.out.1
      have HK' := Lib.hid HR'.out.1
      have e3 : Hid (x.key ≠ y.key → decide (a = b) = false) := fun h => HNe.out (fun e => h (by rw [e]))
      have e5 : Hid (x.ptr ≠ y.ptr → decide (a = b) = false) := fun h => HNe.out (fun e => h (by rw [e]))
      clear k3 k3' HR HR' HNe
      by_cases hkey : x.key = y.key
      case neg =>
        have HF : Hid (decide (a = b) = false) := e3.out hkey
        have sk := kstr_ne hkey
        clear hkey
        go_wp2
        refine wp_region_free 26 43 (by kernel_rfl) (by kernel_rfl) rfl (by kernel_rfl) ?_; simp only [List.take_succ_cons, List.take_zero, List.drop_succ_cons, List.drop_zero]
        repeat (first | (apply free_pure rfl; focus (intro vs w hg hd; have q0 := hg.cell a0; (try simp [Region.binds] at hd); simp only [execOp, resolve, Option.map_some, Option.map_none, List.map_toArray, List.map_cons, List.map_nil, rho_const, rho_func]; (repeat (conv in rho _ _ _ _ (Operand.tmp _) => whnf)); (try simp only [hd]); go_simp; (repeat (conv in rho _ _ _ _ (Operand.tmp _) => whnf)); (try simp only [hd]);  rfl)) | (apply free_gpure; (focus (intro vs w hg hd; (try simp [Region.binds] at hd); (first | (simp [Region.wanted, yieldR]; (repeat (conv in rho _ _ _ _ (Operand.tmp _) => whnf)); simp [hd]; done) | (simp [Region.wanted, yieldR]; (repeat (conv in rho _ _ _ _ (Operand.tmp _) => whnf)); simp [hd, undef]; done) | (simp [Region.wanted, yieldR]; (repeat (conv in rho _ _ _ _ (Operand.tmp _) => whnf)); (try simp [hd]); simp [*])))); focus (intro vs w hg hd; have q0 := hg.cell a0; (try simp [Region.binds] at hd); simp only [execOp, resolve, Option.map_some, Option.map_none, List.map_toArray, List.map_cons, List.map_nil, rho_const, rho_func]; (repeat (conv in rho _ _ _ _ (Operand.tmp _) => whnf)); (try simp only [hd]); go_simp; (repeat (conv in rho _ _ _ _ (Operand.tmp _) => whnf)); (try simp only [hd]);  rfl)))
        refine free_op (fun v_ _ => v_ = .string (str (x.key))) rfl (dk_mono _) (fun vs wq hg hd => by (have e1 := run_str (P := Tryd.prog) (Sl.below HK.out (Grows.of_drew hg)) 40 5 9 Tryd.underlying40 Tryd.underlying5 Tryd.underlying9; (try simp [Region.binds] at hd); simp only [Does]; simp only [execOp, resolve, Option.map_some, Option.map_none, List.map_toArray, List.map_cons, List.map_nil, rho_const, rho_func]; (repeat (conv in rho _ _ _ _ (Operand.tmp _) => whnf)); (try simp only [hd]); go_simp; (repeat (conv in rho _ _ _ _ (Operand.tmp _) => whnf)); exact Grows.refl _)) ?_
        repeat (first | (apply free_pure rfl; focus (intro vs w hg hd; have q0 := hg.cell b0; (try simp [Region.binds] at hd); simp only [execOp, resolve, Option.map_some, Option.map_none, List.map_toArray, List.map_cons, List.map_nil, rho_const, rho_func]; (repeat (conv in rho _ _ _ _ (Operand.tmp _) => whnf)); (try simp only [hd]); go_simp; (repeat (conv in rho _ _ _ _ (Operand.tmp _) => whnf)); (try simp only [hd]);  rfl)) | (apply free_gpure; (focus (intro vs w hg hd; (try simp [Region.binds] at hd); (first | (simp [Region.wanted, yieldR]; (repeat (conv in rho _ _ _ _ (Operand.tmp _) => whnf)); simp [hd]; done) | (simp [Region.wanted, yieldR]; (repeat (conv in rho _ _ _ _ (Operand.tmp _) => whnf)); simp [hd, undef]; done) | (simp [Region.wanted, yieldR]; (repeat (conv in rho _ _ _ _ (Operand.tmp _) => whnf)); (try simp [hd]); simp [*])))); focus (intro vs w hg hd; have q0 := hg.cell b0; (try simp [Region.binds] at hd); simp only [execOp, resolve, Option.map_some, Option.map_none, List.map_toArray, List.map_cons, List.map_nil, rho_const, rho_func]; (repeat (conv in rho _ _ _ _ (Operand.tmp _) => whnf)); (try simp only [hd]); go_simp; (repeat (conv in rho _ _ _ _ (Operand.tmp _) => whnf)); (try simp only [hd]);  rfl)))
        refine free_op (fun v_ _ => v_ = .string (str (y.key))) rfl (dk_mono _) (fun vs wq hg hd => by (have e1 := run_str (P := Tryd.prog) (Sl.below HK'.out (Grows.of_drew hg)) 40 5 9 Tryd.underlying40 Tryd.underlying5 Tryd.underlying9; (try simp [Region.binds] at hd); simp only [Does]; simp only [execOp, resolve, Option.map_some, Option.map_none, List.map_toArray, List.map_cons, List.map_nil, rho_const, rho_func]; (repeat (conv in rho _ _ _ _ (Operand.tmp _) => whnf)); (try simp only [hd]); go_simp; (repeat (conv in rho _ _ _ _ (Operand.tmp _) => whnf)); exact Grows.refl _)) ?_
        repeat (first | (apply free_pure rfl; focus (intro vs w hg hd;  (try simp [Region.binds] at hd); simp only [execOp, resolve, Option.map_some, Option.map_none, List.map_toArray, List.map_cons, List.map_nil, rho_const, rho_func]; (repeat (conv in rho _ _ _ _ (Operand.tmp _) => whnf)); (try simp only [hd]); go_simp; (repeat (conv in rho _ _ _ _ (Operand.tmp _) => whnf)); (try simp only [hd]); (try simp only [sk]); rfl)) | (apply free_gpure; (focus (intro vs w hg hd; (try simp [Region.binds] at hd); (first | (simp [Region.wanted, yieldR]; (repeat (conv in rho _ _ _ _ (Operand.tmp _) => whnf)); simp [hd]; done) | (simp [Region.wanted, yieldR]; (repeat (conv in rho _ _ _ _ (Operand.tmp _) => whnf)); simp [hd, undef]; done) | (simp [Region.wanted, yieldR]; (repeat (conv in rho _ _ _ _ (Operand.tmp _) => whnf)); (try simp [hd]); simp [*])))); focus (intro vs w hg hd;  (try simp [Region.binds] at hd); simp only [execOp, resolve, Option.map_some, Option.map_none, List.map_toArray, List.map_cons, List.map_nil, rho_const, rho_func]; (repeat (conv in rho _ _ _ _ (Operand.tmp _) => whnf)); (try simp only [hd]); go_simp; (repeat (conv in rho _ _ _ _ (Operand.tmp _) => whnf)); (try simp only [hd]); (try simp only [sk]); rfl)))
        repeat (refine free_passed (fun vs wq hg hd => ?_) ?_; focus ((try simp [Region.binds] at hd); (first | (simp [Region.wanted, yieldR]; (repeat (conv in rho _ _ _ _ (Operand.tmp _) => whnf)); simp [hd]; done) | (simp [Region.wanted, yieldR]; (repeat (conv in rho _ _ _ _ (Operand.tmp _) => whnf)); simp [hd, undef]; done) | (simp [Region.wanted, yieldR]; (repeat (conv in rho _ _ _ _ (Operand.tmp _) => whnf)); (try simp [hd]); simp [*]))))
        repeat (first | (apply free_pure rfl; focus (intro vs w hg hd;  (try simp [Region.binds] at hd); simp only [execOp, resolve, Option.map_some, Option.map_none, List.map_toArray, List.map_cons, List.map_nil, rho_const, rho_func]; (repeat (conv in rho _ _ _ _ (Operand.tmp _) => whnf)); (try simp only [hd]); go_simp; (repeat (conv in rho _ _ _ _ (Operand.tmp _) => whnf)); (try simp only [hd]);  rfl)) | (apply free_gpure; (focus (intro vs w hg hd; (try simp [Region.binds] at hd); (first | (simp [Region.wanted, yieldR]; (repeat (conv in rho _ _ _ _ (Operand.tmp _) => whnf)); simp [hd]; done) | (simp [Region.wanted, yieldR]; (repeat (conv in rho _ _ _ _ (Operand.tmp _) => whnf)); simp [hd, undef]; done) | (simp [Region.wanted, yieldR]; (repeat (conv in rho _ _ _ _ (Operand.tmp _) => whnf)); (try simp [hd]); simp [*])))); focus (intro vs w hg hd;  (try simp [Region.binds] at hd); simp only [execOp, resolve, Option.map_some, Option.map_none, List.map_toArray, List.map_cons, List.map_nil, rho_const, rho_func]; (repeat (conv in rho _ _ _ _ (Operand.tmp _) => whnf)); (try simp only [hd]); go_simp; (repeat (conv in rho _ _ _ _ (Operand.tmp _) => whnf)); (try simp only [hd]);  rfl)))
        intro vs w' hg hv; have h25 := hv 25 (by omega); simp at h25; simp only [putL, dstAt, List.range, List.range.loop, if_true, List.getElem?_toArray, List.getElem?_cons_zero, List.getElem?_cons_succ, Option.bind_some, Act.put, List.setIfInBounds_toArray, List.set_cons_zero, List.set_cons_succ]
        rw [h25]
        have hgW := Lib.hid (HB.out.trans (Grows.of_drew hg))
        clear hv h25 hg
        generalize vs 0 = z0, vs 1 = z1, vs 2 = z2, vs 3 = z3, vs 4 = z4, vs 5 = z5, vs 6 = z6, vs 7 = z7, vs 8 = z8, vs 9 = z9, vs 10 = z10, vs 11 = z11, vs 12 = z12, vs 13 = z13, vs 14 = z14, vs 15 = z15, vs 16 = z16, vs 17 = z17, vs 18 = z18, vs 19 = z19, vs 20 = z20, vs 21 = z21, vs 22 = z22, vs 23 = z23, vs 24 = z24, vs 25 = z25 at *
        go_wp2
        go_ret
        exact ⟨by rw [HF.out]; rfl, hgW.out⟩
      have sk := kstr_eq hkey
      have hkey := Lib.hid hkey
      by_cases hover : x.ptr = y.ptr
      case neg =>
        have HF : Hid (decide (a = b) = false) := e5.out hover
        have HO : Hid ((!decide (x.ptr = y.ptr)) = true) := by unfold Hid; rw [decide_eq_false hover]; rfl
        clear hover
        go_wp2
        refine wp_region_free 26 43 (by kernel_rfl) (by kernel_rfl) rfl (by kernel_rfl) ?_; simp only [List.take_succ_cons, List.take_zero, List.drop_succ_cons, List.drop_zero]
        repeat (first | (apply free_pure rfl; focus (intro vs w hg hd; have q0 := hg.cell a0; (try simp [Region.binds] at hd); simp only [execOp, resolve, Option.map_some, Option.map_none, List.map_toArray, List.map_cons, List.map_nil, rho_const, rho_func]; (repeat (conv in rho _ _ _ _ (Operand.tmp _) => whnf)); (try simp only [hd]); go_simp; (repeat (conv in rho _ _ _ _ (Operand.tmp _) => whnf)); (try simp only [hd]);  rfl)) | (apply free_gpure; (focus (intro vs w hg hd; (try simp [Region.binds] at hd); (first | (simp [Region.wanted, yieldR]; (repeat (conv in rho _ _ _ _ (Operand.tmp _) => whnf)); simp [hd]; done) | (simp [Region.wanted, yieldR]; (repeat (conv in rho _ _ _ _ (Operand.tmp _) => whnf)); simp [hd, undef]; done) | (simp [Region.wanted, yieldR]; (repeat (conv in rho _ _ _ _ (Operand.tmp _) => whnf)); (try simp [hd]); simp [*])))); focus (intro vs w hg hd; have q0 := hg.cell a0; (try simp [Region.binds] at hd); simp only [execOp, resolve, Option.map_some, Option.map_none, List.map_toArray, List.map_cons, List.map_nil, rho_const, rho_func]; (repeat (conv in rho _ _ _ _ (Operand.tmp _) => whnf)); (try simp only [hd]); go_simp; (repeat (conv in rho _ _ _ _ (Operand.tmp _) => whnf)); (try simp only [hd]);  rfl)))
        refine free_op (fun v_ _ => v_ = .string (str (x.key))) rfl (dk_mono _) (fun vs wq hg hd => by (have e1 := run_str (P := Tryd.prog) (Sl.below HK.out (Grows.of_drew hg)) 40 5 9 Tryd.underlying40 Tryd.underlying5 Tryd.underlying9; (try simp [Region.binds] at hd); simp only [Does]; simp only [execOp, resolve, Option.map_some, Option.map_none, List.map_toArray, List.map_cons, List.map_nil, rho_const, rho_func]; (repeat (conv in rho _ _ _ _ (Operand.tmp _) => whnf)); (try simp only [hd]); go_simp; (repeat (conv in rho _ _ _ _ (Operand.tmp _) => whnf)); exact Grows.refl _)) ?_
        repeat (first | (apply free_pure rfl; focus (intro vs w hg hd; have q0 := hg.cell b0; (try simp [Region.binds] at hd); simp only [execOp, resolve, Option.map_some, Option.map_none, List.map_toArray, List.map_cons, List.map_nil, rho_const, rho_func]; (repeat (conv in rho _ _ _ _ (Operand.tmp _) => whnf)); (try simp only [hd]); go_simp; (repeat (conv in rho _ _ _ _ (Operand.tmp _) => whnf)); (try simp only [hd]);  rfl)) | (apply free_gpure; (focus (intro vs w hg hd; (try simp [Region.binds] at hd); (first | (simp [Region.wanted, yieldR]; (repeat (conv in rho _ _ _ _ (Operand.tmp _) => whnf)); simp [hd]; done) | (simp [Region.wanted, yieldR]; (repeat (conv in rho _ _ _ _ (Operand.tmp _) => whnf)); simp [hd, undef]; done) | (simp [Region.wanted, yieldR]; (repeat (conv in rho _ _ _ _ (Operand.tmp _) => whnf)); (try simp [hd]); simp [*])))); focus (intro vs w hg hd; have q0 := hg.cell b0; (try simp [Region.binds] at hd); simp only [execOp, resolve, Option.map_some, Option.map_none, List.map_toArray, List.map_cons, List.map_nil, rho_const, rho_func]; (repeat (conv in rho _ _ _ _ (Operand.tmp _) => whnf)); (try simp only [hd]); go_simp; (repeat (conv in rho _ _ _ _ (Operand.tmp _) => whnf)); (try simp only [hd]);  rfl)))
        refine free_op (fun v_ _ => v_ = .string (str (y.key))) rfl (dk_mono _) (fun vs wq hg hd => by (have e1 := run_str (P := Tryd.prog) (Sl.below HK'.out (Grows.of_drew hg)) 40 5 9 Tryd.underlying40 Tryd.underlying5 Tryd.underlying9; (try simp [Region.binds] at hd); simp only [Does]; simp only [execOp, resolve, Option.map_some, Option.map_none, List.map_toArray, List.map_cons, List.map_nil, rho_const, rho_func]; (repeat (conv in rho _ _ _ _ (Operand.tmp _) => whnf)); (try simp only [hd]); go_simp; (repeat (conv in rho _ _ _ _ (Operand.tmp _) => whnf)); exact Grows.refl _)) ?_
        repeat (first | (apply free_pure rfl; focus (intro vs w hg hd;  (try simp [Region.binds] at hd); simp only [execOp, resolve, Option.map_some, Option.map_none, List.map_toArray, List.map_cons, List.map_nil, rho_const, rho_func]; (repeat (conv in rho _ _ _ _ (Operand.tmp _) => whnf)); (try simp only [hd]); go_simp; (repeat (conv in rho _ _ _ _ (Operand.tmp _) => whnf)); (try simp only [hd]); (try simp only [sk]); rfl)) | (apply free_gpure; (focus (intro vs w hg hd; (try simp [Region.binds] at hd); (first | (simp [Region.wanted, yieldR]; (repeat (conv in rho _ _ _ _ (Operand.tmp _) => whnf)); simp [hd]; done) | (simp [Region.wanted, yieldR]; (repeat (conv in rho _ _ _ _ (Operand.tmp _) => whnf)); simp [hd, undef]; done) | (simp [Region.wanted, yieldR]; (repeat (conv in rho _ _ _ _ (Operand.tmp _) => whnf)); (try simp [hd]); simp [*])))); focus (intro vs w hg hd;  (try simp [Region.binds] at hd); simp only [execOp, resolve, Option.map_some, Option.map_none, List.map_toArray, List.map_cons, List.map_nil, rho_const, rho_func]; (repeat (conv in rho _ _ _ _ (Operand.tmp _) => whnf)); (try simp only [hd]); go_simp; (repeat (conv in rho _ _ _ _ (Operand.tmp _) => whnf)); (try simp only [hd]); (try simp only [sk]); rfl)))
        refine free_guarded (fun v_ _ => v_ = .agg (ptA x.ptr)) (dk_mono _) (fun vs wq hg hd => by
          (try simp [Region.binds] at hd)
          refine ⟨?_, ?_⟩
          · (first | (simp [Region.wanted, yieldR]; (repeat (conv in rho _ _ _ _ (Operand.tmp _) => whnf)); simp [hd]; done) | (simp [Region.wanted, yieldR]; (repeat (conv in rho _ _ _ _ (Operand.tmp _) => whnf)); simp [hd, undef]; done) | (simp [Region.wanted, yieldR]; (repeat (conv in rho _ _ _ _ (Operand.tmp _) => whnf)); (try simp [hd]); simp [*]))
          · refine dk_load 45 (.tmp 34) ⟨g1, o1 + k * 6 + 1, none⟩ _ rfl ?_ (pt_run_loadK (range_grows HP.out (Grows.of_drew hg))) ⟨Grows.refl _, rfl⟩
            (conv in rho _ _ _ _ (Operand.tmp _) => whnf)
            simp [hd]) ?_
        repeat (first | (apply free_pure rfl; focus (intro vs w hg hd;  (try simp [Region.binds] at hd); simp only [execOp, resolve, Option.map_some, Option.map_none, List.map_toArray, List.map_cons, List.map_nil, rho_const, rho_func]; (repeat (conv in rho _ _ _ _ (Operand.tmp _) => whnf)); (try simp only [hd]); go_simp; (repeat (conv in rho _ _ _ _ (Operand.tmp _) => whnf)); (try simp only [hd]);  rfl)) | (apply free_gpure; (focus (intro vs w hg hd; (try simp [Region.binds] at hd); (first | (simp [Region.wanted, yieldR]; (repeat (conv in rho _ _ _ _ (Operand.tmp _) => whnf)); simp [hd]; done) | (simp [Region.wanted, yieldR]; (repeat (conv in rho _ _ _ _ (Operand.tmp _) => whnf)); simp [hd, undef]; done) | (simp [Region.wanted, yieldR]; (repeat (conv in rho _ _ _ _ (Operand.tmp _) => whnf)); (try simp [hd]); simp [*])))); focus (intro vs w hg hd;  (try simp [Region.binds] at hd); simp only [execOp, resolve, Option.map_some, Option.map_none, List.map_toArray, List.map_cons, List.map_nil, rho_const, rho_func]; (repeat (conv in rho _ _ _ _ (Operand.tmp _) => whnf)); (try simp only [hd]); go_simp; (repeat (conv in rho _ _ _ _ (Operand.tmp _) => whnf)); (try simp only [hd]);  rfl)))
        refine free_guarded (fun v_ _ => v_ = .agg (ptA y.ptr)) (dk_mono _) (fun vs wq hg hd => by
          (try simp [Region.binds] at hd)
          refine ⟨?_, ?_⟩
          · (first | (simp [Region.wanted, yieldR]; (repeat (conv in rho _ _ _ _ (Operand.tmp _) => whnf)); simp [hd]; done) | (simp [Region.wanted, yieldR]; (repeat (conv in rho _ _ _ _ (Operand.tmp _) => whnf)); simp [hd, undef]; done) | (simp [Region.wanted, yieldR]; (repeat (conv in rho _ _ _ _ (Operand.tmp _) => whnf)); (try simp [hd]); simp [*]))
          · refine dk_load 45 (.tmp 39) ⟨g2, o2 + k * 6 + 1, none⟩ _ rfl ?_ (pt_run_loadK (range_grows HP'.out (Grows.of_drew hg))) ⟨Grows.refl _, rfl⟩
            (conv in rho _ _ _ _ (Operand.tmp _) => whnf)
            simp [hd]) ?_
        refine free_guarded (fun v_ _ => v_ = .bool true) (dk_mono _) (fun vs wq hg hd => by
          (try simp [Region.binds] at hd)
          refine ⟨?_, ?_⟩
          · (first | (simp [Region.wanted, yieldR]; (repeat (conv in rho _ _ _ _ (Operand.tmp _) => whnf)); simp [hd]; done) | (simp [Region.wanted, yieldR]; (repeat (conv in rho _ _ _ _ (Operand.tmp _) => whnf)); simp [hd, undef]; done) | (simp [Region.wanted, yieldR]; (repeat (conv in rho _ _ _ _ (Operand.tmp _) => whnf)); (try simp [hd]); simp [*]))
          · refine does_neq_pt (.tmp 35) (.tmp 40) x.ptr y.ptr 45 rfl ?_ ?_ ?_
            · (conv in rho _ _ _ _ (Operand.tmp _) => whnf)
              simp [hd]
            · (conv in rho _ _ _ _ (Operand.tmp _) => whnf)
              simp [hd]
            · rw [HO.out]
              exact ⟨Grows.refl _, rfl⟩) ?_
        repeat (first | (apply free_pure rfl; focus (intro vs w hg hd;  (try simp [Region.binds] at hd); simp only [execOp, resolve, Option.map_some, Option.map_none, List.map_toArray, List.map_cons, List.map_nil, rho_const, rho_func]; (repeat (conv in rho _ _ _ _ (Operand.tmp _) => whnf)); (try simp only [hd]); go_simp; (repeat (conv in rho _ _ _ _ (Operand.tmp _) => whnf)); (try simp only [hd]);  rfl)) | (apply free_gpure; (focus (intro vs w hg hd; (try simp [Region.binds] at hd); (first | (simp [Region.wanted, yieldR]; (repeat (conv in rho _ _ _ _ (Operand.tmp _) => whnf)); simp [hd]; done) | (simp [Region.wanted, yieldR]; (repeat (conv in rho _ _ _ _ (Operand.tmp _) => whnf)); simp [hd, undef]; done) | (simp [Region.wanted, yieldR]; (repeat (conv in rho _ _ _ _ (Operand.tmp _) => whnf)); (try simp [hd]); simp [*])))); focus (intro vs w hg hd;  (try simp [Region.binds] at hd); simp only [execOp, resolve, Option.map_some, Option.map_none, List.map_toArray, List.map_cons, List.map_nil, rho_const, rho_func]; (repeat (conv in rho _ _ _ _ (Operand.tmp _) => whnf)); (try simp only [hd]); go_simp; (repeat (conv in rho _ _ _ _ (Operand.tmp _) => whnf)); (try simp only [hd]);  rfl)))
        intro vs w' hg hv; have h25 := hv 25 (by omega); simp at h25; simp only [putL, dstAt, List.range, List.range.loop, if_true, List.getElem?_toArray, List.getElem?_cons_zero, List.getElem?_cons_succ, Option.bind_some, Act.put, List.setIfInBounds_toArray, List.set_cons_zero, List.set_cons_succ]
        rw [h25]
        have hgW := Lib.hid (HB.out.trans (Grows.of_drew hg))
        clear hv h25 hg
        generalize vs 0 = z0, vs 1 = z1, vs 2 = z2, vs 3 = z3, vs 4 = z4, vs 5 = z5, vs 6 = z6, vs 7 = z7, vs 8 = z8, vs 9 = z9, vs 10 = z10, vs 11 = z11, vs 12 = z12, vs 13 = z13, vs 14 = z14, vs 15 = z15, vs 16 = z16, vs 17 = z17, vs 18 = z18, vs 19 = z19, vs 20 = z20, vs 21 = z21, vs 22 = z22, vs 23 = z23, vs 24 = z24, vs 25 = z25 at *
        go_wp2
        go_ret
        exact ⟨by rw [HF.out]; rfl, hgW.out⟩
      have HO : Hid ((!decide (x.ptr = y.ptr)) = false) := by unfold Hid; rw [decide_eq_true hover]; rfl
      have hover := Lib.hid hover
      go_wp2
      refine wp_region_free 26 43 (by kernel_rfl) (by kernel_rfl) rfl (by kernel_rfl) ?_; simp only [List.take_succ_cons, List.take_zero, List.drop_succ_cons, List.drop_zero]
      repeat (first | (apply free_pure rfl; focus (intro vs w hg hd; have q0 := hg.cell a0; (try simp [Region.binds] at hd); simp only [execOp, resolve, Option.map_some, Option.map_none, List.map_toArray, List.map_cons, List.map_nil, rho_const, rho_func]; (repeat (conv in rho _ _ _ _ (Operand.tmp _) => whnf)); (try simp only [hd]); go_simp; (repeat (conv in rho _ _ _ _ (Operand.tmp _) => whnf)); (try simp only [hd]);  rfl)) | (apply free_gpure; (focus (intro vs w hg hd; (try simp [Region.binds] at hd); (first | (simp [Region.wanted, yieldR]; (repeat (conv in rho _ _ _ _ (Operand.tmp _) => whnf)); simp [hd]; done) | (simp [Region.wanted, yieldR]; (repeat (conv in rho _ _ _ _ (Operand.tmp _) => whnf)); simp [hd, undef]; done) | (simp [Region.wanted, yieldR]; (repeat (conv in rho _ _ _ _ (Operand.tmp _) => whnf)); (try simp [hd]); simp [*])))); focus (intro vs w hg hd; have q0 := hg.cell a0; (try simp [Region.binds] at hd); simp only [execOp, resolve, Option.map_some, Option.map_none, List.map_toArray, List.map_cons, List.map_nil, rho_const, rho_func]; (repeat (conv in rho _ _ _ _ (Operand.tmp _) => whnf)); (try simp only [hd]); go_simp; (repeat (conv in rho _ _ _ _ (Operand.tmp _) => whnf)); (try simp only [hd]);  rfl)))
      refine free_op (fun v_ _ => v_ = .string (str (x.key))) rfl (dk_mono _) (fun vs wq hg hd => by (have e1 := run_str (P := Tryd.prog) (Sl.below HK.out (Grows.of_drew hg)) 40 5 9 Tryd.underlying40 Tryd.underlying5 Tryd.underlying9; (try simp [Region.binds] at hd); simp only [Does]; simp only [execOp, resolve, Option.map_some, Option.map_none, List.map_toArray, List.map_cons, List.map_nil, rho_const, rho_func]; (repeat (conv in rho _ _ _ _ (Operand.tmp _) => whnf)); (try simp only [hd]); go_simp; (repeat (conv in rho _ _ _ _ (Operand.tmp _) => whnf)); exact Grows.refl _)) ?_
      repeat (first | (apply free_pure rfl; focus (intro vs w hg hd; have q0 := hg.cell b0; (try simp [Region.binds] at hd); simp only [execOp, resolve, Option.map_some, Option.map_none, List.map_toArray, List.map_cons, List.map_nil, rho_const, rho_func]; (repeat (conv in rho _ _ _ _ (Operand.tmp _) => whnf)); (try simp only [hd]); go_simp; (repeat (conv in rho _ _ _ _ (Operand.tmp _) => whnf)); (try simp only [hd]);  rfl)) | (apply free_gpure; (focus (intro vs w hg hd; (try simp [Region.binds] at hd); (first | (simp [Region.wanted, yieldR]; (repeat (conv in rho _ _ _ _ (Operand.tmp _) => whnf)); simp [hd]; done) | (simp [Region.wanted, yieldR]; (repeat (conv in rho _ _ _ _ (Operand.tmp _) => whnf)); simp [hd, undef]; done) | (simp [Region.wanted, yieldR]; (repeat (conv in rho _ _ _ _ (Operand.tmp _) => whnf)); (try simp [hd]); simp [*])))); focus (intro vs w hg hd; have q0 := hg.cell b0; (try simp [Region.binds] at hd); simp only [execOp, resolve, Option.map_some, Option.map_none, List.map_toArray, List.map_cons, List.map_nil, rho_const, rho_func]; (repeat (conv in rho _ _ _ _ (Operand.tmp _) => whnf)); (try simp only [hd]); go_simp; (repeat (conv in rho _ _ _ _ (Operand.tmp _) => whnf)); (try simp only [hd]);  rfl)))
      refine free_op (fun v_ _ => v_ = .string (str (y.key))) rfl (dk_mono _) (fun vs wq hg hd => by (have e1 := run_str (P := Tryd.prog) (Sl.below HK'.out (Grows.of_drew hg)) 40 5 9 Tryd.underlying40 Tryd.underlying5 Tryd.underlying9; (try simp [Region.binds] at hd); simp only [Does]; simp only [execOp, resolve, Option.map_some, Option.map_none, List.map_toArray, List.map_cons, List.map_nil, rho_const, rho_func]; (repeat (conv in rho _ _ _ _ (Operand.tmp _) => whnf)); (try simp only [hd]); go_simp; (repeat (conv in rho _ _ _ _ (Operand.tmp _) => whnf)); exact Grows.refl _)) ?_
      repeat (first | (apply free_pure rfl; focus (intro vs w hg hd;  (try simp [Region.binds] at hd); simp only [execOp, resolve, Option.map_some, Option.map_none, List.map_toArray, List.map_cons, List.map_nil, rho_const, rho_func]; (repeat (conv in rho _ _ _ _ (Operand.tmp _) => whnf)); (try simp only [hd]); go_simp; (repeat (conv in rho _ _ _ _ (Operand.tmp _) => whnf)); (try simp only [hd]); (try simp only [sk]); rfl)) | (apply free_gpure; (focus (intro vs w hg hd; (try simp [Region.binds] at hd); (first | (simp [Region.wanted, yieldR]; (repeat (conv in rho _ _ _ _ (Operand.tmp _) => whnf)); simp [hd]; done) | (simp [Region.wanted, yieldR]; (repeat (conv in rho _ _ _ _ (Operand.tmp _) => whnf)); simp [hd, undef]; done) | (simp [Region.wanted, yieldR]; (repeat (conv in rho _ _ _ _ (Operand.tmp _) => whnf)); (try simp [hd]); simp [*])))); focus (intro vs w hg hd;  (try simp [Region.binds] at hd); simp only [execOp, resolve, Option.map_some, Option.map_none, List.map_toArray, List.map_cons, List.map_nil, rho_const, rho_func]; (repeat (conv in rho _ _ _ _ (Operand.tmp _) => whnf)); (try simp only [hd]); go_simp; (repeat (conv in rho _ _ _ _ (Operand.tmp _) => whnf)); (try simp only [hd]); (try simp only [sk]); rfl)))
      refine free_guarded (fun v_ _ => v_ = .agg (ptA x.ptr)) (dk_mono _) (fun vs wq hg hd => by
        (try simp [Region.binds] at hd)
        refine ⟨?_, ?_⟩
        · (first | (simp [Region.wanted, yieldR]; (repeat (conv in rho _ _ _ _ (Operand.tmp _) => whnf)); simp [hd]; done) | (simp [Region.wanted, yieldR]; (repeat (conv in rho _ _ _ _ (Operand.tmp _) => whnf)); simp [hd, undef]; done) | (simp [Region.wanted, yieldR]; (repeat (conv in rho _ _ _ _ (Operand.tmp _) => whnf)); (try simp [hd]); simp [*]))
        · refine dk_load 45 (.tmp 34) ⟨g1, o1 + k * 6 + 1, none⟩ _ rfl ?_ (pt_run_loadK (range_grows HP.out (Grows.of_drew hg))) ⟨Grows.refl _, rfl⟩
          (conv in rho _ _ _ _ (Operand.tmp _) => whnf)
          simp [hd]) ?_
      repeat (first | (apply free_pure rfl; focus (intro vs w hg hd;  (try simp [Region.binds] at hd); simp only [execOp, resolve, Option.map_some, Option.map_none, List.map_toArray, List.map_cons, List.map_nil, rho_const, rho_func]; (repeat (conv in rho _ _ _ _ (Operand.tmp _) => whnf)); (try simp only [hd]); go_simp; (repeat (conv in rho _ _ _ _ (Operand.tmp _) => whnf)); (try simp only [hd]);  rfl)) | (apply free_gpure; (focus (intro vs w hg hd; (try simp [Region.binds] at hd); (first | (simp [Region.wanted, yieldR]; (repeat (conv in rho _ _ _ _ (Operand.tmp _) => whnf)); simp [hd]; done) | (simp [Region.wanted, yieldR]; (repeat (conv in rho _ _ _ _ (Operand.tmp _) => whnf)); simp [hd, undef]; done) | (simp [Region.wanted, yieldR]; (repeat (conv in rho _ _ _ _ (Operand.tmp _) => whnf)); (try simp [hd]); simp [*])))); focus (intro vs w hg hd;  (try simp [Region.binds] at hd); simp only [execOp, resolve, Option.map_some, Option.map_none, List.map_toArray, List.map_cons, List.map_nil, rho_const, rho_func]; (repeat (conv in rho _ _ _ _ (Operand.tmp _) => whnf)); (try simp only [hd]); go_simp; (repeat (conv in rho _ _ _ _ (Operand.tmp _) => whnf)); (try simp only [hd]);  rfl)))
      refine free_guarded (fun v_ _ => v_ = .agg (ptA y.ptr)) (dk_mono _) (fun vs wq hg hd => by
        (try simp [Region.binds] at hd)
        refine ⟨?_, ?_⟩
        · (first | (simp [Region.wanted, yieldR]; (repeat (conv in rho _ _ _ _ (Operand.tmp _) => whnf)); simp [hd]; done) | (simp [Region.wanted, yieldR]; (repeat (conv in rho _ _ _ _ (Operand.tmp _) => whnf)); simp [hd, undef]; done) | (simp [Region.wanted, yieldR]; (repeat (conv in rho _ _ _ _ (Operand.tmp _) => whnf)); (try simp [hd]); simp [*]))
        · refine dk_load 45 (.tmp 39) ⟨g2, o2 + k * 6 + 1, none⟩ _ rfl ?_ (pt_run_loadK (range_grows HP'.out (Grows.of_drew hg))) ⟨Grows.refl _, rfl⟩
          (conv in rho _ _ _ _ (Operand.tmp _) => whnf)
          simp [hd]) ?_
      refine free_guarded (fun v_ _ => v_ = .bool false) (dk_mono _) (fun vs wq hg hd => by
        (try simp [Region.binds] at hd)
        refine ⟨?_, ?_⟩
        · (first | (simp [Region.wanted, yieldR]; (repeat (conv in rho _ _ _ _ (Operand.tmp _) => whnf)); simp [hd]; done) | (simp [Region.wanted, yieldR]; (repeat (conv in rho _ _ _ _ (Operand.tmp _) => whnf)); simp [hd, undef]; done) | (simp [Region.wanted, yieldR]; (repeat (conv in rho _ _ _ _ (Operand.tmp _) => whnf)); (try simp [hd]); simp [*]))
        · refine does_neq_pt (.tmp 35) (.tmp 40) x.ptr y.ptr 45 rfl ?_ ?_ ?_
          · (conv in rho _ _ _ _ (Operand.tmp _) => whnf)
            simp [hd]
          · (conv in rho _ _ _ _ (Operand.tmp _) => whnf)
            simp [hd]
          · rw [HO.out]
            exact ⟨Grows.refl _, rfl⟩) ?_
      repeat (first | (apply free_pure rfl; focus (intro vs w hg hd;  (try simp [Region.binds] at hd); simp only [execOp, resolve, Option.map_some, Option.map_none, List.map_toArray, List.map_cons, List.map_nil, rho_const, rho_func]; (repeat (conv in rho _ _ _ _ (Operand.tmp _) => whnf)); (try simp only [hd]); go_simp; (repeat (conv in rho _ _ _ _ (Operand.tmp _) => whnf)); (try simp only [hd]);  rfl)) | (apply free_gpure; (focus (intro vs w hg hd; (try simp [Region.binds] at hd); (first | (simp [Region.wanted, yieldR]; (repeat (conv in rho _ _ _ _ (Operand.tmp _) => whnf)); simp [hd]; done) | (simp [Region.wanted, yieldR]; (repeat (conv in rho _ _ _ _ (Operand.tmp _) => whnf)); simp [hd, undef]; done) | (simp [Region.wanted, yieldR]; (repeat (conv in rho _ _ _ _ (Operand.tmp _) => whnf)); (try simp [hd]); simp [*])))); focus (intro vs w hg hd;  (try simp [Region.binds] at hd); simp only [execOp, resolve, Option.map_some, Option.map_none, List.map_toArray, List.map_cons, List.map_nil, rho_const, rho_func]; (repeat (conv in rho _ _ _ _ (Operand.tmp _) => whnf)); (try simp only [hd]); go_simp; (repeat (conv in rho _ _ _ _ (Operand.tmp _) => whnf)); (try simp only [hd]);  rfl)))
      intro vs w' hg hv; have h25 := hv 25 (by omega); simp at h25; simp only [putL, dstAt, List.range, List.range.loop, if_true, List.getElem?_toArray, List.getElem?_cons_zero, List.getElem?_cons_succ, Option.bind_some, Act.put, List.setIfInBounds_toArray, List.set_cons_zero, List.set_cons_succ]
      rw [h25]
      have hgW := Lib.hid (HB.out.trans (Grows.of_drew hg))
      clear hv h25 hg
      generalize vs 0 = z0, vs 1 = z1, vs 2 = z2, vs 3 = z3, vs 4 = z4, vs 5 = z5, vs 6 = z6, vs 7 = z7, vs 8 = z8, vs 9 = z9, vs 10 = z10, vs 11 = z11, vs 12 = z12, vs 13 = z13, vs 14 = z14, vs 15 = z15, vs 16 = z16, vs 17 = z17, vs 18 = z18, vs 19 = z19, vs 20 = z20, vs 21 = z21, vs 22 = z22, vs 23 = z23, vs 24 = z24, vs 25 = z25 at *
      go_wp2
      go_roundw
      case rel => exact ⟨k + 1, by omega, by go_num, HS.out hkey.out hover.out, hgW.out⟩
      case measure => simp [intOf]; omega
    · obtain rfl : k = a.length := by omega
      have HE : Hid (decide (a = b) = true) := decide_eq_true (by have h := HT.out; rw [List.take_length, h1, List.take_length] at h; exact h)
      have hltb : ¬ (a.length : Int) < b.length := by omega
      go_wp2
      go_ret
      exact ⟨by rw [HE.out]; rfl, HB.out⟩
end Go.Proofs.YtjcommodiihcdaaDoor
/- The document's Own for layer 7: kids in memory of their own. -/
namespace Go.Proofs.YtjcommodiihcdaaDoor
open Go.RowKit
set_option linter.unusedVariables false
set_option linter.unusedSimpArgs false
theorem mine_mono (base : Nat) (l : List (BitVec 8)) : ∀ (v : Value) (w w' : World), Mine base w v l → Grows w w' → Mine base w' v l := fun _ _ _ h hg => h.grows hg
/-- A kid of a call's own, in one value. -/
def KidV (base : Nat) (x : Kd) (v : Value) (w : World) : Prop := ∃ r, v = .agg (kdA r) ∧ KdOwn base w r x
theorem KidV.mono (base : Nat) (x : Kd) : ∀ (v : Value) (w w' : World), KidV base x v w → Grows w w' → KidV base x v w' := fun _ _ _ ⟨r, e, h⟩ hg => ⟨r, e, h.grows hg⟩
/-- A row of just one kid of a call's own. -/
def KidL (base : Nat) (x : Kd) (v : Value) (w : World) : Prop := ∃ r, Els 6 kdE w.heap.size w v [r] ∧ KdOwn base w r x
theorem KidL.mono (base : Nat) (x : Kd) : ∀ (v : Value) (w w' : World), KidL base x v w → Grows w w' → KidL base x v w' := fun _ w w' ⟨r, e, h⟩ hg => ⟨r, (e.below hg).more (Below.size hg), h.grows hg⟩
theorem kids_mono (base : Nat) (l : List Kd) : ∀ (v : Value) (w w' : World), OwnKds base w v l → Grows w w' → OwnKds base w' v l := fun _ _ _ h hg => h.grows hg
theorem kid_build (a : Option Addr) (n c : Nat) (p : Pt) : kdA ⟨a, n, c, p⟩ = #[.slice a n c] ++ ptA p := rfl
theorem does_build_kid {ρ : Operand → Value} {o : Oper} {w : World} {R : Value → World → Prop} (x y : Operand) (ho : o.op = .build 47 #[(0, x), (1, y)]) (r : KRaw) (hx : ρ x = .slice r.ka r.kn r.kc) (hy : ρ y = .agg (ptA r.ptr))
    (hR : R (.agg (kdA r)) w) : Does Tryd.prog o ρ w R := by
  unfold Does execOp
  simp only [ho, Sem.run_bind, List.map_toArray, List.map_cons, List.map_nil, hx, hy]
  have h : (Instr.build 47 #[(0, Value.slice r.ka r.kn r.kc), (1, Value.agg (ptA r.ptr))]).run Tryd.prog w = .ok (.agg (kdA r)) w := by kernel_rfl
  rw [h]
  exact hR
theorem does_append_emptyB {B base : Nat} {w : World} {o : Oper} {ρ : Operand → Value} {m : List (BitVec 8)} (s x : Operand)
    (ho : o.op = .call { callee := .builtin .append, args := #[s, x], argTypes := #[40, 40] })
    (hs : NoneYet base 5 (ρ s) w) (hx : Bytes B w (ρ x) m) (hlen : m.length ≤ 1000000) :
    Does Tryd.prog o ρ w fun v' w' => Grows w w' ∧ Mine base w' v' m := by
  obtain ⟨g, e, hb, hr⟩ := hs
  obtain ⟨v', w', hrun, h2, h3⟩ := run_append_empty o.type hr hx hlen
  unfold Does execOp
  simp only [ho, resolve, invoke, builtin, Sem.run_bind, Sem.run_pure, Result.andThen_ok, List.map_toArray, List.map_cons, List.map_nil, e, hrun]
  exact ⟨h2, h3.more hb⟩
set_option maxRecDepth 20000 in
set_option maxHeartbeats 4000000 in
theorem rown7_any (v : Value) (l : List Kd) (w : World) (hv : Kds w.heap.size w v l) (hl : l.length ≤ 1000) (hs : ∀ x ∈ l, x.key.length ≤ 1000) :
    Calls Tryd.prog 21 #[v] w fun e w' => ∃ r, e = .returned r ∧ OwnKds w.heap.size w' r l ∧ Grows w w' := by
  have HSz := Lib.hid hs; have HL := Lib.hid hl
  obtain ⟨A, cap, rfl, q1, q2, q3⟩ := hv.form
  have HQ := Lib.hid q3
  clear q3 hv hs
  unfold maxLen at q2
  go_enter Tryd.func21, Tryd.ntmps21
  go_wp2
  go_loopw [3, 4] (fun out i wr => ∃ k : Nat, k ≤ l.length ∧ i = .int .i64 k ∧ OwnKds w.heap.size wr out (l.take k) ∧ Grows w wr) (fun _ i _ => l.length - (intOf i).toNat)
  case atStart => exact ⟨0, Nat.zero_le _, rfl, OwnKds.nil _ _, Grows.refl _⟩
  case round =>
    obtain ⟨k, hk, rfl, ho, hb⟩ := hrel
    have HO := Lib.hid ho; have HB := Lib.hid hb
    obtain ⟨A2, c2, rfl, _, _⟩ := ho.form
    clear hb
    have hlk : (l.take k).length = k := by rw [List.length_take]; omega
    rw [hlk] at HO ⊢
    by_cases hlt : k < l.length
    · obtain ⟨g1, o1, rfl, hg1, hcA⟩ := HQ.out (by omega)
      have e1 : l[k]? = some l[k] := List.getElem?_eq_getElem hlt
      obtain ⟨r, hr, hc⟩ := hcA k _ e1
      have HC := Lib.hid (rangeAt_keep hc (fun a ha => Below.cell HB.out (by omega)))
      have HR := Lib.hid (hr.grows HB.out)
      have HS := Lib.hid (HSz.out _ (List.getElem_mem hlt))
      have HT : Hid (l.take k ++ [l[k]] = l.take (k + 1)) := by unfold Hid; rw [List.take_add_one, e1]; rfl
      have k3 := Lib.hid hr.2
      have c0 := (kd_at HC.out).1
      have HP := Lib.hid (kd_at HC.out).2.2.2
      clear hc hcA hr e1 ho
      generalize l[k] = x at *
      have HLk : Hid ((l.take k).length + 1 ≤ 1000000) := by unfold Hid; omega
      generalize l.take k = lk at *
      go_wp2
      refine wp_region_free 15 28 (by kernel_rfl) (by kernel_rfl) rfl (by kernel_rfl) ?_; simp only [List.take_succ_cons, List.take_zero, List.drop_succ_cons, List.drop_zero]
      repeat (apply free_pure rfl; focus (intro vs w hg hd;  (try simp [Region.binds] at hd); simp only [execOp, resolve, Option.map_some, Option.map_none, List.map_toArray, List.map_cons, List.map_nil, rho_const, rho_func]; (repeat (conv in rho _ _ _ _ (Operand.tmp _) => whnf)); (try simp only [hd]); go_simp; (repeat (conv in rho _ _ _ _ (Operand.tmp _) => whnf)); (try simp only [hd]);  rfl))
      refine free_op (NoneYet w.heap.size 5) rfl (NoneYet.mono _ _) (fun vs wq hg hd => by
        (try simp [Region.binds] at hd); simp only [Does]; simp only [execOp, resolve, Option.map_some, Option.map_none, List.map_toArray, List.map_cons, List.map_nil, rho_const, rho_func]; (repeat (conv in rho _ _ _ _ (Operand.tmp _) => whnf)); (try simp only [hd]); go_simp; (repeat (conv in rho _ _ _ _ (Operand.tmp _) => whnf))
        exact ⟨Grows.alloc _ _, wq.heap.size, rfl, Nat.le_trans HB.out.size (Below.size (Grows.of_drew hg)), Row.new _ _ _⟩) ?_
      repeat (apply free_pure rfl; focus (intro vs w hg hd; have q0 := hg.cell c0; (try simp [Region.binds] at hd); simp only [execOp, resolve, Option.map_some, Option.map_none, List.map_toArray, List.map_cons, List.map_nil, rho_const, rho_func]; (repeat (conv in rho _ _ _ _ (Operand.tmp _) => whnf)); (try simp only [hd]); go_simp; (repeat (conv in rho _ _ _ _ (Operand.tmp _) => whnf)); (try simp only [hd]);  rfl))
      refine free_op (fun v_ w_ => Mine w.heap.size w_ v_ x.key) rfl (mine_mono _ _) (fun vs wq hg hd => by
        simp [Region.binds] at hd
        obtain ⟨hd1, hd6⟩ := hd
        have hx : Bytes wr.heap.size wq (vs 6) x.key := by rw [hd6]; exact HR.out.1.below (Grows.of_drew hg)
        refine does_append_emptyB (B := wr.heap.size) (.tmp 12) (.tmp 17) rfl ?_ ?_ (by have := HS.out; omega)
        · (conv in rho _ _ _ _ (Operand.tmp _) => whnf)
          exact hd1
        · (conv in rho _ _ _ _ (Operand.tmp _) => whnf)
          exact hx) ?_
      repeat (apply free_pure rfl; focus (intro vs w hg hd;  (try simp [Region.binds] at hd); simp only [execOp, resolve, Option.map_some, Option.map_none, List.map_toArray, List.map_cons, List.map_nil, rho_const, rho_func]; (repeat (conv in rho _ _ _ _ (Operand.tmp _) => whnf)); (try simp only [hd]); go_simp; (repeat (conv in rho _ _ _ _ (Operand.tmp _) => whnf)); (try simp only [hd]);  rfl))
      refine free_op (fun v_ _ => v_ = .agg (ptA r.ptr)) rfl (dk_mono _) (fun vs wq hg hd => by
        (try simp [Region.binds] at hd)
        refine dk_load 45 (.tmp 22) ⟨g1, o1 + k * 6 + 1, none⟩ _ rfl ?_ (pt_run_loadK (range_grows HP.out (Grows.of_drew hg))) ⟨Grows.refl _, rfl⟩
        (conv in rho _ _ _ _ (Operand.tmp _) => whnf)
        simp [hd]) ?_
      refine free_op (KidV w.heap.size x) rfl (KidV.mono _ _) (fun vs wq hg hd => by
        simp [Region.binds] at hd
        obtain ⟨hd7, hd12⟩ := hd
        obtain ⟨A3, c3, e3, _, _⟩ := hd7.form
        refine does_build_kid (.tmp 18) (.tmp 23) rfl ⟨A3, x.key.length, c3, r.ptr⟩ ?_ ?_ ⟨Grows.refl _, _, rfl, by rw [e3] at hd7; exact hd7, k3.out⟩
        · (conv in rho _ _ _ _ (Operand.tmp _) => whnf)
          exact e3
        · (conv in rho _ _ _ _ (Operand.tmp _) => whnf)
          exact hd12) ?_
      refine free_op (KidL w.heap.size x) rfl (KidL.mono _ _) (fun vs wq hg hd => by
        simp [Region.binds] at hd
        obtain ⟨rr, e13, h13⟩ := hd
        refine does_slice_kid (.tmp 24) rfl rr ?_ ⟨Grows.alloc _ _, rr, (by rw [World.size_alloc]; exact kd_one _ _), h13.grows (Grows.alloc _ _)⟩
        (conv in rho _ _ _ _ (Operand.tmp _) => whnf)
        exact e13) ?_
      intro vs w' hg hv; have h0 := hv 0 (by omega); simp at h0; have h14 := hv 14 (by omega); simp at h14; simp only [putL, dstAt, List.range, List.range.loop, if_true, List.getElem?_toArray, List.getElem?_cons_zero, List.getElem?_cons_succ, Option.bind_some, Act.put, List.setIfInBounds_toArray, List.set_cons_zero, List.set_cons_succ]
      rw [h0]
      have hgW := Lib.hid (Grows.of_drew hg)
      obtain ⟨rr, hE, hK⟩ := h14
      have HE := Lib.hid hE; have HK := Lib.hid hK
      have O5 := Lib.hid (HO.out.grows hgW.out)
      have G5 := Lib.hid (HB.out.trans hgW.out)
      clear hv h0 hg hE hK
      generalize vs 0 = z0, vs 1 = z1, vs 2 = z2, vs 3 = z3, vs 4 = z4, vs 5 = z5, vs 6 = z6, vs 7 = z7, vs 8 = z8, vs 9 = z9, vs 10 = z10, vs 11 = z11, vs 12 = z12, vs 13 = z13, vs 14 = z14 at *
      go_wp2_with (first
        | ((with_reducible refine wpList_append_kds (o := ⟨some 26, _, _, _, _, _⟩) ?_ (.tmp 11) (.tmp 25) ?_ w.heap.size w'.heap.size lk rr x ?_ ?_ ?_ ?_ ?_ ?_); exact rfl; exact rfl; exact O5.out; exact HE.out; exact HK.out; exact HLk.out; exact G5.out.size; intro v6 w6 h6 g6; rw [HT.out] at h6; have O6 := Lib.hid h6; have G6 := Lib.hid (show Grows w w6 from Below.grown G5.out g6 G5.out.size (O5.out.low)); clear h6 g6))
      go_roundw
      case rel => exact ⟨k + 1, by omega, by go_num, O6.out, G6.out⟩
      case measure => simp [intOf]; omega
    · obtain rfl : k = l.length := by omega
      have HTk : Hid (l.take l.length = l) := List.take_length
      rw [HTk.out] at HO
      go_wp2
      go_ret
      exact ⟨_, rfl, HO.out, HB.out⟩
end Go.Proofs.YtjcommodiihcdaaDoor
/- The statements' own helpers of layer 7: kid, same. -/
namespace Go.Proofs.YtjcommodiihcdaaDoor
open Go.RowKit
set_option linter.unusedVariables false
set_option linter.unusedSimpArgs false
theorem same7_any (u v : Value) (a b : List Kd) (w : World) (hu : Kds w.heap.size w u a) (hv : Kds w.heap.size w v b) :
    Calls Tryd.prog 14 #[u, v] w fun e w' => e = .returned (.bool (decide (a = b))) ∧ Grows w w' := by
  have HC := Lib.hid (fun W (h : Grows w W) => rsame7_any u v a b W (hu.grows h) (hv.grows h))
  obtain ⟨A, cap, rfl, _⟩ := hu.form
  obtain ⟨A', cap', rfl, _⟩ := hv.form
  clear hu hv
  go_enter Tryd.func14, Tryd.ntmps14
  go_wp2_with (first
    | (go_at_call 33; (with_reducible refine (HC.out _ (Grows.refl _)).mono ?_); rintro e w1 ⟨rfl, g⟩; have G1 := Lib.hid g; clear g))
  go_ret
  exact ⟨rfl, G1.out⟩
theorem results_kid_one {w : World} {g : Nat} {x : KRaw} {fn : Func} {p : Tmp} (h : fn.results = #[.cell p 47]) (tmps : Array Value) (hp : tmps.getD p undef = .pointer (some ⟨g, 0, none⟩)) (hr : Row w g 47 (kdA x)) :
    (results fn tmps).run Tryd.prog w = .ok (.agg (kdA x)) w := by
  have hp' : tmps[p]?.getD undef = .pointer (some ⟨g, 0, none⟩) := by simpa using hp
  simp [results, h, hp', asAddr, kid_run_load (kdA_row hr)]
theorem bytes_world (w : World) (s : ByteArray) (key : List (BitVec 8)) (hk : (s.data.toList.map fun b => Value.int .u8 (b.toNat : Int)) = key.map byteV) (hl : key.length ≤ 1000) :
    s.size = key.length ∧ Bytes (w.heap.size + 1) (Lib.bytesWorld w 5 s) (.slice (some ⟨w.heap.size, 0, none⟩) s.size (grownCap w s.size 0 5)) key ∧ Grows w (Lib.bytesWorld w 5 s) := by
  have hsz : s.size = key.length := by
    have := congrArg List.length hk
    simpa using this
  refine ⟨hsz, ⟨some ⟨w.heap.size, 0, none⟩, grownCap w s.size 0 5, by simp [hsz], by simpa [hsz] using grownCap_ge w key.length 0 5, grownCap_le_maxLen _ _ _ _ (by rw [hsz]; unfold maxLen; omega), fun _ => ⟨w.heap.size, 0, rfl, Nat.lt_succ_self _, fun j u hu => ?_⟩⟩, ?_⟩
  · rw [Nat.zero_add]
    have hj : j < s.size := by rw [hsz]; simpa using (List.getElem?_eq_some_iff.1 hu).1
    rw [Lib.bytesWorld_cell w _ s j hj]
    rw [← hk, List.getElem?_map] at hu
    obtain ⟨x, hx, rfl⟩ := Option.map_eq_some_iff.1 hu
    rw [List.getD_eq_getElem?_getD, hx]
    rfl
  · refine ⟨?_, ?_, ?_, ?_, fun k hk => Lib.bytesWorld_at_old w _ s k hk⟩
    · rfl
    · rfl
    · rfl
    · rw [Lib.bytesWorld_size]; omega
theorem bytes_far {B g : Nat} {W W' : World} {b n c : Nat} {l : List (BitVec 8)} (h : Bytes B W (.slice (some ⟨b, 0, none⟩) n c) l) (hg : W.grownBy W' (some g)) (hb : b ≠ g) : Bytes B W' (.slice (some ⟨b, 0, none⟩) n c) l := by
  obtain ⟨A, cap, e, h1, h2, h3⟩ := h
  refine ⟨A, cap, e, h1, h2, fun hp => ?_⟩
  obtain ⟨b', o, rfl, hB, hr⟩ := h3 hp
  injection e with e1 e2 e3
  injection e1 with e1
  injection e1 with e4 e5
  subst e4 e5
  exact ⟨_, _, rfl, hB, fun j u hu => (World.cell?_of_block (hg.block _ (block_lt_of_cell (hr j u hu)) (by simpa using hb))).trans (hr j u hu)⟩
set_option maxRecDepth 20000 in
set_option maxHeartbeats 4000000 in
theorem kid7_any (s : ByteArray) (key : List (BitVec 8)) (x y : BitVec 16) (z : BitVec 32) (w : World) (hk : (s.data.toList.map fun b => Value.int .u8 (b.toNat : Int)) = key.map byteV) (hl : key.length ≤ 1000) (hxy : IntKind.u16.wrap (hI x + 1) = hI y) :
    Calls Tryd.prog 22 #[.string s, .int .u16 (hI x), .int .u32 (wI z)] w fun e w' => (∃ r, e = .returned (.agg (kdA r)) ∧ KdIs w'.heap.size w' r ⟨key, ⟨1#8, x, y, z, 0#64⟩⟩) ∧ Grows w w' := by
  have HBw := Lib.hid (bytes_world (w.alloc (.cells #[.slice none 0 0, .int .u8 0, .int .u16 0, .int .u16 0, .int .u32 0, .int .u64 0] 47)) s key hk hl)
  have HX := Lib.hid (Row.new w 47 #[.slice none 0 0, .int .u8 0, .int .u16 0, .int .u16 0, .int .u32 0, .int .u64 0])
  have HG := Lib.hid (Grows.alloc w (.cells #[.slice none 0 0, .int .u8 0, .int .u16 0, .int .u16 0, .int .u32 0, .int .u64 0] 47))
  have hsz := HBw.out.1
  have HWz : Hid (w.heap.size + 1 + 1 ≤ (Lib.bytesWorld (w.alloc (.cells #[.slice none 0 0, .int .u8 0, .int .u16 0, .int .u16 0, .int .u32 0, .int .u64 0] 47)) 5 s).heap.size) := by unfold Hid; rw [Lib.bytesWorld_size, World.size_alloc]; omega
  have kc := fun (W : World) => Lib.run_convert_string_bytes (P := Tryd.prog) W 9 40 5 s Tryd.underlying9 Tryd.underlying40 Tryd.underlying5
  generalize hGC : grownCap (w.alloc (.cells #[.slice none 0 0, .int .u8 0, .int .u16 0, .int .u16 0, .int .u32 0, .int .u64 0] 47)) s.size 0 5 = cap at *
  generalize hWB : Lib.bytesWorld (w.alloc (.cells #[.slice none 0 0, .int .u8 0, .int .u16 0, .int .u16 0, .int .u32 0, .int .u64 0] 47)) 5 s = WB at *
  have R2 := Lib.hid (HX.out.grows HBw.out.2.2)
  have G2 := Lib.hid (HG.out.trans HBw.out.2.2)
  rw [World.size_alloc] at HBw
  rw [hsz] at hGC HBw
  clear hk
  go_enter Tryd.func22, Tryd.ntmps22
  go_wp2_with (first
    | ((with_reducible refine wpList_store_kid ?_ (.tmp 6) (.tmp 15) ?_ w.heap.size ⟨some ⟨w.heap.size + 1, 0, none⟩, key.length, cap, ⟨1#8, x, y, z, 0#64⟩⟩ #[.slice none 0 0, .int .u8 0, .int .u16 0, .int .u16 0, .int .u32 0, .int .u64 0] ?_ ?_ ?_ ?_ ?_); exact rfl; exact rfl; exact rfl; exact rfl; exact rfl; exact R2.out; intro w3 hp3 hg3))
  refine bodyPost_ret (results_kid_one (p := 6) (by exact rfl) _ (by exact rfl) hp3) rfl ?_
  have hs := hg3.size
  refine ⟨⟨_, rfl, (bytes_far HBw.out.2.1 hg3 (by omega)).more (Nat.le_trans ?_ hs), rfl⟩, G2.out.grown hg3 G2.out.size (fun k e => by cases e; exact Nat.le_refl _)⟩
  exact R2.out.lt |> fun _ => HWz.out
end Go.Proofs.YtjcommodiihcdaaDoor
/- Layer 7's own answer: are two rows of kids the same? -/
namespace Go.Proofs.YtjcommodiihcdaaDoor
open Go.RowKit
set_option linter.unusedVariables false
set_option linter.unusedSimpArgs false
theorem kd_decide (x y : Kd) : decide (x = y) = (decide (x.key = y.key) && decide (x.ptr = y.ptr)) := by
  rw [Bool.eq_iff_iff]
  simp only [Bool.and_eq_true, decide_eq_true_eq]
  exact (Kd.eq_iff x y).symm
set_option maxHeartbeats 4000000 in
theorem bsame_any (r s : KRaw) (x y : Kd) (w : World) (hr : KdIs w.heap.size w r x) (hs : KdIs w.heap.size w s y) :
    Calls Tryd.prog 39 #[.agg (kdA r), .agg (kdA s)] w fun e w' => e = .returned (.bool (decide (x = y))) ∧ Grows w w' := by
  have HX := Lib.hid ((Row.new w 47 (kdA r)).alloc (.cells (kdA s) 47))
  have HY : Hid (Row ((w.alloc (.cells (kdA r) 47)).alloc (.cells (kdA s) 47)) (w.heap.size + 1) 47 (kdA s)) := by
    have := Row.new (w.alloc (.cells (kdA r) 47)) 47 (kdA s)
    rwa [World.size_alloc] at this
  have HG := Lib.hid ((Grows.alloc w (.cells (kdA r) 47)).trans (Grows.alloc _ (.cells (kdA s) 47)))
  have HE1 := Lib.hid (bequal_any _ _ _ _ _ (hr.grows HG.out).1 (hs.grows HG.out).1)
  have HP := Lib.hid (fun W (h : Row W w.heap.size 47 (kdA r)) => (kd_at (kdA_row h)).2.2.2)
  have HQ := Lib.hid (fun W (h : Row W (w.heap.size + 1) 47 (kdA s)) => (kd_at (kdA_row h)).2.2.2)
  have HD := kd_decide x y
  rw [← hr.2, ← hs.2] at HD
  clear hr hs
  generalize decide (x = y) = t at *
  generalize decide (x.key = y.key) = t1 at *
  generalize ht3 : decide (r.ptr = s.ptr) = t3 at *
  have HO := Lib.hid ht3
  clear ht3
  cases t1
  case false =>
    rw [Bool.false_and] at HD
    obtain rfl := HD
    go_enter Tryd.func39, Tryd.ntmps39
    go_wp2_with (first
      | (go_at_call 52; (with_reducible refine HE1.out.mono ?_); rintro e w3 ⟨rfl, hb⟩; have G3 := Lib.hid (HG.out.trans hb); clear hb))
    go_ret
    exact ⟨rfl, G3.out⟩
  rw [Bool.true_and] at HD
  obtain rfl := HD
  go_enter Tryd.func39, Tryd.ntmps39
  go_wp2_with (first
    | (go_at_call 52; (with_reducible refine HE1.out.mono ?_); rintro e w3 ⟨rfl, hb⟩; have G3 := Lib.hid (HG.out.trans hb); have P3 := Lib.hid (HP.out _ (Row.grows HX.out hb)); have Q3 := Lib.hid (HQ.out _ (Row.grows HY.out hb)); clear hb)
    | ((with_reducible refine wpList_load_ptK (op := ⟨some 12, _, _, _, _, _⟩) ?_ (.tmp 11) ?_ w.heap.size 1 r.ptr ?_ ?_ ?_); exact rfl; exact rfl; exact rfl; rw [Nat.zero_add] at P3; exact P3.out)
    | ((with_reducible refine wpList_load_ptK (op := ⟨some 14, _, _, _, _, _⟩) ?_ (.tmp 13) ?_ (w.heap.size + 1) 1 s.ptr ?_ ?_ ?_); exact rfl; exact rfl; exact rfl; rw [Nat.zero_add] at Q3; exact Q3.out)
    | ((with_reducible refine wpList_eqlK_ptr (op := ⟨some 15, _, _, _, _, _⟩) ?_ (.tmp 12) (.tmp 14) 45 ?_ r.ptr s.ptr ?_ ?_ ?_); exact rfl; exact rfl; exact rfl; exact rfl; rw [HO.out]))
  go_ret
  exact ⟨rfl, G3.out⟩
set_option maxRecDepth 20000 in
set_option maxHeartbeats 4000000 in
theorem kequalFunc_any (u v : Value) (a b : List Kd) (w : World) (hu : Kds w.heap.size w u a) (hv : Kds w.heap.size w v b) :
    Calls Tryd.prog 38 #[u, v, .func (.func 39) #[] #[]] w fun e w' => e = .returned (.bool (decide (a = b))) ∧ Grows w w' := by
  obtain ⟨A, cap, rfl, q1, q2, q3⟩ := hu.form
  obtain ⟨A', cap', rfl, q1', q2', q3'⟩ := hv.form
  have HQ := Lib.hid q3; have HQ' := Lib.hid q3'
  clear q3 q3' hu hv
  unfold maxLen at q2 q2'
  by_cases h1 : a.length = b.length
  case neg =>
    have h1' : ¬ (a.length : Int) = b.length := by omega
    have hne : Hid (decide (a = b) = false) := decide_eq_false (by rintro rfl; exact h1 rfl)
    go_enter Tryd.func38, Tryd.ntmps38
    go_wp2
    go_ret
    exact ⟨by rw [hne.out]; rfl, Grows.refl _⟩
  have h1' : (a.length : Int) = b.length := by omega
  go_enter Tryd.func38, Tryd.ntmps38
  go_wp2
  have H1 := Lib.hid h1
  clear h1 h1'
  go_loopw [7, 8, 9, 17] (fun _ _ _ i wr => ∃ k : Nat, k ≤ a.length ∧ i = .int .i64 k ∧ a.take k = b.take k ∧ Grows w wr) (fun _ _ _ i _ => a.length - (intOf i).toNat)
  case atStart => exact ⟨0, Nat.zero_le _, rfl, rfl, Grows.refl _⟩
  case round =>
    obtain ⟨k, hk, rfl, hg, hb⟩ := hrel
    have HT := Lib.hid hg; have HB := Lib.hid hb
    clear hg hb
    by_cases hlt : k < a.length
    · have hlb : k < b.length := by have := H1.out; omega
      obtain ⟨g1, o1, rfl, hg1, hcA⟩ := HQ.out (by omega)
      obtain ⟨g2, o2, rfl, hg2, hcB⟩ := HQ'.out (by omega)
      have e1 : a[k]? = some a[k] := List.getElem?_eq_getElem hlt
      have e2 : b[k]? = some (b[k]'hlb) := List.getElem?_eq_getElem hlb
      have hltb : (k : Int) < b.length := by omega
      obtain ⟨r, hr, hc⟩ := hcA k _ e1
      obtain ⟨s, hs, hc'⟩ := hcB k _ e2
      have HC := Lib.hid (rangeAt_keep hc (fun p hp => Below.cell HB.out (by omega)))
      have HC' := Lib.hid (fun W (h : Grows w W) => rangeAt_keep hc' (fun p hp => Below.cell h (by omega)))
      have HSm := Lib.hid (fun W (h : Grows w W) => bsame_any r s _ _ W (hr.grows h) (hs.grows h))
      have HS := Lib.hid (fun (h : decide (a[k] = b[k]'hlb) = true) => (show a.take (k + 1) = b.take (k + 1) by rw [List.take_add_one, List.take_add_one, HT.out, e1, e2, of_decide_eq_true h]))
      have HNe := Lib.hid (fun (h : decide (a[k] = b[k]'hlb) = false) => kds_ne e1 e2 (of_decide_eq_false h))
      clear e1 e2 hcA hcB hc hc' hr hs
      generalize a[k] = x at *
      generalize b[k]'hlb = y at *
      generalize decide (x = y) = t at *
      have HZ := Lib.hid (fun W => Row.new W 47 #[.slice none 0 0, .int .u8 0, .int .u16 0, .int .u16 0, .int .u32 0, .int .u64 0])
      cases t
      · go_wp2_with (first
          | ((with_reducible refine wpList_load_kid (op := ⟨some 21, _, _, _, _, _⟩) ?_ (.tmp 20) ?_ g1 (o1 + k * 6) r ?_ ?_ ?_); exact rfl; exact rfl; exact rfl; exact HC.out)
          | ((with_reducible refine wpList_store_kid ?_ (.tmp 8) (.tmp 21) ?_ wr.heap.size r #[.slice none 0 0, .int .u8 0, .int .u16 0, .int .u16 0, .int .u32 0, .int .u64 0] ?_ ?_ ?_ ?_ ?_); exact rfl; exact rfl; exact rfl; exact rfl; exact rfl; exact HZ.out _; intro w1 hp hg; have P1 := Lib.hid hp; have G1 := Lib.hid (HB.out.trans (grown_fresh (W := wr) (W' := w1) rfl hg)); clear hp hg)
          | ((with_reducible refine wpList_load_kid (op := ⟨some 25, _, _, _, _, _⟩) ?_ (.tmp 24) ?_ g2 (o2 + k * 6) s ?_ ?_ ?_); exact rfl; exact rfl; exact rfl; exact HC'.out _ G1.out)
          | ((with_reducible refine wpList_store_kid ?_ (.tmp 9) (.tmp 25) ?_ w1.heap.size s #[.slice none 0 0, .int .u8 0, .int .u16 0, .int .u16 0, .int .u32 0, .int .u64 0] ?_ ?_ ?_ ?_ ?_); exact rfl; exact rfl; exact rfl; exact rfl; exact rfl; exact HZ.out _; intro w2 hp hg; have S2 := Lib.hid hp; have g := grown_fresh (W := w1) (W' := w2) rfl hg; have P2 := Lib.hid (Row.grows P1.out g); have G2 := Lib.hid (G1.out.trans g); clear hp hg g)
          | ((with_reducible refine wpList_load_kid (op := ⟨some 27, _, _, _, _, _⟩) ?_ (.tmp 8) ?_ wr.heap.size 0 r ?_ ?_ ?_); exact rfl; exact rfl; exact rfl; exact kdA_row P2.out)
          | ((with_reducible refine wpList_load_kid (op := ⟨some 28, _, _, _, _, _⟩) ?_ (.tmp 9) ?_ w1.heap.size 0 s ?_ ?_ ?_); exact rfl; exact rfl; exact rfl; exact kdA_row S2.out)
          | (go_at_call 39; (with_reducible refine (HSm.out _ G2.out).mono ?_); rintro e w3 ⟨rfl, hb⟩; have G3 := Lib.hid (G2.out.trans hb); clear hb))
        go_ret
        exact ⟨by rw [HNe.out (by trivial)]; rfl, G3.out⟩
      · go_wp2_with (first
          | ((with_reducible refine wpList_load_kid (op := ⟨some 21, _, _, _, _, _⟩) ?_ (.tmp 20) ?_ g1 (o1 + k * 6) r ?_ ?_ ?_); exact rfl; exact rfl; exact rfl; exact HC.out)
          | ((with_reducible refine wpList_store_kid ?_ (.tmp 8) (.tmp 21) ?_ wr.heap.size r #[.slice none 0 0, .int .u8 0, .int .u16 0, .int .u16 0, .int .u32 0, .int .u64 0] ?_ ?_ ?_ ?_ ?_); exact rfl; exact rfl; exact rfl; exact rfl; exact rfl; exact HZ.out _; intro w1 hp hg; have P1 := Lib.hid hp; have G1 := Lib.hid (HB.out.trans (grown_fresh (W := wr) (W' := w1) rfl hg)); clear hp hg)
          | ((with_reducible refine wpList_load_kid (op := ⟨some 25, _, _, _, _, _⟩) ?_ (.tmp 24) ?_ g2 (o2 + k * 6) s ?_ ?_ ?_); exact rfl; exact rfl; exact rfl; exact HC'.out _ G1.out)
          | ((with_reducible refine wpList_store_kid ?_ (.tmp 9) (.tmp 25) ?_ w1.heap.size s #[.slice none 0 0, .int .u8 0, .int .u16 0, .int .u16 0, .int .u32 0, .int .u64 0] ?_ ?_ ?_ ?_ ?_); exact rfl; exact rfl; exact rfl; exact rfl; exact rfl; exact HZ.out _; intro w2 hp hg; have S2 := Lib.hid hp; have g := grown_fresh (W := w1) (W' := w2) rfl hg; have P2 := Lib.hid (Row.grows P1.out g); have G2 := Lib.hid (G1.out.trans g); clear hp hg g)
          | ((with_reducible refine wpList_load_kid (op := ⟨some 27, _, _, _, _, _⟩) ?_ (.tmp 8) ?_ wr.heap.size 0 r ?_ ?_ ?_); exact rfl; exact rfl; exact rfl; exact kdA_row P2.out)
          | ((with_reducible refine wpList_load_kid (op := ⟨some 28, _, _, _, _, _⟩) ?_ (.tmp 9) ?_ w1.heap.size 0 s ?_ ?_ ?_); exact rfl; exact rfl; exact rfl; exact kdA_row S2.out)
          | (go_at_call 39; (with_reducible refine (HSm.out _ G2.out).mono ?_); rintro e w3 ⟨rfl, hb⟩; have G3 := Lib.hid (G2.out.trans hb); clear hb))
        go_roundw
        case rel => exact ⟨k + 1, by omega, by go_num, HS.out (by trivial), G3.out⟩
        case measure => simp [intOf]; omega
    · obtain rfl : k = a.length := by omega
      have HE : Hid (decide (a = b) = true) := decide_eq_true (by have h := HT.out; rw [List.take_length, H1.out, List.take_length] at h; exact h)
      have hnl : ¬ a.length < b.length := by have := H1.out; omega
      go_wp2
      go_ret
      exact ⟨by rw [HE.out]; rfl, HB.out⟩
theorem same7_any_o (u v : Value) (a b : List Kd) (w : World) (hu : Kds w.heap.size w u a) (hv : Kds w.heap.size w v b) :
    Calls Tryd.prog 17 #[u, v] w fun e w' => e = .returned (.bool (decide (a = b))) ∧ Grows w w' := by
  have HE := Lib.hid (kequalFunc_any u v a b w hu hv)
  clear hu hv
  generalize decide (a = b) = t at *
  go_enter Tryd.func17, Tryd.ntmps17
  go_wp2_with (first
    | (go_at_call 38; (with_reducible refine HE.out.mono ?_); rintro e w3 ⟨rfl, hb⟩; have G3 := Lib.hid hb; clear hb))
  go_ret
  exact ⟨rfl, G3.out⟩
end Go.Proofs.YtjcommodiihcdaaDoor
/- Layer 7's own Own: kids in memory of their own. -/
namespace Go.Proofs.YtjcommodiihcdaaDoor
open Go.RowKit
set_option linter.unusedVariables false
set_option linter.unusedSimpArgs false
set_option maxRecDepth 20000 in
set_option maxHeartbeats 4000000 in
theorem own7_any (v : Value) (l : List Kd) (w : World) (hv : Kds w.heap.size w v l) (hl : l.length ≤ 1000) (hs : ∀ x ∈ l, x.key.length ≤ 1000) :
    Calls Tryd.prog 18 #[v] w fun e w' => ∃ r, e = .returned r ∧ OwnKds w.heap.size w' r l ∧ Grows w w' := by
  have HSz := Lib.hid hs; have HL := Lib.hid hl
  obtain ⟨A, cap, rfl, q1, q2, q3⟩ := hv.form
  have HQ := Lib.hid q3
  clear q3 hv hs
  unfold maxLen at q2
  go_enter Tryd.func18, Tryd.ntmps18
  go_wp2
  go_loopw [3, 5, 8] (fun out _ i wr => ∃ k : Nat, k ≤ l.length ∧ i = .int .i64 k ∧ OwnKds w.heap.size wr out (l.take k) ∧ Grows w wr) (fun _ _ i _ => l.length - (intOf i).toNat)
  case atStart => exact ⟨0, Nat.zero_le _, rfl, OwnKds.nil _ _, Grows.refl _⟩
  case round =>
    obtain ⟨k, hk, rfl, ho, hb⟩ := hrel
    have HO := Lib.hid ho; have HB := Lib.hid hb
    obtain ⟨A2, c2, rfl, _, _⟩ := ho.form
    clear hb
    have hlk : (l.take k).length = k := by rw [List.length_take]; omega
    rw [hlk] at HO ⊢
    by_cases hlt : k < l.length
    · obtain ⟨g1, o1, rfl, hg1, hcA⟩ := HQ.out (by omega)
      have e1 : l[k]? = some l[k] := List.getElem?_eq_getElem hlt
      obtain ⟨r, hr, hc⟩ := hcA k _ e1
      have HC := Lib.hid (rangeAt_keep hc (fun a ha => Below.cell HB.out (by omega)))
      have HR := Lib.hid (hr.grows HB.out)
      have HS := Lib.hid (HSz.out _ (List.getElem_mem hlt))
      have HT : Hid (l.take k ++ [l[k]] = l.take (k + 1)) := by unfold Hid; rw [List.take_add_one, e1]; rfl
      have k3 := Lib.hid hr.2
      clear hc hcA hr e1 ho
      generalize l[k] = x at *
      have HLk : Hid ((l.take k).length + 1 ≤ 1000000) := by unfold Hid; omega
      generalize l.take k = lk at *
      have HZ := Lib.hid (Row.new wr 47 #[.slice none 0 0, .int .u8 0, .int .u16 0, .int .u16 0, .int .u32 0, .int .u64 0])
      go_wp2_with (first
        | ((with_reducible refine wpList_load_kid (op := ⟨some 11, _, _, _, _, _⟩) ?_ (.tmp 10) ?_ g1 (o1 + k * 6) r ?_ ?_ ?_); exact rfl; exact rfl; exact rfl; exact HC.out)
        | ((with_reducible refine wpList_store_kid ?_ (.tmp 5) (.tmp 11) ?_ wr.heap.size r #[.slice none 0 0, .int .u8 0, .int .u16 0, .int .u16 0, .int .u32 0, .int .u64 0] ?_ ?_ ?_ ?_ ?_); exact rfl; exact rfl; exact rfl; exact rfl; exact rfl; exact HZ.out; intro w1 hp hg; have P1 := Lib.hid (kdA_row hp); have G1 := Lib.hid (grown_fresh (W := wr) (W' := w1) rfl hg); clear hp hg))
      have c0 := (kd_at P1.out).1
      have HP := Lib.hid (kd_at P1.out).2.2.2
      rw [Nat.zero_add] at HP
      refine wp_region_free 8 23 (by kernel_rfl) (by kernel_rfl) rfl (by kernel_rfl) ?_; simp only [List.take_succ_cons, List.take_zero, List.drop_succ_cons, List.drop_zero]
      repeat (apply free_pure rfl; focus (intro vs w hg hd; have q0 := hg.cell c0; (try simp [Region.binds] at hd); simp only [execOp, resolve, Option.map_some, Option.map_none, List.map_toArray, List.map_cons, List.map_nil, rho_const, rho_func]; (repeat (conv in rho _ _ _ _ (Operand.tmp _) => whnf)); (try simp only [hd]); go_simp; (repeat (conv in rho _ _ _ _ (Operand.tmp _) => whnf)); (try simp only [hd]);  rfl))
      refine free_op (fun v_ w_ => Mine w.heap.size w_ v_ x.key) rfl (mine_mono _ _) (fun vs wq hg hd => by
        have hgq := G1.out.trans (Grows.of_drew hg)
        have hcl := clone_any _ x.key wq (HR.out.grows hgq).1 (by have := HS.out; omega)
        (try simp [Region.binds] at hd); simp only [Does]; simp only [execOp, resolve, Option.map_some, Option.map_none, List.map_toArray, List.map_cons, List.map_nil, rho_const, rho_func]; (repeat (conv in rho _ _ _ _ (Operand.tmp _) => whnf)); (try simp only [hd]); go_simp; (repeat (conv in rho _ _ _ _ (Operand.tmp _) => whnf))
        refine hcl.mono ?_
        rintro e w5 ⟨q, rfl, hq, hg5⟩
        exact ⟨_, rfl, hg5, hq.more (Nat.le_trans HB.out.size hgq.size)⟩) ?_
      repeat (apply free_pure rfl; focus (intro vs w hg hd;  (try simp [Region.binds] at hd); simp only [execOp, resolve, Option.map_some, Option.map_none, List.map_toArray, List.map_cons, List.map_nil, rho_const, rho_func]; (repeat (conv in rho _ _ _ _ (Operand.tmp _) => whnf)); (try simp only [hd]); go_simp; (repeat (conv in rho _ _ _ _ (Operand.tmp _) => whnf)); (try simp only [hd]);  rfl))
      refine free_op (fun v_ _ => v_ = .agg (ptA r.ptr)) rfl (dk_mono _) (fun vs wq hg hd => by
        (try simp [Region.binds] at hd)
        refine dk_load 45 (.tmp 16) ⟨wr.heap.size, 1, none⟩ _ rfl ?_ (pt_run_loadK (range_grows HP.out (Grows.of_drew hg))) ⟨Grows.refl _, rfl⟩
        (conv in rho _ _ _ _ (Operand.tmp _) => whnf)
        simp [hd]) ?_
      refine free_op (KidV w.heap.size x) rfl (KidV.mono _ _) (fun vs wq hg hd => by
        simp [Region.binds] at hd
        obtain ⟨hd7, hd12⟩ := hd
        obtain ⟨A3, c3, e3, _, _⟩ := hd7.form
        refine does_build_kid (.tmp 15) (.tmp 17) rfl ⟨A3, x.key.length, c3, r.ptr⟩ ?_ ?_ ⟨Grows.refl _, _, rfl, by rw [e3] at hd7; exact hd7, k3.out⟩
        · (conv in rho _ _ _ _ (Operand.tmp _) => whnf)
          exact e3
        · (conv in rho _ _ _ _ (Operand.tmp _) => whnf)
          exact hd12) ?_
      refine free_op (KidL w.heap.size x) rfl (KidL.mono _ _) (fun vs wq hg hd => by
        simp [Region.binds] at hd
        obtain ⟨rr, e13, h13⟩ := hd
        refine does_slice_kid (.tmp 18) rfl rr ?_ ⟨Grows.alloc _ _, rr, (by rw [World.size_alloc]; exact kd_one _ _), h13.grows (Grows.alloc _ _)⟩
        (conv in rho _ _ _ _ (Operand.tmp _) => whnf)
        exact e13) ?_
      intro vs w' hg hv; have h0 := hv 0 (by omega); simp at h0; have h7 := hv 7 (by omega); simp at h7; simp only [putL, dstAt, List.range, List.range.loop, if_true, List.getElem?_toArray, List.getElem?_cons_zero, List.getElem?_cons_succ, Option.bind_some, Act.put, List.setIfInBounds_toArray, List.set_cons_zero, List.set_cons_succ]
      rw [h0]
      have hgW := Lib.hid (G1.out.trans (Grows.of_drew hg))
      obtain ⟨rr, hE, hK⟩ := h7
      have HE := Lib.hid hE; have HK := Lib.hid hK
      have O5 := Lib.hid (HO.out.grows hgW.out)
      have G5 := Lib.hid (HB.out.trans hgW.out)
      clear hv h0 hg hE hK
      generalize vs 0 = z0, vs 1 = z1, vs 2 = z2, vs 3 = z3, vs 4 = z4, vs 5 = z5, vs 6 = z6, vs 7 = z7 at *
      go_wp2_with (first
        | ((with_reducible refine wpList_append_kds (o := ⟨some 20, _, _, _, _, _⟩) ?_ (.tmp 12) (.tmp 19) ?_ w.heap.size w'.heap.size lk rr x ?_ ?_ ?_ ?_ ?_ ?_); exact rfl; exact rfl; exact O5.out; exact HE.out; exact HK.out; exact HLk.out; exact G5.out.size; intro v6 w6 h6 g6; rw [HT.out] at h6; have O6 := Lib.hid h6; have G6 := Lib.hid (show Grows w w6 from Below.grown G5.out g6 G5.out.size (O5.out.low)); clear h6 g6))
      go_roundw
      case rel => exact ⟨k + 1, by omega, by go_num, O6.out, G6.out⟩
      case measure => simp [intOf]; omega
    · obtain rfl : k = l.length := by omega
      have HTk : Hid (l.take l.length = l) := List.take_length
      rw [HTk.out] at HO
      go_wp2
      go_ret
      exact ⟨_, rfl, HO.out, HB.out⟩
end Go.Proofs.YtjcommodiihcdaaDoor
