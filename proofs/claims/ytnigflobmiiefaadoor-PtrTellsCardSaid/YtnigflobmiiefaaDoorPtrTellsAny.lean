/- PtrTellsAny -/
import Derived.Test.YtnigflobmiiefaaDoorPtWakes
import Derived.Test.YtnigflobmiiefaaDoorPtRef
import Derived.Test.YtnigflobmiiefaaDoorPtrBackAny
/- The law PtrTells as a call. -/
namespace Go.Proofs.YtnigflobmiiefaaDoor
open Go.RowKit
set_option linter.unusedVariables false
set_option linter.unusedSimpArgs false
theorem same5_trueG (u v : Value) (a : List (BitVec 8)) (w : World) (hu : Bytes w.heap.size w u a) (hv : Bytes w.heap.size w v a) :
    Calls Tryd.prog 22 #[u, v] w fun e w' => e = .returned (.bool true) ∧ Grows w w' :=
  (same5_true u v a w hu hv).mono fun e w' ⟨h1, h2⟩ => ⟨h1, h2 ▸ Grows.refl _⟩
theorem ints_true (u v : Value) (a : List Int) (w : World) (hu : Els 1 intE w.heap.size w u a) (hv : Els 1 intE w.heap.size w v a) :
    Calls Tryd.prog 25 #[u, v] w fun e w' => e = .returned (.bool true) ∧ Grows w w' := by
  have h := rints_any u v a a w hu hv
  rw [decide_eq_true rfl] at h
  exact h
theorem put_mono (l : List (BitVec 8)) : ∀ v w w', Bytes (World.heap w).size w v l → Grows w w' → Bytes (World.heap w').size w' v l := fun v w w' h hg => (h.below hg).more hg.size
theorem els_mono (l : List Int) : ∀ v w w', Els 1 intE (World.heap w).size w v l → Grows w w' → Els 1 intE (World.heap w').size w' v l := fun v w w' h hg => h.grows hg
set_option maxHeartbeats 16000000 in
set_option maxRecDepth 20000 in
theorem ptrTells_any (x : Pt) (n : Int) (P : List (BitVec 8)) (a b : Int) (v : Value) (l : List (BitVec 8)) (w : World) (n1 : -9223372036854775808 ≤ n) (n2 : n ≤ 9223372036854775807) (hP : P.length = 256) (a3 : -9223372036854775808 ≤ a) (a4 : a ≤ 9223372036854775807) (a5 : -9223372036854775808 ≤ b) (a6 : b ≤ 9223372036854775807) (hv : Bytes w.heap.size w v l) (hG : Glob w) :
    Calls Tryd.prog 3 #[.agg (ptA x), .int .i64 n, .agg (pageA P), .int .i64 a, .int .i64 b, v] w fun e w' => e = .returned (.bool true) ∧ Below w.heap.size w w' := by
  have HGl := Lib.hid hG
  have HPL := Lib.hid hP
  have HV := Lib.hid hv
  obtain ⟨Av, cv, rfl, v1, v2, _⟩ := hv
  simp only [List.length_map] at v1 HV ⊢
  unfold maxLen at v2
  have HX0 : Hid (Row ((w.alloc (.cells (ptA x) 27)).alloc (.cells (pageA P) 29)) w.heap.size 27 (ptA x)) := (Row.new w 27 (ptA x)).alloc _
  have HP0 : Hid (PRow ((w.alloc (.cells (ptA x) 27)).alloc (.cells (pageA P) 29)) (w.heap.size + 1) P) := by
    have := PRow.new (l := P) (w.alloc (.cells (ptA x) 27)) hP
    rwa [World.size_alloc] at this
  have HG0 : Hid (Grows w ((w.alloc (.cells (ptA x) 27)).alloc (.cells (pageA P) 29))) := Grows.trans (Grows.alloc w (.cells (ptA x) 27)) (Grows.alloc _ (.cells (pageA P) 29))
  clear hG
  by_cases hl : (100 : Int) < l.length
  · go_enter Tryd.func3, Tryd.ntmps3
    go_wp2_with (first
      | (go_at_call 7; (with_reducible refine (wakes5_any _ (HGl.out.grows HG0.out)).mono ?_); rintro e w5 ⟨rfl, g⟩; have HG5 : Hid (Grows w w5) := Grows.trans HG0.out g; clear g))
    go_ret
    exact ⟨rfl, HG5.out⟩
  · have hl100 : l.length ≤ 100 := by omega
    have HL := Lib.hid hl100
    have HNo := Lib.hid (fun W => none_any x W); have HRNo := Lib.hid (fun W => rnone_any x W)
    have HMe := Lib.hid (fun W => node_any x W); have HRMe := Lib.hid (fun W => rnode_any x W)
    have HRi := Lib.hid (fun W => right_any x n W); have HRRi := Lib.hid (fun W => rright_any x n W)
    have HFi := Lib.hid (fun W => fits_any x P hP W); have HRFi := Lib.hid (fun W => rfits_any x P hP W)
    have HSu := Lib.hid (fun W => psum_any P hP W); have HRSu := Lib.hid (fun W => rsumP_any P hP W)
    have HOf := Lib.hid (fun W => of_any x.kind a b x.birth P hP W); have HROf := Lib.hid (fun W => rof_any x.kind a b x.birth P hP W)
    have HTa := Lib.hid (fun W h hg => pttake_any (.slice Av l.length cv) l W h (by omega) hg); have HRTa := Lib.hid (fun W h => rpttake_any (.slice Av l.length cv) l W h (by omega))
    generalize decide (x = PtM.none) = tn at *
    generalize PtM.node x = tm at *
    generalize PtM.right x n = tr at *
    generalize PtM.fits x P = tf at *
    generalize CrcM.sum P = ts at *
    generalize PtM.of x.kind a b x.birth P = X at *
    generalize PtM.takeP l = Y at *
    generalize PtM.takeE l = te at *
    obtain ⟨rest, hrest⟩ : ∃ r, r = PtM.takeR l := ⟨_, rfl⟩
    rw [← hrest] at HTa HRTa
    clear hrest
    have HQX : Hid (∀ W, (Op.equalIn 9999 23 (.agg ((ptA X).extract 1 3)) (.agg ((ptA X).extract 1 3))).run Tryd.prog W = .ok true W) := fun W => by have h := addr2_eq 9997 X.a X.b X.a X.b W; simp only [decide_true, Bool.and_true] at h; exact h
    have HQY : Hid (∀ W, (Op.equalIn 9999 23 (.agg ((ptA Y).extract 1 3)) (.agg ((ptA Y).extract 1 3))).run Tryd.prog W = .ok true W) := fun W => by have h := addr2_eq 9997 Y.a Y.b Y.a Y.b W; simp only [decide_true, Bool.and_true] at h; exact h
    have c0 := (HX0.out.cell 0).trans (ptA_0 x)
    have c3 := (HX0.out.cell 3).trans (ptA_3 x)
    · go_enter Tryd.func3, Tryd.ntmps3
      go_wp2
      refine wp_region_free 56 123 (by kernel_rfl) (by kernel_rfl) rfl (by kernel_rfl) ?_; simp only [List.take_succ_cons, List.take_zero, List.drop_succ_cons, List.drop_zero]
      refine free_op (fun v_ _ => v_ = .agg (ptA x)) rfl (val_mono' _) (fun vs wq hg hd => by
        (try simp [Region.binds] at hd)
        exact dk_load 27 (.tmp 6) ⟨w.heap.size, 0, none⟩ _ rfl (by first | rfl | (conv => lhs; whnf)) (run_load_pt (Row.grows HX0.out (Grows.of_drew hg))) ⟨Grows.refl _, rfl⟩) ?_
      refine free_op (fun v_ _ => v_ = .bool tn) rfl (val_mono' _) (fun vs wq hg hd => by
        (try simp [Region.binds] at hd); simp only [Does]; simp only [execOp, resolve, Option.map_some, Option.map_none, List.map_toArray, List.map_cons, List.map_nil, rho_const, rho_func]; (repeat (conv in rho _ _ _ _ (Operand.tmp _) => whnf)); (try simp only [hd]); go_simp; (repeat (conv in rho _ _ _ _ (Operand.tmp _) => whnf))
        exact HNo.out _) ?_
      refine free_op (fun v_ _ => v_ = .agg (ptA x)) rfl (val_mono' _) (fun vs wq hg hd => by
        (try simp [Region.binds] at hd)
        exact dk_load 27 (.tmp 6) ⟨w.heap.size, 0, none⟩ _ rfl (by first | rfl | (conv => lhs; whnf)) (run_load_pt (Row.grows HX0.out (Grows.of_drew hg))) ⟨Grows.refl _, rfl⟩) ?_
      refine free_op (fun v_ _ => v_ = .bool tn) rfl (val_mono' _) (fun vs wq hg hd => by
        (try simp [Region.binds] at hd); simp only [Does]; simp only [execOp, resolve, Option.map_some, Option.map_none, List.map_toArray, List.map_cons, List.map_nil, rho_const, rho_func]; (repeat (conv in rho _ _ _ _ (Operand.tmp _) => whnf)); (try simp only [hd]); go_simp; (repeat (conv in rho _ _ _ _ (Operand.tmp _) => whnf))
        exact HRNo.out _) ?_
      refine free_op (fun v_ _ => v_ = .bool false) rfl (val_mono' _) (fun vs wq hg hd => by
        (try simp [Region.binds] at hd); simp only [Does]; simp only [execOp, resolve, Option.map_some, Option.map_none, List.map_toArray, List.map_cons, List.map_nil, rho_const, rho_func]; (repeat (conv in rho _ _ _ _ (Operand.tmp _) => whnf)); (try simp only [hd]); go_simp; (repeat (conv in rho _ _ _ _ (Operand.tmp _) => whnf))
        (first | exact Grows.refl _ | (simp; exact Grows.refl _) | exact ⟨Grows.refl _, by simp⟩)) ?_
      iterate 1 (apply free_pure rfl; focus (intro vs w hg hd;  (try simp [Region.binds] at hd); simp only [execOp, resolve, Option.map_some, Option.map_none, List.map_toArray, List.map_cons, List.map_nil, rho_const, rho_func]; (repeat (conv in rho _ _ _ _ (Operand.tmp _) => whnf)); (try simp only [hd]); go_simp; (repeat (conv in rho _ _ _ _ (Operand.tmp _) => whnf)); (try simp only [hd]);  rfl))
      refine free_guarded (fun v_ _ => v_ = .agg (ptA x)) (val_mono' _) (fun vs wq hg hd => by
        (try simp [Region.binds] at hd)
        refine ⟨?_, ?_⟩
        · (first | (simp [Region.wanted, yieldR]; (repeat (conv in rho _ _ _ _ (Operand.tmp _) => whnf)); simp [hd]; done) | (simp [Region.wanted, yieldR]; (repeat (conv in rho _ _ _ _ (Operand.tmp _) => whnf)); (try simp [hd]); simp [*]))
        · exact dk_load 27 (.tmp 6) ⟨w.heap.size, 0, none⟩ _ rfl (by first | rfl | (conv => lhs; whnf)) (run_load_pt (Row.grows HX0.out (Grows.of_drew hg))) ⟨Grows.refl _, rfl⟩) ?_
      refine free_guarded (fun v_ _ => v_ = .bool tm) (val_mono' _) (fun vs wq hg hd => by
        (try simp [Region.binds] at hd)
        refine ⟨?_, ?_⟩
        · (first | (simp [Region.wanted, yieldR]; (repeat (conv in rho _ _ _ _ (Operand.tmp _) => whnf)); simp [hd]; done) | (simp [Region.wanted, yieldR]; (repeat (conv in rho _ _ _ _ (Operand.tmp _) => whnf)); (try simp [hd]); simp [*]))
        · simp only [Does]
          simp only [execOp, resolve, Option.map_some, Option.map_none, List.map_toArray, List.map_cons, List.map_nil, rho_const, rho_func]
          (repeat (conv in rho _ _ _ _ (Operand.tmp _) => whnf))
          (try simp only [hd])
          go_simp
          (repeat (conv in rho _ _ _ _ (Operand.tmp _) => whnf))
          exact HMe.out _) ?_
      refine free_guarded (fun v_ _ => v_ = .agg (ptA x)) (val_mono' _) (fun vs wq hg hd => by
        (try simp [Region.binds] at hd)
        refine ⟨?_, ?_⟩
        · (first | (simp [Region.wanted, yieldR]; (repeat (conv in rho _ _ _ _ (Operand.tmp _) => whnf)); simp [hd]; done) | (simp [Region.wanted, yieldR]; (repeat (conv in rho _ _ _ _ (Operand.tmp _) => whnf)); (try simp [hd]); simp [*]))
        · exact dk_load 27 (.tmp 6) ⟨w.heap.size, 0, none⟩ _ rfl (by first | rfl | (conv => lhs; whnf)) (run_load_pt (Row.grows HX0.out (Grows.of_drew hg))) ⟨Grows.refl _, rfl⟩) ?_
      refine free_guarded (fun v_ _ => v_ = .bool tm) (val_mono' _) (fun vs wq hg hd => by
        (try simp [Region.binds] at hd)
        refine ⟨?_, ?_⟩
        · (first | (simp [Region.wanted, yieldR]; (repeat (conv in rho _ _ _ _ (Operand.tmp _) => whnf)); simp [hd]; done) | (simp [Region.wanted, yieldR]; (repeat (conv in rho _ _ _ _ (Operand.tmp _) => whnf)); (try simp [hd]); simp [*]))
        · simp only [Does]
          simp only [execOp, resolve, Option.map_some, Option.map_none, List.map_toArray, List.map_cons, List.map_nil, rho_const, rho_func]
          (repeat (conv in rho _ _ _ _ (Operand.tmp _) => whnf))
          (try simp only [hd])
          go_simp
          (repeat (conv in rho _ _ _ _ (Operand.tmp _) => whnf))
          exact HRMe.out _) ?_
      refine free_guarded (fun v_ _ => v_ = .bool false) (val_mono' _) (fun vs wq hg hd => by
        (try simp [Region.binds] at hd)
        refine ⟨?_, ?_⟩
        · (first | (simp [Region.wanted, yieldR]; (repeat (conv in rho _ _ _ _ (Operand.tmp _) => whnf)); simp [hd]; done) | (simp [Region.wanted, yieldR]; (repeat (conv in rho _ _ _ _ (Operand.tmp _) => whnf)); (try simp [hd]); simp [*]))
        · simp only [Does]
          simp only [execOp, resolve, Option.map_some, Option.map_none, List.map_toArray, List.map_cons, List.map_nil, rho_const, rho_func]
          (repeat (conv in rho _ _ _ _ (Operand.tmp _) => whnf))
          (try simp only [hd])
          go_simp
          (repeat (conv in rho _ _ _ _ (Operand.tmp _) => whnf))
          (first | exact Grows.refl _ | (simp; exact Grows.refl _) | exact ⟨Grows.refl _, by simp⟩)) ?_
      iterate 2 (first | (apply free_pure rfl; focus (intro vs w hg hd;  (try simp [Region.binds] at hd); simp only [execOp, resolve, Option.map_some, Option.map_none, List.map_toArray, List.map_cons, List.map_nil, rho_const, rho_func]; (repeat (conv in rho _ _ _ _ (Operand.tmp _) => whnf)); (try simp only [hd]); go_simp; (repeat (conv in rho _ _ _ _ (Operand.tmp _) => whnf)); (try simp only [hd]);  rfl)) | (apply free_gpure; (focus (intro vs w hg hd; (try simp [Region.binds] at hd); (first | (simp [Region.wanted, yieldR]; (repeat (conv in rho _ _ _ _ (Operand.tmp _) => whnf)); simp [hd]; done) | (simp [Region.wanted, yieldR]; (repeat (conv in rho _ _ _ _ (Operand.tmp _) => whnf)); (try simp [hd]); simp [*])))); focus (intro vs w hg hd;  (try simp [Region.binds] at hd); simp only [execOp, resolve, Option.map_some, Option.map_none, List.map_toArray, List.map_cons, List.map_nil, rho_const, rho_func]; (repeat (conv in rho _ _ _ _ (Operand.tmp _) => whnf)); (try simp only [hd]); go_simp; (repeat (conv in rho _ _ _ _ (Operand.tmp _) => whnf)); (try simp only [hd]);  rfl)))
      refine free_guarded (fun v_ _ => v_ = .agg (ptA x)) (val_mono' _) (fun vs wq hg hd => by
        (try simp [Region.binds] at hd)
        refine ⟨?_, ?_⟩
        · (first | (simp [Region.wanted, yieldR]; (repeat (conv in rho _ _ _ _ (Operand.tmp _) => whnf)); simp [hd]; done) | (simp [Region.wanted, yieldR]; (repeat (conv in rho _ _ _ _ (Operand.tmp _) => whnf)); (try simp [hd]); simp [*]))
        · exact dk_load 27 (.tmp 6) ⟨w.heap.size, 0, none⟩ _ rfl (by first | rfl | (conv => lhs; whnf)) (run_load_pt (Row.grows HX0.out (Grows.of_drew hg))) ⟨Grows.refl _, rfl⟩) ?_
      iterate 1 (first | (apply free_pure rfl; focus (intro vs w hg hd;  (try simp [Region.binds] at hd); simp only [execOp, resolve, Option.map_some, Option.map_none, List.map_toArray, List.map_cons, List.map_nil, rho_const, rho_func]; (repeat (conv in rho _ _ _ _ (Operand.tmp _) => whnf)); (try simp only [hd]); go_simp; (repeat (conv in rho _ _ _ _ (Operand.tmp _) => whnf)); (try simp only [hd]);  rfl)) | (apply free_gpure; (focus (intro vs w hg hd; (try simp [Region.binds] at hd); (first | (simp [Region.wanted, yieldR]; (repeat (conv in rho _ _ _ _ (Operand.tmp _) => whnf)); simp [hd]; done) | (simp [Region.wanted, yieldR]; (repeat (conv in rho _ _ _ _ (Operand.tmp _) => whnf)); (try simp [hd]); simp [*])))); focus (intro vs w hg hd;  (try simp [Region.binds] at hd); simp only [execOp, resolve, Option.map_some, Option.map_none, List.map_toArray, List.map_cons, List.map_nil, rho_const, rho_func]; (repeat (conv in rho _ _ _ _ (Operand.tmp _) => whnf)); (try simp only [hd]); go_simp; (repeat (conv in rho _ _ _ _ (Operand.tmp _) => whnf)); (try simp only [hd]);  rfl)))
      refine free_guarded (fun v_ _ => v_ = .bool tr) (val_mono' _) (fun vs wq hg hd => by
        (try simp [Region.binds] at hd)
        refine ⟨?_, ?_⟩
        · (first | (simp [Region.wanted, yieldR]; (repeat (conv in rho _ _ _ _ (Operand.tmp _) => whnf)); simp [hd]; done) | (simp [Region.wanted, yieldR]; (repeat (conv in rho _ _ _ _ (Operand.tmp _) => whnf)); (try simp [hd]); simp [*]))
        · simp only [Does]
          simp only [execOp, resolve, Option.map_some, Option.map_none, List.map_toArray, List.map_cons, List.map_nil, rho_const, rho_func]
          (repeat (conv in rho _ _ _ _ (Operand.tmp _) => whnf))
          (try simp only [hd])
          go_simp
          (repeat (conv in rho _ _ _ _ (Operand.tmp _) => whnf))
          exact HRi.out _) ?_
      refine free_guarded (fun v_ _ => v_ = .agg (ptA x)) (val_mono' _) (fun vs wq hg hd => by
        (try simp [Region.binds] at hd)
        refine ⟨?_, ?_⟩
        · (first | (simp [Region.wanted, yieldR]; (repeat (conv in rho _ _ _ _ (Operand.tmp _) => whnf)); simp [hd]; done) | (simp [Region.wanted, yieldR]; (repeat (conv in rho _ _ _ _ (Operand.tmp _) => whnf)); (try simp [hd]); simp [*]))
        · exact dk_load 27 (.tmp 6) ⟨w.heap.size, 0, none⟩ _ rfl (by first | rfl | (conv => lhs; whnf)) (run_load_pt (Row.grows HX0.out (Grows.of_drew hg))) ⟨Grows.refl _, rfl⟩) ?_
      iterate 1 (first | (apply free_pure rfl; focus (intro vs w hg hd;  (try simp [Region.binds] at hd); simp only [execOp, resolve, Option.map_some, Option.map_none, List.map_toArray, List.map_cons, List.map_nil, rho_const, rho_func]; (repeat (conv in rho _ _ _ _ (Operand.tmp _) => whnf)); (try simp only [hd]); go_simp; (repeat (conv in rho _ _ _ _ (Operand.tmp _) => whnf)); (try simp only [hd]);  rfl)) | (apply free_gpure; (focus (intro vs w hg hd; (try simp [Region.binds] at hd); (first | (simp [Region.wanted, yieldR]; (repeat (conv in rho _ _ _ _ (Operand.tmp _) => whnf)); simp [hd]; done) | (simp [Region.wanted, yieldR]; (repeat (conv in rho _ _ _ _ (Operand.tmp _) => whnf)); (try simp [hd]); simp [*])))); focus (intro vs w hg hd;  (try simp [Region.binds] at hd); simp only [execOp, resolve, Option.map_some, Option.map_none, List.map_toArray, List.map_cons, List.map_nil, rho_const, rho_func]; (repeat (conv in rho _ _ _ _ (Operand.tmp _) => whnf)); (try simp only [hd]); go_simp; (repeat (conv in rho _ _ _ _ (Operand.tmp _) => whnf)); (try simp only [hd]);  rfl)))
      refine free_guarded (fun v_ _ => v_ = .bool tr) (val_mono' _) (fun vs wq hg hd => by
        (try simp [Region.binds] at hd)
        refine ⟨?_, ?_⟩
        · (first | (simp [Region.wanted, yieldR]; (repeat (conv in rho _ _ _ _ (Operand.tmp _) => whnf)); simp [hd]; done) | (simp [Region.wanted, yieldR]; (repeat (conv in rho _ _ _ _ (Operand.tmp _) => whnf)); (try simp [hd]); simp [*]))
        · simp only [Does]
          simp only [execOp, resolve, Option.map_some, Option.map_none, List.map_toArray, List.map_cons, List.map_nil, rho_const, rho_func]
          (repeat (conv in rho _ _ _ _ (Operand.tmp _) => whnf))
          (try simp only [hd])
          go_simp
          (repeat (conv in rho _ _ _ _ (Operand.tmp _) => whnf))
          exact HRRi.out _) ?_
      refine free_guarded (fun v_ _ => v_ = .bool false) (val_mono' _) (fun vs wq hg hd => by
        (try simp [Region.binds] at hd)
        refine ⟨?_, ?_⟩
        · (first | (simp [Region.wanted, yieldR]; (repeat (conv in rho _ _ _ _ (Operand.tmp _) => whnf)); simp [hd]; done) | (simp [Region.wanted, yieldR]; (repeat (conv in rho _ _ _ _ (Operand.tmp _) => whnf)); (try simp [hd]); simp [*]))
        · simp only [Does]
          simp only [execOp, resolve, Option.map_some, Option.map_none, List.map_toArray, List.map_cons, List.map_nil, rho_const, rho_func]
          (repeat (conv in rho _ _ _ _ (Operand.tmp _) => whnf))
          (try simp only [hd])
          go_simp
          (repeat (conv in rho _ _ _ _ (Operand.tmp _) => whnf))
          (first | exact Grows.refl _ | (simp; exact Grows.refl _) | exact ⟨Grows.refl _, by simp⟩)) ?_
      iterate 2 (first | (apply free_pure rfl; focus (intro vs w hg hd;  (try simp [Region.binds] at hd); simp only [execOp, resolve, Option.map_some, Option.map_none, List.map_toArray, List.map_cons, List.map_nil, rho_const, rho_func]; (repeat (conv in rho _ _ _ _ (Operand.tmp _) => whnf)); (try simp only [hd]); go_simp; (repeat (conv in rho _ _ _ _ (Operand.tmp _) => whnf)); (try simp only [hd]);  rfl)) | (apply free_gpure; (focus (intro vs w hg hd; (try simp [Region.binds] at hd); (first | (simp [Region.wanted, yieldR]; (repeat (conv in rho _ _ _ _ (Operand.tmp _) => whnf)); simp [hd]; done) | (simp [Region.wanted, yieldR]; (repeat (conv in rho _ _ _ _ (Operand.tmp _) => whnf)); (try simp [hd]); simp [*])))); focus (intro vs w hg hd;  (try simp [Region.binds] at hd); simp only [execOp, resolve, Option.map_some, Option.map_none, List.map_toArray, List.map_cons, List.map_nil, rho_const, rho_func]; (repeat (conv in rho _ _ _ _ (Operand.tmp _) => whnf)); (try simp only [hd]); go_simp; (repeat (conv in rho _ _ _ _ (Operand.tmp _) => whnf)); (try simp only [hd]);  rfl)))
      refine free_guarded (fun v_ _ => v_ = .agg (ptA x)) (val_mono' _) (fun vs wq hg hd => by
        (try simp [Region.binds] at hd)
        refine ⟨?_, ?_⟩
        · (first | (simp [Region.wanted, yieldR]; (repeat (conv in rho _ _ _ _ (Operand.tmp _) => whnf)); simp [hd]; done) | (simp [Region.wanted, yieldR]; (repeat (conv in rho _ _ _ _ (Operand.tmp _) => whnf)); (try simp [hd]); simp [*]))
        · exact dk_load 27 (.tmp 6) ⟨w.heap.size, 0, none⟩ _ rfl (by first | rfl | (conv => lhs; whnf)) (run_load_pt (Row.grows HX0.out (Grows.of_drew hg))) ⟨Grows.refl _, rfl⟩) ?_
      refine free_guarded (fun v_ _ => v_ = .agg (pageA P)) (val_mono' _) (fun vs wq hg hd => by
        (try simp [Region.binds] at hd)
        refine ⟨?_, ?_⟩
        · (first | (simp [Region.wanted, yieldR]; (repeat (conv in rho _ _ _ _ (Operand.tmp _) => whnf)); simp [hd]; done) | (simp [Region.wanted, yieldR]; (repeat (conv in rho _ _ _ _ (Operand.tmp _) => whnf)); (try simp [hd]); simp [*]))
        · exact dk_load 29 (.tmp 8) ⟨(w.heap.size + 1), 0, none⟩ _ rfl (by first | rfl | (conv => lhs; whnf)) (run_load_page (HP0.out.grows (Grows.of_drew hg))) ⟨Grows.refl _, rfl⟩) ?_
      refine free_guarded (fun v_ _ => v_ = .bool tf) (val_mono' _) (fun vs wq hg hd => by
        (try simp [Region.binds] at hd)
        refine ⟨?_, ?_⟩
        · (first | (simp [Region.wanted, yieldR]; (repeat (conv in rho _ _ _ _ (Operand.tmp _) => whnf)); simp [hd]; done) | (simp [Region.wanted, yieldR]; (repeat (conv in rho _ _ _ _ (Operand.tmp _) => whnf)); (try simp [hd]); simp [*]))
        · simp only [Does]
          simp only [execOp, resolve, Option.map_some, Option.map_none, List.map_toArray, List.map_cons, List.map_nil, rho_const, rho_func]
          (repeat (conv in rho _ _ _ _ (Operand.tmp _) => whnf))
          (try simp only [hd])
          go_simp
          (repeat (conv in rho _ _ _ _ (Operand.tmp _) => whnf))
          exact HFi.out _) ?_
      refine free_guarded (fun v_ _ => v_ = .agg (ptA x)) (val_mono' _) (fun vs wq hg hd => by
        (try simp [Region.binds] at hd)
        refine ⟨?_, ?_⟩
        · (first | (simp [Region.wanted, yieldR]; (repeat (conv in rho _ _ _ _ (Operand.tmp _) => whnf)); simp [hd]; done) | (simp [Region.wanted, yieldR]; (repeat (conv in rho _ _ _ _ (Operand.tmp _) => whnf)); (try simp [hd]); simp [*]))
        · exact dk_load 27 (.tmp 6) ⟨w.heap.size, 0, none⟩ _ rfl (by first | rfl | (conv => lhs; whnf)) (run_load_pt (Row.grows HX0.out (Grows.of_drew hg))) ⟨Grows.refl _, rfl⟩) ?_
      refine free_guarded (fun v_ _ => v_ = .agg (pageA P)) (val_mono' _) (fun vs wq hg hd => by
        (try simp [Region.binds] at hd)
        refine ⟨?_, ?_⟩
        · (first | (simp [Region.wanted, yieldR]; (repeat (conv in rho _ _ _ _ (Operand.tmp _) => whnf)); simp [hd]; done) | (simp [Region.wanted, yieldR]; (repeat (conv in rho _ _ _ _ (Operand.tmp _) => whnf)); (try simp [hd]); simp [*]))
        · exact dk_load 29 (.tmp 8) ⟨(w.heap.size + 1), 0, none⟩ _ rfl (by first | rfl | (conv => lhs; whnf)) (run_load_page (HP0.out.grows (Grows.of_drew hg))) ⟨Grows.refl _, rfl⟩) ?_
      refine free_guarded (fun v_ _ => v_ = .bool tf) (val_mono' _) (fun vs wq hg hd => by
        (try simp [Region.binds] at hd)
        refine ⟨?_, ?_⟩
        · (first | (simp [Region.wanted, yieldR]; (repeat (conv in rho _ _ _ _ (Operand.tmp _) => whnf)); simp [hd]; done) | (simp [Region.wanted, yieldR]; (repeat (conv in rho _ _ _ _ (Operand.tmp _) => whnf)); (try simp [hd]); simp [*]))
        · simp only [Does]
          simp only [execOp, resolve, Option.map_some, Option.map_none, List.map_toArray, List.map_cons, List.map_nil, rho_const, rho_func]
          (repeat (conv in rho _ _ _ _ (Operand.tmp _) => whnf))
          (try simp only [hd])
          go_simp
          (repeat (conv in rho _ _ _ _ (Operand.tmp _) => whnf))
          exact HRFi.out _) ?_
      refine free_guarded (fun v_ _ => v_ = .bool false) (val_mono' _) (fun vs wq hg hd => by
        (try simp [Region.binds] at hd)
        refine ⟨?_, ?_⟩
        · (first | (simp [Region.wanted, yieldR]; (repeat (conv in rho _ _ _ _ (Operand.tmp _) => whnf)); simp [hd]; done) | (simp [Region.wanted, yieldR]; (repeat (conv in rho _ _ _ _ (Operand.tmp _) => whnf)); (try simp [hd]); simp [*]))
        · simp only [Does]
          simp only [execOp, resolve, Option.map_some, Option.map_none, List.map_toArray, List.map_cons, List.map_nil, rho_const, rho_func]
          (repeat (conv in rho _ _ _ _ (Operand.tmp _) => whnf))
          (try simp only [hd])
          go_simp
          (repeat (conv in rho _ _ _ _ (Operand.tmp _) => whnf))
          (first | exact Grows.refl _ | (simp; exact Grows.refl _) | exact ⟨Grows.refl _, by simp⟩)) ?_
      iterate 2 (first | (apply free_pure rfl; focus (intro vs w hg hd;  (try simp [Region.binds] at hd); simp only [execOp, resolve, Option.map_some, Option.map_none, List.map_toArray, List.map_cons, List.map_nil, rho_const, rho_func]; (repeat (conv in rho _ _ _ _ (Operand.tmp _) => whnf)); (try simp only [hd]); go_simp; (repeat (conv in rho _ _ _ _ (Operand.tmp _) => whnf)); (try simp only [hd]);  rfl)) | (apply free_gpure; (focus (intro vs w hg hd; (try simp [Region.binds] at hd); (first | (simp [Region.wanted, yieldR]; (repeat (conv in rho _ _ _ _ (Operand.tmp _) => whnf)); simp [hd]; done) | (simp [Region.wanted, yieldR]; (repeat (conv in rho _ _ _ _ (Operand.tmp _) => whnf)); (try simp [hd]); simp [*])))); focus (intro vs w hg hd;  (try simp [Region.binds] at hd); simp only [execOp, resolve, Option.map_some, Option.map_none, List.map_toArray, List.map_cons, List.map_nil, rho_const, rho_func]; (repeat (conv in rho _ _ _ _ (Operand.tmp _) => whnf)); (try simp only [hd]); go_simp; (repeat (conv in rho _ _ _ _ (Operand.tmp _) => whnf)); (try simp only [hd]);  rfl)))
      refine free_guarded (fun v_ _ => v_ = .agg (pageA P)) (val_mono' _) (fun vs wq hg hd => by
        (try simp [Region.binds] at hd)
        refine ⟨?_, ?_⟩
        · (first | (simp [Region.wanted, yieldR]; (repeat (conv in rho _ _ _ _ (Operand.tmp _) => whnf)); simp [hd]; done) | (simp [Region.wanted, yieldR]; (repeat (conv in rho _ _ _ _ (Operand.tmp _) => whnf)); (try simp [hd]); simp [*]))
        · exact dk_load 29 (.tmp 8) ⟨(w.heap.size + 1), 0, none⟩ _ rfl (by first | rfl | (conv => lhs; whnf)) (run_load_page (HP0.out.grows (Grows.of_drew hg))) ⟨Grows.refl _, rfl⟩) ?_
      refine free_guarded (fun v_ _ => v_ = .int .u64 (uI ts)) (val_mono' _) (fun vs wq hg hd => by
        (try simp [Region.binds] at hd)
        refine ⟨?_, ?_⟩
        · (first | (simp [Region.wanted, yieldR]; (repeat (conv in rho _ _ _ _ (Operand.tmp _) => whnf)); simp [hd]; done) | (simp [Region.wanted, yieldR]; (repeat (conv in rho _ _ _ _ (Operand.tmp _) => whnf)); (try simp [hd]); simp [*]))
        · simp only [Does]
          simp only [execOp, resolve, Option.map_some, Option.map_none, List.map_toArray, List.map_cons, List.map_nil, rho_const, rho_func]
          (repeat (conv in rho _ _ _ _ (Operand.tmp _) => whnf))
          (try simp only [hd])
          go_simp
          (repeat (conv in rho _ _ _ _ (Operand.tmp _) => whnf))
          exact HSu.out _) ?_
      refine free_guarded (fun v_ _ => v_ = .agg (pageA P)) (val_mono' _) (fun vs wq hg hd => by
        (try simp [Region.binds] at hd)
        refine ⟨?_, ?_⟩
        · (first | (simp [Region.wanted, yieldR]; (repeat (conv in rho _ _ _ _ (Operand.tmp _) => whnf)); simp [hd]; done) | (simp [Region.wanted, yieldR]; (repeat (conv in rho _ _ _ _ (Operand.tmp _) => whnf)); (try simp [hd]); simp [*]))
        · exact dk_load 29 (.tmp 8) ⟨(w.heap.size + 1), 0, none⟩ _ rfl (by first | rfl | (conv => lhs; whnf)) (run_load_page (HP0.out.grows (Grows.of_drew hg))) ⟨Grows.refl _, rfl⟩) ?_
      refine free_guarded (fun v_ _ => v_ = .int .u64 (uI ts)) (val_mono' _) (fun vs wq hg hd => by
        (try simp [Region.binds] at hd)
        refine ⟨?_, ?_⟩
        · (first | (simp [Region.wanted, yieldR]; (repeat (conv in rho _ _ _ _ (Operand.tmp _) => whnf)); simp [hd]; done) | (simp [Region.wanted, yieldR]; (repeat (conv in rho _ _ _ _ (Operand.tmp _) => whnf)); (try simp [hd]); simp [*]))
        · simp only [Does]
          simp only [execOp, resolve, Option.map_some, Option.map_none, List.map_toArray, List.map_cons, List.map_nil, rho_const, rho_func]
          (repeat (conv in rho _ _ _ _ (Operand.tmp _) => whnf))
          (try simp only [hd])
          go_simp
          (repeat (conv in rho _ _ _ _ (Operand.tmp _) => whnf))
          exact HRSu.out _) ?_
      refine free_guarded (fun v_ _ => v_ = .bool false) (val_mono' _) (fun vs wq hg hd => by
        (try simp [Region.binds] at hd)
        refine ⟨?_, ?_⟩
        · (first | (simp [Region.wanted, yieldR]; (repeat (conv in rho _ _ _ _ (Operand.tmp _) => whnf)); simp [hd]; done) | (simp [Region.wanted, yieldR]; (repeat (conv in rho _ _ _ _ (Operand.tmp _) => whnf)); (try simp [hd]); simp [*]))
        · simp only [Does]
          simp only [execOp, resolve, Option.map_some, Option.map_none, List.map_toArray, List.map_cons, List.map_nil, rho_const, rho_func]
          (repeat (conv in rho _ _ _ _ (Operand.tmp _) => whnf))
          (try simp only [hd])
          go_simp
          (repeat (conv in rho _ _ _ _ (Operand.tmp _) => whnf))
          (first | exact Grows.refl _ | (simp; exact Grows.refl _) | exact ⟨Grows.refl _, by simp⟩)) ?_
      iterate 2 (first | (apply free_pure rfl; focus (intro vs w hg hd;  (try simp [Region.binds] at hd); simp only [execOp, resolve, Option.map_some, Option.map_none, List.map_toArray, List.map_cons, List.map_nil, rho_const, rho_func]; (repeat (conv in rho _ _ _ _ (Operand.tmp _) => whnf)); (try simp only [hd]); go_simp; (repeat (conv in rho _ _ _ _ (Operand.tmp _) => whnf)); (try simp only [hd]);  rfl)) | (apply free_gpure; (focus (intro vs w hg hd; (try simp [Region.binds] at hd); (first | (simp [Region.wanted, yieldR]; (repeat (conv in rho _ _ _ _ (Operand.tmp _) => whnf)); simp [hd]; done) | (simp [Region.wanted, yieldR]; (repeat (conv in rho _ _ _ _ (Operand.tmp _) => whnf)); (try simp [hd]); simp [*])))); focus (intro vs w hg hd;  (try simp [Region.binds] at hd); simp only [execOp, resolve, Option.map_some, Option.map_none, List.map_toArray, List.map_cons, List.map_nil, rho_const, rho_func]; (repeat (conv in rho _ _ _ _ (Operand.tmp _) => whnf)); (try simp only [hd]); go_simp; (repeat (conv in rho _ _ _ _ (Operand.tmp _) => whnf)); (try simp only [hd]);  rfl)))
      iterate 6 (first | (apply free_pure rfl; focus (intro vs w hg hd; have q0 := hg.cell c0; have q1 := hg.cell c3; (try simp [Region.binds] at hd); simp only [execOp, resolve, Option.map_some, Option.map_none, List.map_toArray, List.map_cons, List.map_nil, rho_const, rho_func]; (repeat (conv in rho _ _ _ _ (Operand.tmp _) => whnf)); (try simp only [hd]); go_simp; (repeat (conv in rho _ _ _ _ (Operand.tmp _) => whnf)); (try simp only [hd]);  rfl)) | (apply free_gpure; (focus (intro vs w hg hd; (try simp [Region.binds] at hd); (first | (simp [Region.wanted, yieldR]; (repeat (conv in rho _ _ _ _ (Operand.tmp _) => whnf)); simp [hd]; done) | (simp [Region.wanted, yieldR]; (repeat (conv in rho _ _ _ _ (Operand.tmp _) => whnf)); (try simp [hd]); simp [*])))); focus (intro vs w hg hd; have q0 := hg.cell c0; have q1 := hg.cell c3; (try simp [Region.binds] at hd); simp only [execOp, resolve, Option.map_some, Option.map_none, List.map_toArray, List.map_cons, List.map_nil, rho_const, rho_func]; (repeat (conv in rho _ _ _ _ (Operand.tmp _) => whnf)); (try simp only [hd]); go_simp; (repeat (conv in rho _ _ _ _ (Operand.tmp _) => whnf)); (try simp only [hd]);  rfl)))
      refine free_guarded (fun v_ _ => v_ = .agg (pageA P)) (val_mono' _) (fun vs wq hg hd => by
        (try simp [Region.binds] at hd)
        refine ⟨?_, ?_⟩
        · (first | (simp [Region.wanted, yieldR]; (repeat (conv in rho _ _ _ _ (Operand.tmp _) => whnf)); simp [hd]; done) | (simp [Region.wanted, yieldR]; (repeat (conv in rho _ _ _ _ (Operand.tmp _) => whnf)); (try simp [hd]); simp [*]))
        · exact dk_load 29 (.tmp 8) ⟨(w.heap.size + 1), 0, none⟩ _ rfl (by first | rfl | (conv => lhs; whnf)) (run_load_page (HP0.out.grows (Grows.of_drew hg))) ⟨Grows.refl _, rfl⟩) ?_
      refine free_guarded (fun v_ _ => v_ = .agg (ptA X)) (val_mono' _) (fun vs wq hg hd => by
        (try simp [Region.binds] at hd)
        refine ⟨?_, ?_⟩
        · (first | (simp [Region.wanted, yieldR]; (repeat (conv in rho _ _ _ _ (Operand.tmp _) => whnf)); simp [hd]; done) | (simp [Region.wanted, yieldR]; (repeat (conv in rho _ _ _ _ (Operand.tmp _) => whnf)); (try simp [hd]); simp [*]))
        · simp only [Does]
          simp only [execOp, resolve, Option.map_some, Option.map_none, List.map_toArray, List.map_cons, List.map_nil, rho_const, rho_func]
          (repeat (conv in rho _ _ _ _ (Operand.tmp _) => whnf))
          (try simp only [hd])
          go_simp
          (repeat (conv in rho _ _ _ _ (Operand.tmp _) => whnf))
          exact HOf.out _) ?_
      iterate 6 (first | (apply free_pure rfl; focus (intro vs w hg hd; have q0 := hg.cell c0; have q1 := hg.cell c3; (try simp [Region.binds] at hd); simp only [execOp, resolve, Option.map_some, Option.map_none, List.map_toArray, List.map_cons, List.map_nil, rho_const, rho_func]; (repeat (conv in rho _ _ _ _ (Operand.tmp _) => whnf)); (try simp only [hd]); go_simp; (repeat (conv in rho _ _ _ _ (Operand.tmp _) => whnf)); (try simp only [hd]);  rfl)) | (apply free_gpure; (focus (intro vs w hg hd; (try simp [Region.binds] at hd); (first | (simp [Region.wanted, yieldR]; (repeat (conv in rho _ _ _ _ (Operand.tmp _) => whnf)); simp [hd]; done) | (simp [Region.wanted, yieldR]; (repeat (conv in rho _ _ _ _ (Operand.tmp _) => whnf)); (try simp [hd]); simp [*])))); focus (intro vs w hg hd; have q0 := hg.cell c0; have q1 := hg.cell c3; (try simp [Region.binds] at hd); simp only [execOp, resolve, Option.map_some, Option.map_none, List.map_toArray, List.map_cons, List.map_nil, rho_const, rho_func]; (repeat (conv in rho _ _ _ _ (Operand.tmp _) => whnf)); (try simp only [hd]); go_simp; (repeat (conv in rho _ _ _ _ (Operand.tmp _) => whnf)); (try simp only [hd]);  rfl)))
      refine free_guarded (fun v_ _ => v_ = .agg (pageA P)) (val_mono' _) (fun vs wq hg hd => by
        (try simp [Region.binds] at hd)
        refine ⟨?_, ?_⟩
        · (first | (simp [Region.wanted, yieldR]; (repeat (conv in rho _ _ _ _ (Operand.tmp _) => whnf)); simp [hd]; done) | (simp [Region.wanted, yieldR]; (repeat (conv in rho _ _ _ _ (Operand.tmp _) => whnf)); (try simp [hd]); simp [*]))
        · exact dk_load 29 (.tmp 8) ⟨(w.heap.size + 1), 0, none⟩ _ rfl (by first | rfl | (conv => lhs; whnf)) (run_load_page (HP0.out.grows (Grows.of_drew hg))) ⟨Grows.refl _, rfl⟩) ?_
      refine free_guarded (fun v_ _ => v_ = .agg (ptA X)) (val_mono' _) (fun vs wq hg hd => by
        (try simp [Region.binds] at hd)
        refine ⟨?_, ?_⟩
        · (first | (simp [Region.wanted, yieldR]; (repeat (conv in rho _ _ _ _ (Operand.tmp _) => whnf)); simp [hd]; done) | (simp [Region.wanted, yieldR]; (repeat (conv in rho _ _ _ _ (Operand.tmp _) => whnf)); (try simp [hd]); simp [*]))
        · simp only [Does]
          simp only [execOp, resolve, Option.map_some, Option.map_none, List.map_toArray, List.map_cons, List.map_nil, rho_const, rho_func]
          (repeat (conv in rho _ _ _ _ (Operand.tmp _) => whnf))
          (try simp only [hd])
          go_simp
          (repeat (conv in rho _ _ _ _ (Operand.tmp _) => whnf))
          exact HROf.out _) ?_
      refine free_guarded (fun v_ _ => v_ = .bool false) (val_mono' _) (fun vs wq hg hd => by
        (try simp [Region.binds] at hd)
        refine ⟨?_, ?_⟩
        · (first | (simp [Region.wanted, yieldR]; (repeat (conv in rho _ _ _ _ (Operand.tmp _) => whnf)); simp [hd]; done) | (simp [Region.wanted, yieldR]; (repeat (conv in rho _ _ _ _ (Operand.tmp _) => whnf)); (try simp [hd]); simp [*]))
        · have heq := HQX.out wq
          simp only [Does]
          simp only [execOp, resolve, Option.map_some, Option.map_none, List.map_toArray, List.map_cons, List.map_nil, rho_const, rho_func]
          (repeat (conv in rho _ _ _ _ (Operand.tmp _) => whnf))
          (try simp only [hd])
          go_simp
          (repeat (conv in rho _ _ _ _ (Operand.tmp _) => whnf))
          exact Grows.refl _) ?_
      repeat (first | (apply free_pure rfl; focus (intro vs w hg hd;  (try simp [Region.binds] at hd); simp only [execOp, resolve, Option.map_some, Option.map_none, List.map_toArray, List.map_cons, List.map_nil, rho_const, rho_func]; (repeat (conv in rho _ _ _ _ (Operand.tmp _) => whnf)); (try simp only [hd]); go_simp; (repeat (conv in rho _ _ _ _ (Operand.tmp _) => whnf)); (try simp only [hd]);  rfl)) | (apply free_gpure; (focus (intro vs w hg hd; (try simp [Region.binds] at hd); (first | (simp [Region.wanted, yieldR]; (repeat (conv in rho _ _ _ _ (Operand.tmp _) => whnf)); simp [hd]; done) | (simp [Region.wanted, yieldR]; (repeat (conv in rho _ _ _ _ (Operand.tmp _) => whnf)); (try simp [hd]); simp [*])))); focus (intro vs w hg hd;  (try simp [Region.binds] at hd); simp only [execOp, resolve, Option.map_some, Option.map_none, List.map_toArray, List.map_cons, List.map_nil, rho_const, rho_func]; (repeat (conv in rho _ _ _ _ (Operand.tmp _) => whnf)); (try simp only [hd]); go_simp; (repeat (conv in rho _ _ _ _ (Operand.tmp _) => whnf)); (try simp only [hd]);  rfl)))
      intro vs w' hg hv; have h55 := hv 55 (by omega); simp at h55; simp only [putL, dstAt, List.range, List.range.loop, if_true, List.getElem?_toArray, List.getElem?_cons_zero, List.getElem?_cons_succ, Option.bind_some, Act.put, List.setIfInBounds_toArray, List.set_cons_zero, List.set_cons_succ]
      rw [h55]
      have HX1 := Lib.hid (Row.grows HX0.out (Grows.of_drew hg))
      have HG1 : Hid (Grows w w') := Grows.trans HG0.out (Grows.of_drew hg)
      have HV1 := Lib.hid ((HV.out.below HG1.out).more HG1.out.size)
      clear hv h55 hg c0 c3 HP0
      generalize vs 0 = z0, vs 1 = z1, vs 2 = z2, vs 3 = z3, vs 4 = z4, vs 5 = z5, vs 6 = z6, vs 7 = z7, vs 8 = z8, vs 9 = z9, vs 10 = z10, vs 11 = z11, vs 12 = z12, vs 13 = z13, vs 14 = z14, vs 15 = z15, vs 16 = z16, vs 17 = z17, vs 18 = z18, vs 19 = z19, vs 20 = z20, vs 21 = z21, vs 22 = z22, vs 23 = z23, vs 24 = z24, vs 25 = z25, vs 26 = z26, vs 27 = z27, vs 28 = z28, vs 29 = z29, vs 30 = z30, vs 31 = z31, vs 32 = z32, vs 33 = z33, vs 34 = z34, vs 35 = z35, vs 36 = z36, vs 37 = z37, vs 38 = z38, vs 39 = z39, vs 40 = z40, vs 41 = z41, vs 42 = z42, vs 43 = z43, vs 44 = z44, vs 45 = z45, vs 46 = z46, vs 47 = z47, vs 48 = z48, vs 49 = z49, vs 50 = z50, vs 51 = z51, vs 52 = z52, vs 53 = z53, vs 54 = z54 at *
      go_wp2_with (first
        | (go_at_call 20; (with_reducible refine (HTa.out _ HV1.out (HGl.out.grows HG1.out)).mono ?_); rintro e w2 ⟨r2, rfl, m2, g⟩; obtain ⟨A2, c2, rfl, _, _⟩ := m2.form; have HG2 : Hid (Grows w w2) := Grows.trans HG1.out g; have HX2 := Lib.hid (Row.grows HX1.out g); have HM2 := Lib.hid m2; have RN2 := Lib.hid (Row.new w2 27 #[.int .u8 0, .int .u16 0, .int .u16 0, .int .u32 0, .int .u64 0]); clear m2 g)
        | ((with_reducible refine wpList_store_pt (o := ⟨none, .store _ (.tmp 13) _, _, _, _, _⟩) ?_ (.tmp 13) (.tmp 82) ?_ w2.heap.size Y #[.int .u8 0, .int .u16 0, .int .u16 0, .int .u32 0, .int .u64 0] ?_ ?_ ?_ ?_ ?_); exact rfl; exact rfl; exact rfl; exact rfl; exact rfl; exact RN2.out; intro w3 hr3 hg3; have g := grown_fresh rfl hg3; have HG3 : Hid (Grows w w3) := Grows.trans HG2.out g; have HX3 := Lib.hid (Row.grows HX2.out g); have HY3 := Lib.hid hr3; have HM3 := Lib.hid (HM2.out.grows g); have HV3 := Lib.hid ((HV.out.below HG3.out).more HG3.out.size); clear hr3 hg3 g)
        | (go_at_call 21; (with_reducible refine (HRTa.out _ HV3.out).mono ?_); rintro e w4 ⟨r4, rfl, m4, g⟩; have HB4 := Lib.hid m4; obtain ⟨A4, c4, rfl, _, _, _⟩ := m4; simp only [List.length_map] at HB4 ⊢; have HG4 : Hid (Grows w w4) := Grows.trans HG3.out g; have HX4 := Lib.hid (Row.grows HX3.out g); have HY4 := Lib.hid (Row.grows HY3.out g); have HM4 := Lib.hid (HM3.out.grows g); have RN4 := Lib.hid (Row.new w4 27 #[.int .u8 0, .int .u16 0, .int .u16 0, .int .u32 0, .int .u64 0]); clear g)
        | ((with_reducible refine wpList_store_pt (o := ⟨none, .store _ (.tmp 16) _, _, _, _, _⟩) ?_ (.tmp 16) (.tmp 88) ?_ w4.heap.size Y #[.int .u8 0, .int .u16 0, .int .u16 0, .int .u32 0, .int .u64 0] ?_ ?_ ?_ ?_ ?_); exact rfl; exact rfl; exact rfl; exact rfl; exact rfl; exact RN4.out; intro w5 hr5 hg5; have g := grown_fresh rfl hg5; have HG5 : Hid (Grows w w5) := Grows.trans HG4.out g; have HX5 := Lib.hid (Row.grows HX4.out g); have HY5 := Lib.hid (Row.grows HY4.out g); have HZ5 := Lib.hid hr5; have HM5 := Lib.hid (HM4.out.grows g); have HB5 := Lib.hid ((HB4.out.below g).more (Below.size g)); have HV5 := Lib.hid ((HV.out.below HG5.out).more HG5.out.size); clear hr5 hg5 g))
      refine wp_region_free 33 123 (by kernel_rfl) (by kernel_rfl) rfl (by kernel_rfl) ?_; simp only [List.take_succ_cons, List.take_zero, List.drop_succ_cons, List.drop_zero]
      refine free_op (fun v_ _ => v_ = .agg (ptA Y)) rfl (val_mono' _) (fun vs wq hg hd => by
        (try simp [Region.binds] at hd)
        exact dk_load 27 (.tmp 13) ⟨w2.heap.size, 0, none⟩ _ rfl (by first | rfl | (conv => lhs; whnf)) (run_load_pt (Row.grows HY5.out (Grows.of_drew hg))) ⟨Grows.refl _, rfl⟩) ?_
      refine free_op (fun v_ _ => v_ = .agg (ptA Y)) rfl (val_mono' _) (fun vs wq hg hd => by
        (try simp [Region.binds] at hd)
        exact dk_load 27 (.tmp 16) ⟨w4.heap.size, 0, none⟩ _ rfl (by first | rfl | (conv => lhs; whnf)) (run_load_pt (Row.grows HZ5.out (Grows.of_drew hg))) ⟨Grows.refl _, rfl⟩) ?_
      refine free_op (fun v_ _ => v_ = .bool true) rfl (val_mono' _) (fun vs wq hg hd => by
        have heq := HQY.out wq
        (try simp [Region.binds] at hd); simp only [Does]; simp only [execOp, resolve, Option.map_some, Option.map_none, List.map_toArray, List.map_cons, List.map_nil, rho_const, rho_func]; (repeat (conv in rho _ _ _ _ (Operand.tmp _) => whnf)); (try simp only [hd]); go_simp; (repeat (conv in rho _ _ _ _ (Operand.tmp _) => whnf))
        exact Grows.refl _) ?_
      iterate 3 (first | (apply free_pure rfl; focus (intro vs w hg hd;  (try simp [Region.binds] at hd); simp only [execOp, resolve, Option.map_some, Option.map_none, List.map_toArray, List.map_cons, List.map_nil, rho_const, rho_func]; (repeat (conv in rho _ _ _ _ (Operand.tmp _) => whnf)); (try simp only [hd]); go_simp; (repeat (conv in rho _ _ _ _ (Operand.tmp _) => whnf)); (try simp only [hd]);  rfl)) | (apply free_gpure; (focus (intro vs w hg hd; (try simp [Region.binds] at hd); (first | (simp [Region.wanted, yieldR]; (repeat (conv in rho _ _ _ _ (Operand.tmp _) => whnf)); simp [hd]; done) | (simp [Region.wanted, yieldR]; (repeat (conv in rho _ _ _ _ (Operand.tmp _) => whnf)); (try simp [hd]); simp [*])))); focus (intro vs w hg hd;  (try simp [Region.binds] at hd); simp only [execOp, resolve, Option.map_some, Option.map_none, List.map_toArray, List.map_cons, List.map_nil, rho_const, rho_func]; (repeat (conv in rho _ _ _ _ (Operand.tmp _) => whnf)); (try simp only [hd]); go_simp; (repeat (conv in rho _ _ _ _ (Operand.tmp _) => whnf)); (try simp only [hd]);  rfl)))
      refine free_guarded (fun v_ _ => v_ = .bool true) (val_mono' _) (fun vs wq hg hd => by
        (try simp [Region.binds] at hd)
        refine ⟨?_, ?_⟩
        · (first | (simp [Region.wanted, yieldR]; (repeat (conv in rho _ _ _ _ (Operand.tmp _) => whnf)); simp [hd]; done) | (simp [Region.wanted, yieldR]; (repeat (conv in rho _ _ _ _ (Operand.tmp _) => whnf)); (try simp [hd]); simp [*]))
        · simp only [Does]
          simp only [execOp, resolve, Option.map_some, Option.map_none, List.map_toArray, List.map_cons, List.map_nil, rho_const, rho_func]
          (repeat (conv in rho _ _ _ _ (Operand.tmp _) => whnf))
          (try simp only [hd])
          go_simp
          (repeat (conv in rho _ _ _ _ (Operand.tmp _) => whnf))
          exact same5_trueG _ _ rest _ (HM5.out.grows (Grows.of_drew hg)).bytes ((HB5.out.below (Grows.of_drew hg)).more (Below.size (Grows.of_drew hg)))) ?_
      iterate 4 (first | (apply free_pure rfl; focus (intro vs w hg hd;  (try simp [Region.binds] at hd); simp only [execOp, resolve, Option.map_some, Option.map_none, List.map_toArray, List.map_cons, List.map_nil, rho_const, rho_func]; (repeat (conv in rho _ _ _ _ (Operand.tmp _) => whnf)); (try simp only [hd]); go_simp; (repeat (conv in rho _ _ _ _ (Operand.tmp _) => whnf)); (try simp only [hd]);  rfl)) | (apply free_gpure; (focus (intro vs w hg hd; (try simp [Region.binds] at hd); (first | (simp [Region.wanted, yieldR]; (repeat (conv in rho _ _ _ _ (Operand.tmp _) => whnf)); simp [hd]; done) | (simp [Region.wanted, yieldR]; (repeat (conv in rho _ _ _ _ (Operand.tmp _) => whnf)); (try simp [hd]); simp [*])))); focus (intro vs w hg hd;  (try simp [Region.binds] at hd); simp only [execOp, resolve, Option.map_some, Option.map_none, List.map_toArray, List.map_cons, List.map_nil, rho_const, rho_func]; (repeat (conv in rho _ _ _ _ (Operand.tmp _) => whnf)); (try simp only [hd]); go_simp; (repeat (conv in rho _ _ _ _ (Operand.tmp _) => whnf)); (try simp only [hd]);  rfl)))
      refine free_guarded (fun v_ _ => v_ = .bool true) (val_mono' _) (fun vs wq hg hd => by
        (try simp [Region.binds] at hd)
        refine ⟨?_, ?_⟩
        · (first | (simp [Region.wanted, yieldR]; (repeat (conv in rho _ _ _ _ (Operand.tmp _) => whnf)); simp [hd]; done) | (simp [Region.wanted, yieldR]; (repeat (conv in rho _ _ _ _ (Operand.tmp _) => whnf)); (try simp [hd]); simp [*]))
        · simp only [Does]
          simp only [execOp, resolve, Option.map_some, Option.map_none, List.map_toArray, List.map_cons, List.map_nil, rho_const, rho_func]
          (repeat (conv in rho _ _ _ _ (Operand.tmp _) => whnf))
          (try simp only [hd])
          go_simp
          (repeat (conv in rho _ _ _ _ (Operand.tmp _) => whnf))
          (first | exact Grows.refl _ | (simp; exact Grows.refl _) | exact ⟨Grows.refl _, by simp⟩)) ?_
      iterate 3 (first | (apply free_pure rfl; focus (intro vs w hg hd;  (try simp [Region.binds] at hd); simp only [execOp, resolve, Option.map_some, Option.map_none, List.map_toArray, List.map_cons, List.map_nil, rho_const, rho_func]; (repeat (conv in rho _ _ _ _ (Operand.tmp _) => whnf)); (try simp only [hd]); go_simp; (repeat (conv in rho _ _ _ _ (Operand.tmp _) => whnf)); (try simp only [hd]);  rfl)) | (apply free_gpure; (focus (intro vs w hg hd; (try simp [Region.binds] at hd); (first | (simp [Region.wanted, yieldR]; (repeat (conv in rho _ _ _ _ (Operand.tmp _) => whnf)); simp [hd]; done) | (simp [Region.wanted, yieldR]; (repeat (conv in rho _ _ _ _ (Operand.tmp _) => whnf)); (try simp [hd]); simp [*])))); focus (intro vs w hg hd;  (try simp [Region.binds] at hd); simp only [execOp, resolve, Option.map_some, Option.map_none, List.map_toArray, List.map_cons, List.map_nil, rho_const, rho_func]; (repeat (conv in rho _ _ _ _ (Operand.tmp _) => whnf)); (try simp only [hd]); go_simp; (repeat (conv in rho _ _ _ _ (Operand.tmp _) => whnf)); (try simp only [hd]);  rfl)))
      refine free_guarded (fun v_ _ => v_ = .agg (ptA x)) (val_mono' _) (fun vs wq hg hd => by
        (try simp [Region.binds] at hd)
        refine ⟨?_, ?_⟩
        · (first | (simp [Region.wanted, yieldR]; (repeat (conv in rho _ _ _ _ (Operand.tmp _) => whnf)); simp [hd]; done) | (simp [Region.wanted, yieldR]; (repeat (conv in rho _ _ _ _ (Operand.tmp _) => whnf)); (try simp [hd]); simp [*]))
        · exact dk_load 27 (.tmp 6) ⟨w.heap.size, 0, none⟩ _ rfl (by first | rfl | (conv => lhs; whnf)) (run_load_pt (Row.grows HX5.out (Grows.of_drew hg))) ⟨Grows.refl _, rfl⟩) ?_
      refine free_guarded (fun v_ w_ => Bytes (World.heap w_).size w_ v_ (PtM.put l x)) (put_mono _) (fun vs wq hg hd => by
        (try simp [Region.binds] at hd)
        refine ⟨?_, ?_⟩
        · (first | (simp [Region.wanted, yieldR]; (repeat (conv in rho _ _ _ _ (Operand.tmp _) => whnf)); simp [hd]; done) | (simp [Region.wanted, yieldR]; (repeat (conv in rho _ _ _ _ (Operand.tmp _) => whnf)); (try simp [hd]); simp [*]))
        · simp only [Does]
          simp only [execOp, resolve, Option.map_some, Option.map_none, List.map_toArray, List.map_cons, List.map_nil, rho_const, rho_func]
          (repeat (conv in rho _ _ _ _ (Operand.tmp _) => whnf))
          (try simp only [hd])
          go_simp
          (repeat (conv in rho _ _ _ _ (Operand.tmp _) => whnf))
          refine (ptput_any _ l x _ ((HV5.out.below (Grows.of_drew hg)).more (Below.size (Grows.of_drew hg))) (by have := HL.out; omega) (HGl.out.grows (Grows.trans HG5.out (Grows.of_drew hg)))).mono ?_; rintro e w6 ⟨r6, rfl, m6, g6⟩; exact ⟨_, rfl, g6, m6.bytes⟩) ?_
      iterate 1 (first | (apply free_pure rfl; focus (intro vs w hg hd;  (try simp [Region.binds] at hd); simp only [execOp, resolve, Option.map_some, Option.map_none, List.map_toArray, List.map_cons, List.map_nil, rho_const, rho_func]; (repeat (conv in rho _ _ _ _ (Operand.tmp _) => whnf)); (try simp only [hd]); go_simp; (repeat (conv in rho _ _ _ _ (Operand.tmp _) => whnf)); (try simp only [hd]);  rfl)) | (apply free_gpure; (focus (intro vs w hg hd; (try simp [Region.binds] at hd); (first | (simp [Region.wanted, yieldR]; (repeat (conv in rho _ _ _ _ (Operand.tmp _) => whnf)); simp [hd]; done) | (simp [Region.wanted, yieldR]; (repeat (conv in rho _ _ _ _ (Operand.tmp _) => whnf)); (try simp [hd]); simp [*])))); focus (intro vs w hg hd;  (try simp [Region.binds] at hd); simp only [execOp, resolve, Option.map_some, Option.map_none, List.map_toArray, List.map_cons, List.map_nil, rho_const, rho_func]; (repeat (conv in rho _ _ _ _ (Operand.tmp _) => whnf)); (try simp only [hd]); go_simp; (repeat (conv in rho _ _ _ _ (Operand.tmp _) => whnf)); (try simp only [hd]);  rfl)))
      refine free_guarded (fun v_ _ => v_ = .agg (ptA x)) (val_mono' _) (fun vs wq hg hd => by
        (try simp [Region.binds] at hd)
        refine ⟨?_, ?_⟩
        · (first | (simp [Region.wanted, yieldR]; (repeat (conv in rho _ _ _ _ (Operand.tmp _) => whnf)); simp [hd]; done) | (simp [Region.wanted, yieldR]; (repeat (conv in rho _ _ _ _ (Operand.tmp _) => whnf)); (try simp [hd]); simp [*]))
        · exact dk_load 27 (.tmp 6) ⟨w.heap.size, 0, none⟩ _ rfl (by first | rfl | (conv => lhs; whnf)) (run_load_pt (Row.grows HX5.out (Grows.of_drew hg))) ⟨Grows.refl _, rfl⟩) ?_
      refine free_guarded (fun v_ w_ => Bytes (World.heap w_).size w_ v_ (PtM.put l x)) (put_mono _) (fun vs wq hg hd => by
        (try simp [Region.binds] at hd)
        refine ⟨?_, ?_⟩
        · (first | (simp [Region.wanted, yieldR]; (repeat (conv in rho _ _ _ _ (Operand.tmp _) => whnf)); simp [hd]; done) | (simp [Region.wanted, yieldR]; (repeat (conv in rho _ _ _ _ (Operand.tmp _) => whnf)); (try simp [hd]); simp [*]))
        · simp only [Does]
          simp only [execOp, resolve, Option.map_some, Option.map_none, List.map_toArray, List.map_cons, List.map_nil, rho_const, rho_func]
          (repeat (conv in rho _ _ _ _ (Operand.tmp _) => whnf))
          (try simp only [hd])
          go_simp
          (repeat (conv in rho _ _ _ _ (Operand.tmp _) => whnf))
          refine (rptput_any _ l x _ ((HV5.out.below (Grows.of_drew hg)).more (Below.size (Grows.of_drew hg))) (by have := HL.out; omega)).mono ?_; rintro e w6 ⟨r6, rfl, m6, g6⟩; exact ⟨_, rfl, g6, m6.bytes⟩) ?_
      refine free_guarded (fun v_ _ => v_ = .bool true) (val_mono' _) (fun vs wq hg hd => by
        (try simp [Region.binds] at hd)
        refine ⟨?_, ?_⟩
        · (first | (simp [Region.wanted, yieldR]; (repeat (conv in rho _ _ _ _ (Operand.tmp _) => whnf)); simp [hd]; done) | (simp [Region.wanted, yieldR]; (repeat (conv in rho _ _ _ _ (Operand.tmp _) => whnf)); (try simp [hd]); simp [*]))
        · simp only [Does]
          simp only [execOp, resolve, Option.map_some, Option.map_none, List.map_toArray, List.map_cons, List.map_nil, rho_const, rho_func]
          (repeat (conv in rho _ _ _ _ (Operand.tmp _) => whnf))
          (try simp only [hd])
          go_simp
          (repeat (conv in rho _ _ _ _ (Operand.tmp _) => whnf))
          exact same5_trueG _ _ (PtM.put l x) _ (by first | exact hd.1 | exact hd.2.1 | exact hd.2.2.1 | exact hd.2.2) (by first | exact hd.1 | exact hd.2.1 | exact hd.2.2.1 | exact hd.2.2)) ?_
      iterate 2 (first | (apply free_pure rfl; focus (intro vs w hg hd;  (try simp [Region.binds] at hd); simp only [execOp, resolve, Option.map_some, Option.map_none, List.map_toArray, List.map_cons, List.map_nil, rho_const, rho_func]; (repeat (conv in rho _ _ _ _ (Operand.tmp _) => whnf)); (try simp only [hd]); go_simp; (repeat (conv in rho _ _ _ _ (Operand.tmp _) => whnf)); (try simp only [hd]);  rfl)) | (apply free_gpure; (focus (intro vs w hg hd; (try simp [Region.binds] at hd); (first | (simp [Region.wanted, yieldR]; (repeat (conv in rho _ _ _ _ (Operand.tmp _) => whnf)); simp [hd]; done) | (simp [Region.wanted, yieldR]; (repeat (conv in rho _ _ _ _ (Operand.tmp _) => whnf)); (try simp [hd]); simp [*])))); focus (intro vs w hg hd;  (try simp [Region.binds] at hd); simp only [execOp, resolve, Option.map_some, Option.map_none, List.map_toArray, List.map_cons, List.map_nil, rho_const, rho_func]; (repeat (conv in rho _ _ _ _ (Operand.tmp _) => whnf)); (try simp only [hd]); go_simp; (repeat (conv in rho _ _ _ _ (Operand.tmp _) => whnf)); (try simp only [hd]);  rfl)))
      refine free_guarded (fun v_ _ => v_ = .agg (ptA x)) (val_mono' _) (fun vs wq hg hd => by
        (try simp [Region.binds] at hd)
        refine ⟨?_, ?_⟩
        · (first | (simp [Region.wanted, yieldR]; (repeat (conv in rho _ _ _ _ (Operand.tmp _) => whnf)); simp [hd]; done) | (simp [Region.wanted, yieldR]; (repeat (conv in rho _ _ _ _ (Operand.tmp _) => whnf)); (try simp [hd]); simp [*]))
        · exact dk_load 27 (.tmp 6) ⟨w.heap.size, 0, none⟩ _ rfl (by first | rfl | (conv => lhs; whnf)) (run_load_pt (Row.grows HX5.out (Grows.of_drew hg))) ⟨Grows.refl _, rfl⟩) ?_
      refine free_guarded (fun v_ w_ => Els 1 intE (World.heap w_).size w_ v_ ((PtM.wheres x).map hI)) (els_mono _) (fun vs wq hg hd => by
        (try simp [Region.binds] at hd)
        refine ⟨?_, ?_⟩
        · (first | (simp [Region.wanted, yieldR]; (repeat (conv in rho _ _ _ _ (Operand.tmp _) => whnf)); simp [hd]; done) | (simp [Region.wanted, yieldR]; (repeat (conv in rho _ _ _ _ (Operand.tmp _) => whnf)); (try simp [hd]); simp [*]))
        · simp only [Does]
          simp only [execOp, resolve, Option.map_some, Option.map_none, List.map_toArray, List.map_cons, List.map_nil, rho_const, rho_func]
          (repeat (conv in rho _ _ _ _ (Operand.tmp _) => whnf))
          (try simp only [hd])
          go_simp
          (repeat (conv in rho _ _ _ _ (Operand.tmp _) => whnf))
          refine (where_any x _).mono ?_; rintro e w6 ⟨r6, rfl, m6, g6⟩; exact ⟨_, rfl, g6, m6.els⟩) ?_
      refine free_guarded (fun v_ _ => v_ = .agg (ptA x)) (val_mono' _) (fun vs wq hg hd => by
        (try simp [Region.binds] at hd)
        refine ⟨?_, ?_⟩
        · (first | (simp [Region.wanted, yieldR]; (repeat (conv in rho _ _ _ _ (Operand.tmp _) => whnf)); simp [hd]; done) | (simp [Region.wanted, yieldR]; (repeat (conv in rho _ _ _ _ (Operand.tmp _) => whnf)); (try simp [hd]); simp [*]))
        · exact dk_load 27 (.tmp 6) ⟨w.heap.size, 0, none⟩ _ rfl (by first | rfl | (conv => lhs; whnf)) (run_load_pt (Row.grows HX5.out (Grows.of_drew hg))) ⟨Grows.refl _, rfl⟩) ?_
      refine free_guarded (fun v_ w_ => Els 1 intE (World.heap w_).size w_ v_ ((PtM.wheres x).map hI)) (els_mono _) (fun vs wq hg hd => by
        (try simp [Region.binds] at hd)
        refine ⟨?_, ?_⟩
        · (first | (simp [Region.wanted, yieldR]; (repeat (conv in rho _ _ _ _ (Operand.tmp _) => whnf)); simp [hd]; done) | (simp [Region.wanted, yieldR]; (repeat (conv in rho _ _ _ _ (Operand.tmp _) => whnf)); (try simp [hd]); simp [*]))
        · simp only [Does]
          simp only [execOp, resolve, Option.map_some, Option.map_none, List.map_toArray, List.map_cons, List.map_nil, rho_const, rho_func]
          (repeat (conv in rho _ _ _ _ (Operand.tmp _) => whnf))
          (try simp only [hd])
          go_simp
          (repeat (conv in rho _ _ _ _ (Operand.tmp _) => whnf))
          refine (rwhere_any x _).mono ?_; rintro e w6 ⟨r6, rfl, m6, g6⟩; exact ⟨_, rfl, g6, m6⟩) ?_
      refine free_guarded (fun v_ _ => v_ = .bool true) (val_mono' _) (fun vs wq hg hd => by
        (try simp [Region.binds] at hd)
        refine ⟨?_, ?_⟩
        · (first | (simp [Region.wanted, yieldR]; (repeat (conv in rho _ _ _ _ (Operand.tmp _) => whnf)); simp [hd]; done) | (simp [Region.wanted, yieldR]; (repeat (conv in rho _ _ _ _ (Operand.tmp _) => whnf)); (try simp [hd]); simp [*]))
        · simp only [Does]
          simp only [execOp, resolve, Option.map_some, Option.map_none, List.map_toArray, List.map_cons, List.map_nil, rho_const, rho_func]
          (repeat (conv in rho _ _ _ _ (Operand.tmp _) => whnf))
          (try simp only [hd])
          go_simp
          (repeat (conv in rho _ _ _ _ (Operand.tmp _) => whnf))
          exact ints_true _ _ ((PtM.wheres x).map hI) _ (by first | exact hd.1 | exact hd.2.1 | exact hd.2.2.1 | exact hd.2.2) (by first | exact hd.1 | exact hd.2.1 | exact hd.2.2.1 | exact hd.2.2)) ?_
      iterate 2 (first | (apply free_pure rfl; focus (intro vs w hg hd;  (try simp [Region.binds] at hd); simp only [execOp, resolve, Option.map_some, Option.map_none, List.map_toArray, List.map_cons, List.map_nil, rho_const, rho_func]; (repeat (conv in rho _ _ _ _ (Operand.tmp _) => whnf)); (try simp only [hd]); go_simp; (repeat (conv in rho _ _ _ _ (Operand.tmp _) => whnf)); (try simp only [hd]);  rfl)) | (apply free_gpure; (focus (intro vs w hg hd; (try simp [Region.binds] at hd); (first | (simp [Region.wanted, yieldR]; (repeat (conv in rho _ _ _ _ (Operand.tmp _) => whnf)); simp [hd]; done) | (simp [Region.wanted, yieldR]; (repeat (conv in rho _ _ _ _ (Operand.tmp _) => whnf)); (try simp [hd]); simp [*])))); focus (intro vs w hg hd;  (try simp [Region.binds] at hd); simp only [execOp, resolve, Option.map_some, Option.map_none, List.map_toArray, List.map_cons, List.map_nil, rho_const, rho_func]; (repeat (conv in rho _ _ _ _ (Operand.tmp _) => whnf)); (try simp only [hd]); go_simp; (repeat (conv in rho _ _ _ _ (Operand.tmp _) => whnf)); (try simp only [hd]);  rfl)))
      refine free_guarded (fun v_ _ => v_ = .bool true) (val_mono' _) (fun vs wq hg hd => by
        (try simp [Region.binds] at hd)
        refine ⟨?_, ?_⟩
        · (first | (simp [Region.wanted, yieldR]; (repeat (conv in rho _ _ _ _ (Operand.tmp _) => whnf)); simp [hd]; done) | (simp [Region.wanted, yieldR]; (repeat (conv in rho _ _ _ _ (Operand.tmp _) => whnf)); (try simp [hd]); simp [*]))
        · simp only [Does]
          simp only [execOp, resolve, Option.map_some, Option.map_none, List.map_toArray, List.map_cons, List.map_nil, rho_const, rho_func]
          (repeat (conv in rho _ _ _ _ (Operand.tmp _) => whnf))
          (try simp only [hd])
          go_simp
          (repeat (conv in rho _ _ _ _ (Operand.tmp _) => whnf))
          exact wakes5_any _ (HGl.out.grows (Grows.trans HG5.out (Grows.of_drew hg)))) ?_
      repeat (first | (apply free_pure rfl; focus (intro vs w hg hd;  (try simp [Region.binds] at hd); simp only [execOp, resolve, Option.map_some, Option.map_none, List.map_toArray, List.map_cons, List.map_nil, rho_const, rho_func]; (repeat (conv in rho _ _ _ _ (Operand.tmp _) => whnf)); (try simp only [hd]); go_simp; (repeat (conv in rho _ _ _ _ (Operand.tmp _) => whnf)); (try simp only [hd]);  rfl)) | (apply free_gpure; (focus (intro vs w hg hd; (try simp [Region.binds] at hd); (first | (simp [Region.wanted, yieldR]; (repeat (conv in rho _ _ _ _ (Operand.tmp _) => whnf)); simp [hd]; done) | (simp [Region.wanted, yieldR]; (repeat (conv in rho _ _ _ _ (Operand.tmp _) => whnf)); (try simp [hd]); simp [*])))); focus (intro vs w hg hd;  (try simp [Region.binds] at hd); simp only [execOp, resolve, Option.map_some, Option.map_none, List.map_toArray, List.map_cons, List.map_nil, rho_const, rho_func]; (repeat (conv in rho _ _ _ _ (Operand.tmp _) => whnf)); (try simp only [hd]); go_simp; (repeat (conv in rho _ _ _ _ (Operand.tmp _) => whnf)); (try simp only [hd]);  rfl)))
      intro vs w' hg hv; have h32 := hv 32 (by omega); simp at h32; simp only [putL, dstAt, List.range, List.range.loop, if_true, List.getElem?_toArray, List.getElem?_cons_zero, List.getElem?_cons_succ, Option.bind_some, Act.put, List.setIfInBounds_toArray, List.set_cons_zero, List.set_cons_succ]
      rw [h32]
      have HG9 : Hid (Grows w w') := Grows.trans HG5.out (Grows.of_drew hg)
      clear hv h32 hg
      generalize vs 0 = z0, vs 1 = z1, vs 2 = z2, vs 3 = z3, vs 4 = z4, vs 5 = z5, vs 6 = z6, vs 7 = z7, vs 8 = z8, vs 9 = z9, vs 10 = z10, vs 11 = z11, vs 12 = z12, vs 13 = z13, vs 14 = z14, vs 15 = z15, vs 16 = z16, vs 17 = z17, vs 18 = z18, vs 19 = z19, vs 20 = z20, vs 21 = z21, vs 22 = z22, vs 23 = z23, vs 24 = z24, vs 25 = z25, vs 26 = z26, vs 27 = z27, vs 28 = z28, vs 29 = z29, vs 30 = z30, vs 31 = z31 at *
      go_wp2
      go_ret
      exact ⟨rfl, HG9.out⟩
end Go.Proofs.YtnigflobmiiefaaDoor
