/- PtrWhereAny -/
import Derived.Test.YtnigflobmiiefaaDoorPtWakes
/- The law PtrWhere as a call. -/
namespace Go.Proofs.YtnigflobmiiefaaDoor
open Go.RowKit
set_option linter.unusedVariables false
set_option linter.unusedSimpArgs false
attribute [local go_sem] wrap_i64_hI
theorem els_two {w : World} {B : Nat} {A : Option Addr} {cap : Nat} {a b : Int} (h : Els 1 intE B w (.slice A 2 cap) [a, b]) : ∃ g o, A = some ⟨g, o, none⟩ ∧ w.cell? ⟨g, o, none⟩ = some (.int .i64 a) ∧ w.cell? ⟨g, o + 1, none⟩ = some (.int .i64 b) := by
  obtain ⟨A', c', hv, _, _, h3⟩ := h.ints
  simp only [Value.slice.injEq] at hv
  obtain ⟨rfl, _, _⟩ := hv
  obtain ⟨g, o, h4, _, h5⟩ := h3 (by simp)
  exact ⟨g, o, h4, h5 0 a rfl, h5 1 b rfl⟩
theorem els_one5 {w : World} {B : Nat} {A : Option Addr} {cap : Nat} {a : Int} (h : Els 1 intE B w (.slice A 1 cap) [a]) : ∃ g o, A = some ⟨g, o, none⟩ ∧ w.cell? ⟨g, o, none⟩ = some (.int .i64 a) := by
  obtain ⟨A', c', hv, _, _, h3⟩ := h.ints
  simp only [Value.slice.injEq] at hv
  obtain ⟨rfl, _, _⟩ := hv
  obtain ⟨g, o, h4, _, h5⟩ := h3 (by simp)
  exact ⟨g, o, h4, h5 0 a rfl⟩
set_option maxHeartbeats 8000000 in
set_option maxRecDepth 20000 in
theorem ptrWhere_any (x : Pt) (w : World) (hG : Glob w) : Calls Tryd.prog 6 #[.agg (ptA x)] w fun e w' => e = .returned (.bool true) ∧ Below w.heap.size w w' := by
  have HGl := Lib.hid hG
  have HX := Lib.hid (Row.new w 27 (ptA x))
  have HG := Lib.hid (Grows.alloc w (.cells (ptA x) 27))
  have HWh := Lib.hid (fun W => where_any x W)
  have HNo := node_of (x := x)
  by_cases h12 : bI x.kind = 1 ∨ bI x.kind = 2
  · have hn : PtM.node x = true := by rw [HNo]; rcases h12 with h | h <;> simp [h]
    have HMt : Hid (∀ W, Calls Tryd.prog 10 #[.agg (ptA x)] W fun e w' => e = .returned (.bool true) ∧ Grows W w') := fun W => by rw [← hn]; exact node_any x W
    have HNx : Hid (∀ W, Calls Tryd.prog 8 #[.agg (ptA x)] W fun e w' => e = .returned (.bool false) ∧ Grows W w') := fun W => by
      have h := none_any x W
      rw [decide_eq_false (by rintro rfl; rcases h12 with h | h <;> exact absurd h (by decide))] at h
      exact h
    have HWe : Hid ((PtM.wheres x).map hI = [hI x.a, hI x.b]) := by rw [wheres_node hn]; rfl
    clear hG HNo hn
    rcases h12 with h12 | h12
    · go_enter Tryd.func6, Tryd.ntmps6
      go_wp2_with (first
        | ((with_reducible refine wpList_load_pt (o := ⟨some 4, _, _, _, _, _⟩) ?_ (.tmp 1) ?_ w.heap.size x ?_ ?_ ?_); exact rfl; exact rfl; exact rfl; exact HX.out)
        | (go_at_call 26; refine (HWh.out _).mono ?_; rintro e w2 ⟨r, rfl, hr, g⟩; rw [HWe.out] at hr; have HX2 := Lib.hid (Row.grows HX.out g); have HG2 := Lib.hid (HG.out.trans g); have c0 := (HX2.out.cell 0).trans (ptA_0 x); have c1 := (HX2.out.cell 1).trans (ptA_1 x); have c2 := (HX2.out.cell 2).trans (ptA_2 x); have HL2 := Lib.hid hr.els; obtain ⟨Al, cl, rfl, _⟩ := hr.els.form; clear hr g; simp only [List.length_cons, List.length_nil, Nat.zero_add, Nat.reduceAdd] at HL2 ⊢))
      obtain ⟨gl, ol, ea, d0, d1⟩ := els_two HL2.out
      obtain rfl := ea
      refine wp_region_free 36 85 (by kernel_rfl) (by kernel_rfl) rfl (by kernel_rfl) ?_; simp only [List.take_succ_cons, List.take_zero, List.drop_succ_cons, List.drop_zero]
      iterate 4 (apply free_pure rfl; focus (intro vs w hg hd;  (try simp [Region.binds] at hd); simp only [execOp, resolve, Option.map_some, Option.map_none, List.map_toArray, List.map_cons, List.map_nil, rho_const, rho_func]; (repeat (conv in rho _ _ _ _ (Operand.tmp _) => whnf)); (try simp only [hd]); go_simp; (repeat (conv in rho _ _ _ _ (Operand.tmp _) => whnf)); (try simp only [hd]);  rfl))
      iterate 20 (first | (apply free_pure rfl; focus (intro vs w hg hd; have q0 := hg.cell d0; have q1 := hg.cell d1; have q2 := hg.cell c0; have q3 := hg.cell c1; have q4 := hg.cell c2; (try simp [Region.binds] at hd); simp only [execOp, resolve, Option.map_some, Option.map_none, List.map_toArray, List.map_cons, List.map_nil, rho_const, rho_func]; (repeat (conv in rho _ _ _ _ (Operand.tmp _) => whnf)); (try simp only [hd]); go_simp; (repeat (conv in rho _ _ _ _ (Operand.tmp _) => whnf)); (try simp only [hd]);  rfl)) | (apply free_gpure; (focus (intro vs w hg hd; (try simp [Region.binds] at hd); (first | (simp [Region.wanted, yieldR]; (repeat (conv in rho _ _ _ _ (Operand.tmp _) => whnf)); simp [hd]; done) | (simp [Region.wanted, yieldR]; (repeat (conv in rho _ _ _ _ (Operand.tmp _) => whnf)); (try simp [hd]); simp [*])))); focus (intro vs w hg hd; have q0 := hg.cell d0; have q1 := hg.cell d1; have q2 := hg.cell c0; have q3 := hg.cell c1; have q4 := hg.cell c2; (try simp [Region.binds] at hd); simp only [execOp, resolve, Option.map_some, Option.map_none, List.map_toArray, List.map_cons, List.map_nil, rho_const, rho_func]; (repeat (conv in rho _ _ _ _ (Operand.tmp _) => whnf)); (try simp only [hd]); go_simp; (repeat (conv in rho _ _ _ _ (Operand.tmp _) => whnf)); (try simp only [hd]);  rfl)))
      refine free_guarded (fun v_ _ => v_ = .agg (ptA x)) (val_mono' _) (fun vs wq hg hd => by
        (try simp [Region.binds] at hd)
        refine ⟨?_, ?_⟩
        · (first | (simp [Region.wanted, yieldR]; (repeat (conv in rho _ _ _ _ (Operand.tmp _) => whnf)); simp [hd]; done) | (simp [Region.wanted, yieldR]; (repeat (conv in rho _ _ _ _ (Operand.tmp _) => whnf)); (try simp [hd]); simp [*]))
        · exact dk_load 27 (.tmp 1) ⟨w.heap.size, 0, none⟩ _ rfl (by first | rfl | (conv => lhs; whnf)) (run_load_pt (Row.grows HX2.out (Grows.of_drew hg))) ⟨Grows.refl _, rfl⟩) ?_
      refine free_guarded (fun v_ _ => v_ = .bool true) (val_mono _) (fun vs w hg hd => by
                simp [Region.binds] at hd
                refine ⟨?_, ?_⟩
                · simp [Region.wanted, yieldR]
                  repeat (conv in rho _ _ _ _ (Operand.tmp _) => whnf)
                  simp [hd]
                · simp only [Does]
                  simp only [execOp, resolve, Option.map_some, Option.map_none, List.map_toArray, List.map_cons, List.map_nil, rho_const, rho_func]
                  (repeat (conv in rho _ _ _ _ (Operand.tmp _) => whnf))
                  (try simp only [hd])
                  go_simp
                  (repeat (conv in rho _ _ _ _ (Operand.tmp _) => whnf))
                  exact HMt.out _) ?_
      iterate 2 (first | (apply free_pure rfl; focus (intro vs w hg hd;  (try simp [Region.binds] at hd); simp only [execOp, resolve, Option.map_some, Option.map_none, List.map_toArray, List.map_cons, List.map_nil, rho_const, rho_func]; (repeat (conv in rho _ _ _ _ (Operand.tmp _) => whnf)); (try simp only [hd]); go_simp; (repeat (conv in rho _ _ _ _ (Operand.tmp _) => whnf)); (try simp only [hd]);  rfl)) | (apply free_gpure; (focus (intro vs w hg hd; (try simp [Region.binds] at hd); (first | (simp [Region.wanted, yieldR]; (repeat (conv in rho _ _ _ _ (Operand.tmp _) => whnf)); simp [hd]; done) | (simp [Region.wanted, yieldR]; (repeat (conv in rho _ _ _ _ (Operand.tmp _) => whnf)); (try simp [hd]); simp [*])))); focus (intro vs w hg hd;  (try simp [Region.binds] at hd); simp only [execOp, resolve, Option.map_some, Option.map_none, List.map_toArray, List.map_cons, List.map_nil, rho_const, rho_func]; (repeat (conv in rho _ _ _ _ (Operand.tmp _) => whnf)); (try simp only [hd]); go_simp; (repeat (conv in rho _ _ _ _ (Operand.tmp _) => whnf)); (try simp only [hd]);  rfl)))
      refine free_guarded (fun v_ _ => v_ = .agg (ptA x)) (val_mono' _) (fun vs wq hg hd => by
        (try simp [Region.binds] at hd)
        refine ⟨?_, ?_⟩
        · (first | (simp [Region.wanted, yieldR]; (repeat (conv in rho _ _ _ _ (Operand.tmp _) => whnf)); simp [hd]; done) | (simp [Region.wanted, yieldR]; (repeat (conv in rho _ _ _ _ (Operand.tmp _) => whnf)); (try simp [hd]); simp [*]))
        · exact dk_load 27 (.tmp 1) ⟨w.heap.size, 0, none⟩ _ rfl (by first | rfl | (conv => lhs; whnf)) (run_load_pt (Row.grows HX2.out (Grows.of_drew hg))) ⟨Grows.refl _, rfl⟩) ?_
      refine free_guarded (fun v_ _ => v_ = .bool false) (val_mono _) (fun vs w hg hd => by
                simp [Region.binds] at hd
                refine ⟨?_, ?_⟩
                · simp [Region.wanted, yieldR]
                  repeat (conv in rho _ _ _ _ (Operand.tmp _) => whnf)
                  simp [hd]
                · simp only [Does]
                  simp only [execOp, resolve, Option.map_some, Option.map_none, List.map_toArray, List.map_cons, List.map_nil, rho_const, rho_func]
                  (repeat (conv in rho _ _ _ _ (Operand.tmp _) => whnf))
                  (try simp only [hd])
                  go_simp
                  (repeat (conv in rho _ _ _ _ (Operand.tmp _) => whnf))
                  exact HNx.out _) ?_
      iterate 3 (first | (apply free_pure rfl; focus (intro vs w hg hd;  (try simp [Region.binds] at hd); simp only [execOp, resolve, Option.map_some, Option.map_none, List.map_toArray, List.map_cons, List.map_nil, rho_const, rho_func]; (repeat (conv in rho _ _ _ _ (Operand.tmp _) => whnf)); (try simp only [hd]); go_simp; (repeat (conv in rho _ _ _ _ (Operand.tmp _) => whnf)); (try simp only [hd]);  rfl)) | (apply free_gpure; (focus (intro vs w hg hd; (try simp [Region.binds] at hd); (first | (simp [Region.wanted, yieldR]; (repeat (conv in rho _ _ _ _ (Operand.tmp _) => whnf)); simp [hd]; done) | (simp [Region.wanted, yieldR]; (repeat (conv in rho _ _ _ _ (Operand.tmp _) => whnf)); (try simp [hd]); simp [*])))); focus (intro vs w hg hd;  (try simp [Region.binds] at hd); simp only [execOp, resolve, Option.map_some, Option.map_none, List.map_toArray, List.map_cons, List.map_nil, rho_const, rho_func]; (repeat (conv in rho _ _ _ _ (Operand.tmp _) => whnf)); (try simp only [hd]); go_simp; (repeat (conv in rho _ _ _ _ (Operand.tmp _) => whnf)); (try simp only [hd]);  rfl)))
      refine free_guarded (fun v_ _ => v_ = .bool true) (val_mono _) (fun vs w hg hd => by
                simp [Region.binds] at hd
                refine ⟨?_, ?_⟩
                · simp [Region.wanted, yieldR]
                  repeat (conv in rho _ _ _ _ (Operand.tmp _) => whnf)
                  simp [hd]
                · simp only [Does]
                  simp only [execOp, resolve, Option.map_some, Option.map_none, List.map_toArray, List.map_cons, List.map_nil, rho_const, rho_func]
                  (repeat (conv in rho _ _ _ _ (Operand.tmp _) => whnf))
                  (try simp only [hd])
                  go_simp
                  (repeat (conv in rho _ _ _ _ (Operand.tmp _) => whnf))
                  exact wakes5_any _ (HGl.out.grows (HG2.out.trans (Grows.of_drew hg)))) ?_
      repeat (first | (apply free_pure rfl; focus (intro vs w hg hd;  (try simp [Region.binds] at hd); simp only [execOp, resolve, Option.map_some, Option.map_none, List.map_toArray, List.map_cons, List.map_nil, rho_const, rho_func]; (repeat (conv in rho _ _ _ _ (Operand.tmp _) => whnf)); (try simp only [hd]); go_simp; (repeat (conv in rho _ _ _ _ (Operand.tmp _) => whnf)); (try simp only [hd]);  rfl)) | (apply free_gpure; (focus (intro vs w hg hd; (try simp [Region.binds] at hd); (first | (simp [Region.wanted, yieldR]; (repeat (conv in rho _ _ _ _ (Operand.tmp _) => whnf)); simp [hd]; done) | (simp [Region.wanted, yieldR]; (repeat (conv in rho _ _ _ _ (Operand.tmp _) => whnf)); (try simp [hd]); simp [*])))); focus (intro vs w hg hd;  (try simp [Region.binds] at hd); simp only [execOp, resolve, Option.map_some, Option.map_none, List.map_toArray, List.map_cons, List.map_nil, rho_const, rho_func]; (repeat (conv in rho _ _ _ _ (Operand.tmp _) => whnf)); (try simp only [hd]); go_simp; (repeat (conv in rho _ _ _ _ (Operand.tmp _) => whnf)); (try simp only [hd]);  rfl)))
      intro vs w' hg hv; have h35 := hv 35 (by omega); simp at h35; simp only [putL, dstAt, List.range, List.range.loop, if_true, List.getElem?_toArray, List.getElem?_cons_zero, List.getElem?_cons_succ, Option.bind_some, Act.put, List.setIfInBounds_toArray, List.set_cons_zero, List.set_cons_succ]
      rw [h35]
      have hgW := Lib.hid (HG2.out.trans (Grows.of_drew hg))
      clear hv h35 hg
      clear c0 c1 c2 d0 d1
      generalize vs 0 = z0, vs 1 = z1, vs 2 = z2, vs 3 = z3, vs 4 = z4, vs 5 = z5, vs 6 = z6, vs 7 = z7, vs 8 = z8, vs 9 = z9, vs 10 = z10, vs 11 = z11, vs 12 = z12, vs 13 = z13, vs 14 = z14, vs 15 = z15, vs 16 = z16, vs 17 = z17, vs 18 = z18, vs 19 = z19, vs 20 = z20, vs 21 = z21, vs 22 = z22, vs 23 = z23, vs 24 = z24, vs 25 = z25, vs 26 = z26, vs 27 = z27, vs 28 = z28, vs 29 = z29, vs 30 = z30, vs 31 = z31, vs 32 = z32, vs 33 = z33, vs 34 = z34, vs 35 = z35 at *
      go_wp2
      go_ret
      exact ⟨rfl, hgW.out⟩
    · go_enter Tryd.func6, Tryd.ntmps6
      go_wp2_with (first
        | ((with_reducible refine wpList_load_pt (o := ⟨some 4, _, _, _, _, _⟩) ?_ (.tmp 1) ?_ w.heap.size x ?_ ?_ ?_); exact rfl; exact rfl; exact rfl; exact HX.out)
        | (go_at_call 26; refine (HWh.out _).mono ?_; rintro e w2 ⟨r, rfl, hr, g⟩; rw [HWe.out] at hr; have HX2 := Lib.hid (Row.grows HX.out g); have HG2 := Lib.hid (HG.out.trans g); have c0 := (HX2.out.cell 0).trans (ptA_0 x); have c1 := (HX2.out.cell 1).trans (ptA_1 x); have c2 := (HX2.out.cell 2).trans (ptA_2 x); have HL2 := Lib.hid hr.els; obtain ⟨Al, cl, rfl, _⟩ := hr.els.form; clear hr g; simp only [List.length_cons, List.length_nil, Nat.zero_add, Nat.reduceAdd] at HL2 ⊢))
      obtain ⟨gl, ol, ea, d0, d1⟩ := els_two HL2.out
      obtain rfl := ea
      refine wp_region_free 36 85 (by kernel_rfl) (by kernel_rfl) rfl (by kernel_rfl) ?_; simp only [List.take_succ_cons, List.take_zero, List.drop_succ_cons, List.drop_zero]
      iterate 4 (apply free_pure rfl; focus (intro vs w hg hd;  (try simp [Region.binds] at hd); simp only [execOp, resolve, Option.map_some, Option.map_none, List.map_toArray, List.map_cons, List.map_nil, rho_const, rho_func]; (repeat (conv in rho _ _ _ _ (Operand.tmp _) => whnf)); (try simp only [hd]); go_simp; (repeat (conv in rho _ _ _ _ (Operand.tmp _) => whnf)); (try simp only [hd]);  rfl))
      iterate 20 (first | (apply free_pure rfl; focus (intro vs w hg hd; have q0 := hg.cell d0; have q1 := hg.cell d1; have q2 := hg.cell c0; have q3 := hg.cell c1; have q4 := hg.cell c2; (try simp [Region.binds] at hd); simp only [execOp, resolve, Option.map_some, Option.map_none, List.map_toArray, List.map_cons, List.map_nil, rho_const, rho_func]; (repeat (conv in rho _ _ _ _ (Operand.tmp _) => whnf)); (try simp only [hd]); go_simp; (repeat (conv in rho _ _ _ _ (Operand.tmp _) => whnf)); (try simp only [hd]);  rfl)) | (apply free_gpure; (focus (intro vs w hg hd; (try simp [Region.binds] at hd); (first | (simp [Region.wanted, yieldR]; (repeat (conv in rho _ _ _ _ (Operand.tmp _) => whnf)); simp [hd]; done) | (simp [Region.wanted, yieldR]; (repeat (conv in rho _ _ _ _ (Operand.tmp _) => whnf)); (try simp [hd]); simp [*])))); focus (intro vs w hg hd; have q0 := hg.cell d0; have q1 := hg.cell d1; have q2 := hg.cell c0; have q3 := hg.cell c1; have q4 := hg.cell c2; (try simp [Region.binds] at hd); simp only [execOp, resolve, Option.map_some, Option.map_none, List.map_toArray, List.map_cons, List.map_nil, rho_const, rho_func]; (repeat (conv in rho _ _ _ _ (Operand.tmp _) => whnf)); (try simp only [hd]); go_simp; (repeat (conv in rho _ _ _ _ (Operand.tmp _) => whnf)); (try simp only [hd]);  rfl)))
      refine free_guarded (fun v_ _ => v_ = .agg (ptA x)) (val_mono' _) (fun vs wq hg hd => by
        (try simp [Region.binds] at hd)
        refine ⟨?_, ?_⟩
        · (first | (simp [Region.wanted, yieldR]; (repeat (conv in rho _ _ _ _ (Operand.tmp _) => whnf)); simp [hd]; done) | (simp [Region.wanted, yieldR]; (repeat (conv in rho _ _ _ _ (Operand.tmp _) => whnf)); (try simp [hd]); simp [*]))
        · exact dk_load 27 (.tmp 1) ⟨w.heap.size, 0, none⟩ _ rfl (by first | rfl | (conv => lhs; whnf)) (run_load_pt (Row.grows HX2.out (Grows.of_drew hg))) ⟨Grows.refl _, rfl⟩) ?_
      refine free_guarded (fun v_ _ => v_ = .bool true) (val_mono _) (fun vs w hg hd => by
                simp [Region.binds] at hd
                refine ⟨?_, ?_⟩
                · simp [Region.wanted, yieldR]
                  repeat (conv in rho _ _ _ _ (Operand.tmp _) => whnf)
                  simp [hd]
                · simp only [Does]
                  simp only [execOp, resolve, Option.map_some, Option.map_none, List.map_toArray, List.map_cons, List.map_nil, rho_const, rho_func]
                  (repeat (conv in rho _ _ _ _ (Operand.tmp _) => whnf))
                  (try simp only [hd])
                  go_simp
                  (repeat (conv in rho _ _ _ _ (Operand.tmp _) => whnf))
                  exact HMt.out _) ?_
      iterate 2 (first | (apply free_pure rfl; focus (intro vs w hg hd;  (try simp [Region.binds] at hd); simp only [execOp, resolve, Option.map_some, Option.map_none, List.map_toArray, List.map_cons, List.map_nil, rho_const, rho_func]; (repeat (conv in rho _ _ _ _ (Operand.tmp _) => whnf)); (try simp only [hd]); go_simp; (repeat (conv in rho _ _ _ _ (Operand.tmp _) => whnf)); (try simp only [hd]);  rfl)) | (apply free_gpure; (focus (intro vs w hg hd; (try simp [Region.binds] at hd); (first | (simp [Region.wanted, yieldR]; (repeat (conv in rho _ _ _ _ (Operand.tmp _) => whnf)); simp [hd]; done) | (simp [Region.wanted, yieldR]; (repeat (conv in rho _ _ _ _ (Operand.tmp _) => whnf)); (try simp [hd]); simp [*])))); focus (intro vs w hg hd;  (try simp [Region.binds] at hd); simp only [execOp, resolve, Option.map_some, Option.map_none, List.map_toArray, List.map_cons, List.map_nil, rho_const, rho_func]; (repeat (conv in rho _ _ _ _ (Operand.tmp _) => whnf)); (try simp only [hd]); go_simp; (repeat (conv in rho _ _ _ _ (Operand.tmp _) => whnf)); (try simp only [hd]);  rfl)))
      refine free_guarded (fun v_ _ => v_ = .agg (ptA x)) (val_mono' _) (fun vs wq hg hd => by
        (try simp [Region.binds] at hd)
        refine ⟨?_, ?_⟩
        · (first | (simp [Region.wanted, yieldR]; (repeat (conv in rho _ _ _ _ (Operand.tmp _) => whnf)); simp [hd]; done) | (simp [Region.wanted, yieldR]; (repeat (conv in rho _ _ _ _ (Operand.tmp _) => whnf)); (try simp [hd]); simp [*]))
        · exact dk_load 27 (.tmp 1) ⟨w.heap.size, 0, none⟩ _ rfl (by first | rfl | (conv => lhs; whnf)) (run_load_pt (Row.grows HX2.out (Grows.of_drew hg))) ⟨Grows.refl _, rfl⟩) ?_
      refine free_guarded (fun v_ _ => v_ = .bool false) (val_mono _) (fun vs w hg hd => by
                simp [Region.binds] at hd
                refine ⟨?_, ?_⟩
                · simp [Region.wanted, yieldR]
                  repeat (conv in rho _ _ _ _ (Operand.tmp _) => whnf)
                  simp [hd]
                · simp only [Does]
                  simp only [execOp, resolve, Option.map_some, Option.map_none, List.map_toArray, List.map_cons, List.map_nil, rho_const, rho_func]
                  (repeat (conv in rho _ _ _ _ (Operand.tmp _) => whnf))
                  (try simp only [hd])
                  go_simp
                  (repeat (conv in rho _ _ _ _ (Operand.tmp _) => whnf))
                  exact HNx.out _) ?_
      iterate 3 (first | (apply free_pure rfl; focus (intro vs w hg hd;  (try simp [Region.binds] at hd); simp only [execOp, resolve, Option.map_some, Option.map_none, List.map_toArray, List.map_cons, List.map_nil, rho_const, rho_func]; (repeat (conv in rho _ _ _ _ (Operand.tmp _) => whnf)); (try simp only [hd]); go_simp; (repeat (conv in rho _ _ _ _ (Operand.tmp _) => whnf)); (try simp only [hd]);  rfl)) | (apply free_gpure; (focus (intro vs w hg hd; (try simp [Region.binds] at hd); (first | (simp [Region.wanted, yieldR]; (repeat (conv in rho _ _ _ _ (Operand.tmp _) => whnf)); simp [hd]; done) | (simp [Region.wanted, yieldR]; (repeat (conv in rho _ _ _ _ (Operand.tmp _) => whnf)); (try simp [hd]); simp [*])))); focus (intro vs w hg hd;  (try simp [Region.binds] at hd); simp only [execOp, resolve, Option.map_some, Option.map_none, List.map_toArray, List.map_cons, List.map_nil, rho_const, rho_func]; (repeat (conv in rho _ _ _ _ (Operand.tmp _) => whnf)); (try simp only [hd]); go_simp; (repeat (conv in rho _ _ _ _ (Operand.tmp _) => whnf)); (try simp only [hd]);  rfl)))
      refine free_guarded (fun v_ _ => v_ = .bool true) (val_mono _) (fun vs w hg hd => by
                simp [Region.binds] at hd
                refine ⟨?_, ?_⟩
                · simp [Region.wanted, yieldR]
                  repeat (conv in rho _ _ _ _ (Operand.tmp _) => whnf)
                  simp [hd]
                · simp only [Does]
                  simp only [execOp, resolve, Option.map_some, Option.map_none, List.map_toArray, List.map_cons, List.map_nil, rho_const, rho_func]
                  (repeat (conv in rho _ _ _ _ (Operand.tmp _) => whnf))
                  (try simp only [hd])
                  go_simp
                  (repeat (conv in rho _ _ _ _ (Operand.tmp _) => whnf))
                  exact wakes5_any _ (HGl.out.grows (HG2.out.trans (Grows.of_drew hg)))) ?_
      repeat (first | (apply free_pure rfl; focus (intro vs w hg hd;  (try simp [Region.binds] at hd); simp only [execOp, resolve, Option.map_some, Option.map_none, List.map_toArray, List.map_cons, List.map_nil, rho_const, rho_func]; (repeat (conv in rho _ _ _ _ (Operand.tmp _) => whnf)); (try simp only [hd]); go_simp; (repeat (conv in rho _ _ _ _ (Operand.tmp _) => whnf)); (try simp only [hd]);  rfl)) | (apply free_gpure; (focus (intro vs w hg hd; (try simp [Region.binds] at hd); (first | (simp [Region.wanted, yieldR]; (repeat (conv in rho _ _ _ _ (Operand.tmp _) => whnf)); simp [hd]; done) | (simp [Region.wanted, yieldR]; (repeat (conv in rho _ _ _ _ (Operand.tmp _) => whnf)); (try simp [hd]); simp [*])))); focus (intro vs w hg hd;  (try simp [Region.binds] at hd); simp only [execOp, resolve, Option.map_some, Option.map_none, List.map_toArray, List.map_cons, List.map_nil, rho_const, rho_func]; (repeat (conv in rho _ _ _ _ (Operand.tmp _) => whnf)); (try simp only [hd]); go_simp; (repeat (conv in rho _ _ _ _ (Operand.tmp _) => whnf)); (try simp only [hd]);  rfl)))
      intro vs w' hg hv; have h35 := hv 35 (by omega); simp at h35; simp only [putL, dstAt, List.range, List.range.loop, if_true, List.getElem?_toArray, List.getElem?_cons_zero, List.getElem?_cons_succ, Option.bind_some, Act.put, List.setIfInBounds_toArray, List.set_cons_zero, List.set_cons_succ]
      rw [h35]
      have hgW := Lib.hid (HG2.out.trans (Grows.of_drew hg))
      clear hv h35 hg
      clear c0 c1 c2 d0 d1
      generalize vs 0 = z0, vs 1 = z1, vs 2 = z2, vs 3 = z3, vs 4 = z4, vs 5 = z5, vs 6 = z6, vs 7 = z7, vs 8 = z8, vs 9 = z9, vs 10 = z10, vs 11 = z11, vs 12 = z12, vs 13 = z13, vs 14 = z14, vs 15 = z15, vs 16 = z16, vs 17 = z17, vs 18 = z18, vs 19 = z19, vs 20 = z20, vs 21 = z21, vs 22 = z22, vs 23 = z23, vs 24 = z24, vs 25 = z25, vs 26 = z26, vs 27 = z27, vs 28 = z28, vs 29 = z29, vs 30 = z30, vs 31 = z31, vs 32 = z32, vs 33 = z33, vs 34 = z34, vs 35 = z35 at *
      go_wp2
      go_ret
      exact ⟨rfl, hgW.out⟩
  · have hn : PtM.node x = false := by rw [HNo, decide_eq_false (fun h => h12 (.inl h)), decide_eq_false (fun h => h12 (.inr h))]; rfl
    have h1 : ¬ bI x.kind = 1 := fun h => h12 (.inl h)
    have h2 : ¬ bI x.kind = 2 := fun h => h12 (.inr h)
    have HMf : Hid (∀ W, Calls Tryd.prog 10 #[.agg (ptA x)] W fun e w' => e = .returned (.bool false) ∧ Grows W w') := fun W => by rw [← hn]; exact node_any x W
    by_cases h3 : bI x.kind = 3
    · have HWe : Hid ((PtM.wheres x).map hI = [hI x.a]) := by rw [wheres_chain hn h3]; rfl
      clear hG HNo hn h12
      go_enter Tryd.func6, Tryd.ntmps6
      go_wp2_with (first
        | ((with_reducible refine wpList_load_pt (o := ⟨some 4, _, _, _, _, _⟩) ?_ (.tmp 1) ?_ w.heap.size x ?_ ?_ ?_); exact rfl; exact rfl; exact rfl; exact HX.out)
        | (go_at_call 26; refine (HWh.out _).mono ?_; rintro e w2 ⟨r, rfl, hr, g⟩; rw [HWe.out] at hr; have HX2 := Lib.hid (Row.grows HX.out g); have HG2 := Lib.hid (HG.out.trans g); have c0 := (HX2.out.cell 0).trans (ptA_0 x); have c1 := (HX2.out.cell 1).trans (ptA_1 x); have c2 := (HX2.out.cell 2).trans (ptA_2 x); have HL2 := Lib.hid hr.els; obtain ⟨Al, cl, rfl, _⟩ := hr.els.form; clear hr g; simp only [List.length_cons, List.length_nil, Nat.zero_add, Nat.reduceAdd] at HL2 ⊢))
      obtain ⟨gl, ol, ea, d0⟩ := els_one5 HL2.out
      obtain rfl := ea
      refine wp_region_free 22 85 (by kernel_rfl) (by kernel_rfl) rfl (by kernel_rfl) ?_; simp only [List.take_succ_cons, List.take_zero, List.drop_succ_cons, List.drop_zero]
      iterate 4 (apply free_pure rfl; focus (intro vs w hg hd;  (try simp [Region.binds] at hd); simp only [execOp, resolve, Option.map_some, Option.map_none, List.map_toArray, List.map_cons, List.map_nil, rho_const, rho_func]; (repeat (conv in rho _ _ _ _ (Operand.tmp _) => whnf)); (try simp only [hd]); go_simp; (repeat (conv in rho _ _ _ _ (Operand.tmp _) => whnf)); (try simp only [hd]);  rfl))
      iterate 10 (first | (apply free_pure rfl; focus (intro vs w hg hd; have q0 := hg.cell d0; have q1 := hg.cell c0; have q2 := hg.cell c1; have q3 := hg.cell c2; (try simp [Region.binds] at hd); simp only [execOp, resolve, Option.map_some, Option.map_none, List.map_toArray, List.map_cons, List.map_nil, rho_const, rho_func]; (repeat (conv in rho _ _ _ _ (Operand.tmp _) => whnf)); (try simp only [hd]); go_simp; (repeat (conv in rho _ _ _ _ (Operand.tmp _) => whnf)); (try simp only [hd]);  rfl)) | (apply free_gpure; (focus (intro vs w hg hd; (try simp [Region.binds] at hd); (first | (simp [Region.wanted, yieldR]; (repeat (conv in rho _ _ _ _ (Operand.tmp _) => whnf)); simp [hd]; done) | (simp [Region.wanted, yieldR]; (repeat (conv in rho _ _ _ _ (Operand.tmp _) => whnf)); (try simp [hd]); simp [*])))); focus (intro vs w hg hd; have q0 := hg.cell d0; have q1 := hg.cell c0; have q2 := hg.cell c1; have q3 := hg.cell c2; (try simp [Region.binds] at hd); simp only [execOp, resolve, Option.map_some, Option.map_none, List.map_toArray, List.map_cons, List.map_nil, rho_const, rho_func]; (repeat (conv in rho _ _ _ _ (Operand.tmp _) => whnf)); (try simp only [hd]); go_simp; (repeat (conv in rho _ _ _ _ (Operand.tmp _) => whnf)); (try simp only [hd]);  rfl)))
      refine free_guarded (fun v_ _ => v_ = .agg (ptA x)) (val_mono' _) (fun vs wq hg hd => by
        (try simp [Region.binds] at hd)
        refine ⟨?_, ?_⟩
        · (first | (simp [Region.wanted, yieldR]; (repeat (conv in rho _ _ _ _ (Operand.tmp _) => whnf)); simp [hd]; done) | (simp [Region.wanted, yieldR]; (repeat (conv in rho _ _ _ _ (Operand.tmp _) => whnf)); (try simp [hd]); simp [*]))
        · exact dk_load 27 (.tmp 1) ⟨w.heap.size, 0, none⟩ _ rfl (by first | rfl | (conv => lhs; whnf)) (run_load_pt (Row.grows HX2.out (Grows.of_drew hg))) ⟨Grows.refl _, rfl⟩) ?_
      refine free_guarded (fun v_ _ => v_ = .bool false) (val_mono _) (fun vs w hg hd => by
                simp [Region.binds] at hd
                refine ⟨?_, ?_⟩
                · simp [Region.wanted, yieldR]
                  repeat (conv in rho _ _ _ _ (Operand.tmp _) => whnf)
                  simp [hd]
                · simp only [Does]
                  simp only [execOp, resolve, Option.map_some, Option.map_none, List.map_toArray, List.map_cons, List.map_nil, rho_const, rho_func]
                  (repeat (conv in rho _ _ _ _ (Operand.tmp _) => whnf))
                  (try simp only [hd])
                  go_simp
                  (repeat (conv in rho _ _ _ _ (Operand.tmp _) => whnf))
                  exact HMf.out _) ?_
      iterate 3 (first | (apply free_pure rfl; focus (intro vs w hg hd;  (try simp [Region.binds] at hd); simp only [execOp, resolve, Option.map_some, Option.map_none, List.map_toArray, List.map_cons, List.map_nil, rho_const, rho_func]; (repeat (conv in rho _ _ _ _ (Operand.tmp _) => whnf)); (try simp only [hd]); go_simp; (repeat (conv in rho _ _ _ _ (Operand.tmp _) => whnf)); (try simp only [hd]);  rfl)) | (apply free_gpure; (focus (intro vs w hg hd; (try simp [Region.binds] at hd); (first | (simp [Region.wanted, yieldR]; (repeat (conv in rho _ _ _ _ (Operand.tmp _) => whnf)); simp [hd]; done) | (simp [Region.wanted, yieldR]; (repeat (conv in rho _ _ _ _ (Operand.tmp _) => whnf)); (try simp [hd]); simp [*])))); focus (intro vs w hg hd;  (try simp [Region.binds] at hd); simp only [execOp, resolve, Option.map_some, Option.map_none, List.map_toArray, List.map_cons, List.map_nil, rho_const, rho_func]; (repeat (conv in rho _ _ _ _ (Operand.tmp _) => whnf)); (try simp only [hd]); go_simp; (repeat (conv in rho _ _ _ _ (Operand.tmp _) => whnf)); (try simp only [hd]);  rfl)))
      refine free_guarded (fun v_ _ => v_ = .bool true) (val_mono _) (fun vs w hg hd => by
                simp [Region.binds] at hd
                refine ⟨?_, ?_⟩
                · simp [Region.wanted, yieldR]
                  repeat (conv in rho _ _ _ _ (Operand.tmp _) => whnf)
                  simp [hd]
                · simp only [Does]
                  simp only [execOp, resolve, Option.map_some, Option.map_none, List.map_toArray, List.map_cons, List.map_nil, rho_const, rho_func]
                  (repeat (conv in rho _ _ _ _ (Operand.tmp _) => whnf))
                  (try simp only [hd])
                  go_simp
                  (repeat (conv in rho _ _ _ _ (Operand.tmp _) => whnf))
                  exact wakes5_any _ (HGl.out.grows (HG2.out.trans (Grows.of_drew hg)))) ?_
      repeat (first | (apply free_pure rfl; focus (intro vs w hg hd;  (try simp [Region.binds] at hd); simp only [execOp, resolve, Option.map_some, Option.map_none, List.map_toArray, List.map_cons, List.map_nil, rho_const, rho_func]; (repeat (conv in rho _ _ _ _ (Operand.tmp _) => whnf)); (try simp only [hd]); go_simp; (repeat (conv in rho _ _ _ _ (Operand.tmp _) => whnf)); (try simp only [hd]);  rfl)) | (apply free_gpure; (focus (intro vs w hg hd; (try simp [Region.binds] at hd); (first | (simp [Region.wanted, yieldR]; (repeat (conv in rho _ _ _ _ (Operand.tmp _) => whnf)); simp [hd]; done) | (simp [Region.wanted, yieldR]; (repeat (conv in rho _ _ _ _ (Operand.tmp _) => whnf)); (try simp [hd]); simp [*])))); focus (intro vs w hg hd;  (try simp [Region.binds] at hd); simp only [execOp, resolve, Option.map_some, Option.map_none, List.map_toArray, List.map_cons, List.map_nil, rho_const, rho_func]; (repeat (conv in rho _ _ _ _ (Operand.tmp _) => whnf)); (try simp only [hd]); go_simp; (repeat (conv in rho _ _ _ _ (Operand.tmp _) => whnf)); (try simp only [hd]);  rfl)))
      intro vs w' hg hv; have h21 := hv 21 (by omega); simp at h21; simp only [putL, dstAt, List.range, List.range.loop, if_true, List.getElem?_toArray, List.getElem?_cons_zero, List.getElem?_cons_succ, Option.bind_some, Act.put, List.setIfInBounds_toArray, List.set_cons_zero, List.set_cons_succ]
      rw [h21]
      have hgW := Lib.hid (HG2.out.trans (Grows.of_drew hg))
      clear hv h21 hg
      clear c0 c1 c2 d0
      generalize vs 0 = z0, vs 1 = z1, vs 2 = z2, vs 3 = z3, vs 4 = z4, vs 5 = z5, vs 6 = z6, vs 7 = z7, vs 8 = z8, vs 9 = z9, vs 10 = z10, vs 11 = z11, vs 12 = z12, vs 13 = z13, vs 14 = z14, vs 15 = z15, vs 16 = z16, vs 17 = z17, vs 18 = z18, vs 19 = z19, vs 20 = z20, vs 21 = z21 at *
      go_wp2
      go_ret
      exact ⟨rfl, hgW.out⟩
    · have HWe : Hid ((PtM.wheres x).map hI = []) := by rw [wheres_none hn h3]; rfl
      have hR : PtM.right x 256 = false := by
        have hk : ¬ x.kind = 3#8 := fun e => h3 ((bI_eq_of (n := 3) (by decide)).2 e)
        unfold PtM.right PtM.second
        rw [if_neg hk, hn, Bool.false_and, Bool.and_false, Bool.false_and]
      have HRf : Hid (∀ W, Calls Tryd.prog 12 #[.agg (ptA x), .int .i64 256] W fun e w' => e = .returned (.bool false) ∧ Grows W w') := fun W => by rw [← hR]; exact right_any x 256 W
      clear hG HNo hn h12 hR
      go_enter Tryd.func6, Tryd.ntmps6
      go_wp2_with (first
        | ((with_reducible refine wpList_load_pt (o := ⟨some 4, _, _, _, _, _⟩) ?_ (.tmp 1) ?_ w.heap.size x ?_ ?_ ?_); exact rfl; exact rfl; exact rfl; exact HX.out)
        | (go_at_call 26; refine (HWh.out _).mono ?_; rintro e w2 ⟨r, rfl, hr, g⟩; rw [HWe.out] at hr; have HX2 := Lib.hid (Row.grows HX.out g); have HG2 := Lib.hid (HG.out.trans g); have c0 := (HX2.out.cell 0).trans (ptA_0 x); obtain ⟨Al, cl, rfl, _⟩ := hr.els.form; clear hr g)
        | ((with_reducible refine wpList_loadG_pt (o := ⟨some 73, _, _, _, _, _⟩) ?_ (.tmp 1) ?_ w.heap.size x ?_ ?_ ?_); exact rfl; exact rfl; exact rfl; exact HX2.out)
        | (go_at_call 10; (with_reducible refine (HMf.out _).mono ?_); rintro e w3 ⟨rfl, g⟩; have HX3 := Lib.hid (Row.grows HX2.out g); have HG3 := Lib.hid (HG2.out.trans g); clear g)
        | ((with_reducible refine wpList_loadG_pt (o := ⟨some 78, _, _, _, _, _⟩) ?_ (.tmp 1) ?_ w.heap.size x ?_ ?_ ?_); exact rfl; exact rfl; exact rfl; exact HX3.out)
        | (go_at_call 12; (with_reducible refine (HRf.out _).mono ?_); rintro e w4 ⟨rfl, g⟩; have HG4 := Lib.hid (HG3.out.trans g); clear g)
        | (go_at_call 7; (with_reducible refine (wakes5_any _ (HGl.out.grows HG4.out)).mono ?_); rintro e w5 ⟨rfl, g⟩; have HG5 := Lib.hid (HG4.out.trans g); clear g))
      go_ret
      exact ⟨rfl, HG5.out⟩
end Go.Proofs.YtnigflobmiiefaaDoor
