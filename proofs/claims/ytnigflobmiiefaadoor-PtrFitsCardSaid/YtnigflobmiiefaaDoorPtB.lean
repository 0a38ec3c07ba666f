/- PtFits PtOf PtNums -/
import Derived.Test.YtnigflobmiiefaaDoorPtA
import Derived.Test.YtnigflobmiiefaaDoorCrcPages
import Derived.Test.YtnigflobmiiefaaDoorBaseB
/- A page's sum; does a pointer fit a page? -/
namespace Go.Proofs.YtnigflobmiiefaaDoor
open Go.RowKit
set_option linter.unusedVariables false
set_option linter.unusedSimpArgs false
theorem pageA_map (l : List (BitVec 8)) : pageA l = (l.map byteV).toArray := rfl
theorem psum_any (l : List (BitVec 8)) (hl : l.length = 256) (w : World) :
    Calls Tryd.prog 16 #[.agg (pageA l)] w fun e w' => e = .returned (.int .u64 (uI (CrcM.sum l))) ∧ Grows w w' := by
  have HP := Lib.hid (PRow.new (l := l) w hl)
  have HG := Lib.hid (Grows.alloc w (.cells (pageA l) 29))
  have HC := Lib.hid (fun W => page_any l hl W)
  go_enter Tryd.func16, Tryd.ntmps16
  go_wp2_with (first
    | ((with_reducible refine wpList_load_page (o := ⟨some 3, _, _, _, _, _⟩) ?_ (.tmp 1) ?_ w.heap.size l ?_ ?_ ?_); exact rfl; exact rfl; exact rfl; exact HP.out)
    | (go_at_call 33; refine (HC.out _).mono ?_; rintro e w2 ⟨rfl, hb2⟩))
  go_ret
  exact ⟨rfl, HG.out.trans hb2⟩
theorem rsumP_any (l : List (BitVec 8)) (hl : l.length = 256) (w : World) :
    Calls Tryd.prog 17 #[.agg (pageA l)] w fun e w' => e = .returned (.int .u64 (uI (CrcM.sum l))) ∧ Grows w w' := by
  have HP := Lib.hid (PRow.new (l := l) w hl)
  have HG := Lib.hid (Grows.alloc w (.cells (pageA l) 29))
  have HC := Lib.hid (fun W => rpage_any l hl W)
  go_enter Tryd.func17, Tryd.ntmps17
  go_wp2_with (first
    | ((with_reducible refine wpList_load_page (o := ⟨some 3, _, _, _, _, _⟩) ?_ (.tmp 1) ?_ w.heap.size l ?_ ?_ ?_); exact rfl; exact rfl; exact rfl; exact HP.out)
    | (go_at_call 28; refine (HC.out _).mono ?_; rintro e w2 ⟨rfl, hb2⟩))
  go_ret
  exact ⟨rfl, HG.out.trans hb2⟩
theorem fits_any (x : Pt) (l : List (BitVec 8)) (hl : l.length = 256) (w : World) :
    Calls Tryd.prog 14 #[.agg (ptA x), .agg (pageA l)] w fun e w' => e = .returned (.bool (PtM.fits x l)) ∧ Grows w w' := by
  have HG := Lib.hid ((Grows.alloc w (.cells (ptA x) 27)).trans (Grows.alloc _ (.cells (pageA l) 29)))
  have R0 : Row ((w.alloc (.cells (ptA x) 27)).alloc (.cells (pageA l) 29)) w.heap.size 27 (ptA x) := (Row.new w 27 (ptA x)).alloc _
  have HP : Hid (PRow ((w.alloc (.cells (ptA x) 27)).alloc (.cells (pageA l) 29)) (w.heap.size + 1) l) := by
    have := PRow.new (l := l) (w.alloc (.cells (ptA x) 27)) hl
    rwa [World.size_alloc] at this
  have HC := Lib.hid (fun W => psum_any l hl W)
  have HT : Hid (PtM.fits x l = (bI x.kind != 0 && (uI x.sum == uI (CrcM.sum l)))) := by
    have h0 := bI_eq_of (x := x.kind) (n := 0) (by decide)
    show PtM.fits x l = _
    unfold PtM.fits
    rw [uI_beq]
    congr 1
    rw [Bool.eq_iff_iff]
    simp only [bne_iff_ne, ne_eq]
    exact ⟨fun h e => h (h0.1 e), fun h e => h (h0.2 e)⟩
  have c0 := (R0.cell 0).trans (ptA_0 x)
  have c4 := (R0.cell 4).trans (ptA_4 x)
  clear R0
  go_enter Tryd.func14, Tryd.ntmps14
  by_cases h0 : bI x.kind = 0
  · have hk : (bI x.kind != 0) = false := by rw [h0]; rfl
    go_wp2
    refine wp_region_free 11 15 (by kernel_rfl) (by kernel_rfl) rfl (by kernel_rfl) ?_; simp only [List.take_succ_cons, List.take_zero, List.drop_succ_cons, List.drop_zero]
    repeat (apply free_pure rfl; focus (intro vs w hg hd; have q0 := hg.cell c0; (try simp [Region.binds] at hd); simp only [execOp, resolve, Option.map_some, Option.map_none, List.map_toArray, List.map_cons, List.map_nil, rho_const, rho_func]; (repeat (conv in rho _ _ _ _ (Operand.tmp _) => whnf)); (try simp only [hd]); go_simp; (repeat (conv in rho _ _ _ _ (Operand.tmp _) => whnf)); (try simp only [hd]);  rfl))
    repeat (refine free_passed (fun vs wq hg hd => ?_) ?_; focus ((try simp [Region.binds] at hd); (first | (simp [Region.wanted, yieldR]; (repeat (conv in rho _ _ _ _ (Operand.tmp _) => whnf)); simp [hd]; done) | (simp [Region.wanted, yieldR]; (repeat (conv in rho _ _ _ _ (Operand.tmp _) => whnf)); (try simp [hd]); simp [*]))))
    repeat (apply free_pure rfl; focus (intro vs w hg hd;  (try simp [Region.binds] at hd); simp only [execOp, resolve, Option.map_some, Option.map_none, List.map_toArray, List.map_cons, List.map_nil, rho_const, rho_func]; (repeat (conv in rho _ _ _ _ (Operand.tmp _) => whnf)); (try simp only [hd]); go_simp; (repeat (conv in rho _ _ _ _ (Operand.tmp _) => whnf)); (try simp only [hd]);  rfl))
    intro vs w' hg hv; have h10 := hv 10 (by omega); simp at h10; simp only [putL, dstAt, List.range, List.range.loop, if_true, List.getElem?_toArray, List.getElem?_cons_zero, List.getElem?_cons_succ, Option.bind_some, Act.put, List.setIfInBounds_toArray, List.set_cons_zero, List.set_cons_succ]
    rw [h10]
    have hgW := Lib.hid (HG.out.trans (Grows.of_drew hg))
    clear hv h10 hg c0 c4
    generalize vs 0 = z0, vs 1 = z1, vs 2 = z2, vs 3 = z3, vs 4 = z4, vs 5 = z5, vs 6 = z6, vs 7 = z7, vs 8 = z8, vs 9 = z9 at *
    go_wp2
    go_ret
    exact ⟨by rw [HT.out, hk]; rfl, hgW.out⟩
  · have hk : (bI x.kind != 0) = true := by simpa using h0
    rw [hk, Bool.true_and] at HT
    have HT' := HT.out
    generalize PtM.fits x l = t at *
    subst HT'
    go_wp2
    refine wp_region_free 11 15 (by kernel_rfl) (by kernel_rfl) rfl (by kernel_rfl) ?_; simp only [List.take_succ_cons, List.take_zero, List.drop_succ_cons, List.drop_zero]
    repeat (apply free_pure rfl; focus (intro vs w hg hd; have q0 := hg.cell c0; (try simp [Region.binds] at hd); simp only [execOp, resolve, Option.map_some, Option.map_none, List.map_toArray, List.map_cons, List.map_nil, rho_const, rho_func]; (repeat (conv in rho _ _ _ _ (Operand.tmp _) => whnf)); (try simp only [hd]); go_simp; (repeat (conv in rho _ _ _ _ (Operand.tmp _) => whnf)); (try simp only [hd]); (try simp only [hk]); rfl))
    iterate 2 (first | (apply free_pure rfl; focus (intro vs w hg hd; have q0 := hg.cell c4; (try simp [Region.binds] at hd); simp only [execOp, resolve, Option.map_some, Option.map_none, List.map_toArray, List.map_cons, List.map_nil, rho_const, rho_func]; (repeat (conv in rho _ _ _ _ (Operand.tmp _) => whnf)); (try simp only [hd]); go_simp; (repeat (conv in rho _ _ _ _ (Operand.tmp _) => whnf)); (try simp only [hd]);  rfl)) | (apply free_gpure; (focus (intro vs w hg hd; (try simp [Region.binds] at hd); (first | (simp [Region.wanted, yieldR]; (repeat (conv in rho _ _ _ _ (Operand.tmp _) => whnf)); simp [hd]; done) | (simp [Region.wanted, yieldR]; (repeat (conv in rho _ _ _ _ (Operand.tmp _) => whnf)); (try simp [hd]); simp [*])))); focus (intro vs w hg hd; have q0 := hg.cell c4; (try simp [Region.binds] at hd); simp only [execOp, resolve, Option.map_some, Option.map_none, List.map_toArray, List.map_cons, List.map_nil, rho_const, rho_func]; (repeat (conv in rho _ _ _ _ (Operand.tmp _) => whnf)); (try simp only [hd]); go_simp; (repeat (conv in rho _ _ _ _ (Operand.tmp _) => whnf)); (try simp only [hd]);  rfl)))
    refine free_guarded (fun v_ _ => v_ = .agg (pageA l)) (val_mono' _) (fun vs wq hg hd => by
      (try simp [Region.binds] at hd)
      refine ⟨?_, ?_⟩
      · simp [Region.wanted, yieldR]
        repeat (conv in rho _ _ _ _ (Operand.tmp _) => whnf)
        simp [hd]
      · exact dk_load 29 (.tmp 3) ⟨w.heap.size + 1, 0, none⟩ _ rfl (by first | rfl | (conv => lhs; whnf)) (run_load_page (HP.out.grows (Grows.of_drew hg))) ⟨Grows.refl _, rfl⟩) ?_
    refine free_guarded (fun v_ _ => v_ = .int .u64 (uI (CrcM.sum l))) (val_mono _) (fun vs w hg hd => by
                simp [Region.binds] at hd
                refine ⟨?_, ?_⟩
                · simp [Region.wanted, yieldR]
                  repeat (conv in rho _ _ _ _ (Operand.tmp _) => whnf)
                  simp [hd]
                · simp only [Does]
                  simp only [execOp, resolve, Option.map_some, Option.map_none, List.map_toArray, List.map_cons, List.map_nil, rho_const, rho_func]
                  (repeat (conv in rho _ _ _ _ (Operand.tmp _) => whnf))
                  (try simp only [hd])
                  go_simp
                  (repeat (conv in rho _ _ _ _ (Operand.tmp _) => whnf))
                  exact HC.out _) ?_
    repeat (first | (apply free_pure rfl; focus (intro vs w hg hd;  (try simp [Region.binds] at hd); simp only [execOp, resolve, Option.map_some, Option.map_none, List.map_toArray, List.map_cons, List.map_nil, rho_const, rho_func]; (repeat (conv in rho _ _ _ _ (Operand.tmp _) => whnf)); (try simp only [hd]); go_simp; (repeat (conv in rho _ _ _ _ (Operand.tmp _) => whnf)); (try simp only [hd]);  rfl)) | (apply free_gpure; (focus (intro vs w hg hd; (try simp [Region.binds] at hd); (first | (simp [Region.wanted, yieldR]; (repeat (conv in rho _ _ _ _ (Operand.tmp _) => whnf)); simp [hd]; done) | (simp [Region.wanted, yieldR]; (repeat (conv in rho _ _ _ _ (Operand.tmp _) => whnf)); (try simp [hd]); simp [*])))); focus (intro vs w hg hd;  (try simp [Region.binds] at hd); simp only [execOp, resolve, Option.map_some, Option.map_none, List.map_toArray, List.map_cons, List.map_nil, rho_const, rho_func]; (repeat (conv in rho _ _ _ _ (Operand.tmp _) => whnf)); (try simp only [hd]); go_simp; (repeat (conv in rho _ _ _ _ (Operand.tmp _) => whnf)); (try simp only [hd]);  rfl)))
    intro vs w' hg hv; have h10 := hv 10 (by omega); simp at h10; simp only [putL, dstAt, List.range, List.range.loop, if_true, List.getElem?_toArray, List.getElem?_cons_zero, List.getElem?_cons_succ, Option.bind_some, Act.put, List.setIfInBounds_toArray, List.set_cons_zero, List.set_cons_succ]
    rw [h10]
    have hgW := Lib.hid (HG.out.trans (Grows.of_drew hg))
    clear hv h10 hg c0 c4
    generalize vs 0 = z0, vs 1 = z1, vs 2 = z2, vs 3 = z3, vs 4 = z4, vs 5 = z5, vs 6 = z6, vs 7 = z7, vs 8 = z8, vs 9 = z9 at *
    go_wp2
    go_ret
    exact ⟨rfl, hgW.out⟩
theorem rfits_any (x : Pt) (l : List (BitVec 8)) (hl : l.length = 256) (w : World) :
    Calls Tryd.prog 15 #[.agg (ptA x), .agg (pageA l)] w fun e w' => e = .returned (.bool (PtM.fits x l)) ∧ Grows w w' := by
  have HG := Lib.hid ((Grows.alloc w (.cells (ptA x) 27)).trans (Grows.alloc _ (.cells (pageA l) 29)))
  have R0 : Row ((w.alloc (.cells (ptA x) 27)).alloc (.cells (pageA l) 29)) w.heap.size 27 (ptA x) := (Row.new w 27 (ptA x)).alloc _
  have HP : Hid (PRow ((w.alloc (.cells (ptA x) 27)).alloc (.cells (pageA l) 29)) (w.heap.size + 1) l) := by
    have := PRow.new (l := l) (w.alloc (.cells (ptA x) 27)) hl
    rwa [World.size_alloc] at this
  have HC := Lib.hid (fun W => rsumP_any l hl W)
  have HT : Hid (PtM.fits x l = (bI x.kind != 0 && (uI x.sum == uI (CrcM.sum l)))) := by
    have h0 := bI_eq_of (x := x.kind) (n := 0) (by decide)
    show PtM.fits x l = _
    unfold PtM.fits
    rw [uI_beq]
    congr 1
    rw [Bool.eq_iff_iff]
    simp only [bne_iff_ne, ne_eq]
    exact ⟨fun h e => h (h0.1 e), fun h e => h (h0.2 e)⟩
  have c0 := (R0.cell 0).trans (ptA_0 x)
  have c4 := (R0.cell 4).trans (ptA_4 x)
  clear R0
  go_enter Tryd.func15, Tryd.ntmps15
  by_cases h0 : bI x.kind = 0
  · have hk : (bI x.kind != 0) = false := by rw [h0]; rfl
    go_wp2
    refine wp_region_free 11 15 (by kernel_rfl) (by kernel_rfl) rfl (by kernel_rfl) ?_; simp only [List.take_succ_cons, List.take_zero, List.drop_succ_cons, List.drop_zero]
    repeat (apply free_pure rfl; focus (intro vs w hg hd; have q0 := hg.cell c0; (try simp [Region.binds] at hd); simp only [execOp, resolve, Option.map_some, Option.map_none, List.map_toArray, List.map_cons, List.map_nil, rho_const, rho_func]; (repeat (conv in rho _ _ _ _ (Operand.tmp _) => whnf)); (try simp only [hd]); go_simp; (repeat (conv in rho _ _ _ _ (Operand.tmp _) => whnf)); (try simp only [hd]);  rfl))
    repeat (refine free_passed (fun vs wq hg hd => ?_) ?_; focus ((try simp [Region.binds] at hd); (first | (simp [Region.wanted, yieldR]; (repeat (conv in rho _ _ _ _ (Operand.tmp _) => whnf)); simp [hd]; done) | (simp [Region.wanted, yieldR]; (repeat (conv in rho _ _ _ _ (Operand.tmp _) => whnf)); (try simp [hd]); simp [*]))))
    repeat (apply free_pure rfl; focus (intro vs w hg hd;  (try simp [Region.binds] at hd); simp only [execOp, resolve, Option.map_some, Option.map_none, List.map_toArray, List.map_cons, List.map_nil, rho_const, rho_func]; (repeat (conv in rho _ _ _ _ (Operand.tmp _) => whnf)); (try simp only [hd]); go_simp; (repeat (conv in rho _ _ _ _ (Operand.tmp _) => whnf)); (try simp only [hd]);  rfl))
    intro vs w' hg hv; have h10 := hv 10 (by omega); simp at h10; simp only [putL, dstAt, List.range, List.range.loop, if_true, List.getElem?_toArray, List.getElem?_cons_zero, List.getElem?_cons_succ, Option.bind_some, Act.put, List.setIfInBounds_toArray, List.set_cons_zero, List.set_cons_succ]
    rw [h10]
    have hgW := Lib.hid (HG.out.trans (Grows.of_drew hg))
    clear hv h10 hg c0 c4
    generalize vs 0 = z0, vs 1 = z1, vs 2 = z2, vs 3 = z3, vs 4 = z4, vs 5 = z5, vs 6 = z6, vs 7 = z7, vs 8 = z8, vs 9 = z9 at *
    go_wp2
    go_ret
    exact ⟨by rw [HT.out, hk]; rfl, hgW.out⟩
  · have hk : (bI x.kind != 0) = true := by simpa using h0
    rw [hk, Bool.true_and] at HT
    have HT' := HT.out
    generalize PtM.fits x l = t at *
    subst HT'
    go_wp2
    refine wp_region_free 11 15 (by kernel_rfl) (by kernel_rfl) rfl (by kernel_rfl) ?_; simp only [List.take_succ_cons, List.take_zero, List.drop_succ_cons, List.drop_zero]
    repeat (apply free_pure rfl; focus (intro vs w hg hd; have q0 := hg.cell c0; (try simp [Region.binds] at hd); simp only [execOp, resolve, Option.map_some, Option.map_none, List.map_toArray, List.map_cons, List.map_nil, rho_const, rho_func]; (repeat (conv in rho _ _ _ _ (Operand.tmp _) => whnf)); (try simp only [hd]); go_simp; (repeat (conv in rho _ _ _ _ (Operand.tmp _) => whnf)); (try simp only [hd]); (try simp only [hk]); rfl))
    iterate 2 (first | (apply free_pure rfl; focus (intro vs w hg hd; have q0 := hg.cell c4; (try simp [Region.binds] at hd); simp only [execOp, resolve, Option.map_some, Option.map_none, List.map_toArray, List.map_cons, List.map_nil, rho_const, rho_func]; (repeat (conv in rho _ _ _ _ (Operand.tmp _) => whnf)); (try simp only [hd]); go_simp; (repeat (conv in rho _ _ _ _ (Operand.tmp _) => whnf)); (try simp only [hd]);  rfl)) | (apply free_gpure; (focus (intro vs w hg hd; (try simp [Region.binds] at hd); (first | (simp [Region.wanted, yieldR]; (repeat (conv in rho _ _ _ _ (Operand.tmp _) => whnf)); simp [hd]; done) | (simp [Region.wanted, yieldR]; (repeat (conv in rho _ _ _ _ (Operand.tmp _) => whnf)); (try simp [hd]); simp [*])))); focus (intro vs w hg hd; have q0 := hg.cell c4; (try simp [Region.binds] at hd); simp only [execOp, resolve, Option.map_some, Option.map_none, List.map_toArray, List.map_cons, List.map_nil, rho_const, rho_func]; (repeat (conv in rho _ _ _ _ (Operand.tmp _) => whnf)); (try simp only [hd]); go_simp; (repeat (conv in rho _ _ _ _ (Operand.tmp _) => whnf)); (try simp only [hd]);  rfl)))
    refine free_guarded (fun v_ _ => v_ = .agg (pageA l)) (val_mono' _) (fun vs wq hg hd => by
      (try simp [Region.binds] at hd)
      refine ⟨?_, ?_⟩
      · simp [Region.wanted, yieldR]
        repeat (conv in rho _ _ _ _ (Operand.tmp _) => whnf)
        simp [hd]
      · exact dk_load 29 (.tmp 3) ⟨w.heap.size + 1, 0, none⟩ _ rfl (by first | rfl | (conv => lhs; whnf)) (run_load_page (HP.out.grows (Grows.of_drew hg))) ⟨Grows.refl _, rfl⟩) ?_
    refine free_guarded (fun v_ _ => v_ = .int .u64 (uI (CrcM.sum l))) (val_mono _) (fun vs w hg hd => by
                simp [Region.binds] at hd
                refine ⟨?_, ?_⟩
                · simp [Region.wanted, yieldR]
                  repeat (conv in rho _ _ _ _ (Operand.tmp _) => whnf)
                  simp [hd]
                · simp only [Does]
                  simp only [execOp, resolve, Option.map_some, Option.map_none, List.map_toArray, List.map_cons, List.map_nil, rho_const, rho_func]
                  (repeat (conv in rho _ _ _ _ (Operand.tmp _) => whnf))
                  (try simp only [hd])
                  go_simp
                  (repeat (conv in rho _ _ _ _ (Operand.tmp _) => whnf))
                  exact HC.out _) ?_
    repeat (first | (apply free_pure rfl; focus (intro vs w hg hd;  (try simp [Region.binds] at hd); simp only [execOp, resolve, Option.map_some, Option.map_none, List.map_toArray, List.map_cons, List.map_nil, rho_const, rho_func]; (repeat (conv in rho _ _ _ _ (Operand.tmp _) => whnf)); (try simp only [hd]); go_simp; (repeat (conv in rho _ _ _ _ (Operand.tmp _) => whnf)); (try simp only [hd]);  rfl)) | (apply free_gpure; (focus (intro vs w hg hd; (try simp [Region.binds] at hd); (first | (simp [Region.wanted, yieldR]; (repeat (conv in rho _ _ _ _ (Operand.tmp _) => whnf)); simp [hd]; done) | (simp [Region.wanted, yieldR]; (repeat (conv in rho _ _ _ _ (Operand.tmp _) => whnf)); (try simp [hd]); simp [*])))); focus (intro vs w hg hd;  (try simp [Region.binds] at hd); simp only [execOp, resolve, Option.map_some, Option.map_none, List.map_toArray, List.map_cons, List.map_nil, rho_const, rho_func]; (repeat (conv in rho _ _ _ _ (Operand.tmp _) => whnf)); (try simp only [hd]); go_simp; (repeat (conv in rho _ _ _ _ (Operand.tmp _) => whnf)); (try simp only [hd]);  rfl)))
    intro vs w' hg hv; have h10 := hv 10 (by omega); simp at h10; simp only [putL, dstAt, List.range, List.range.loop, if_true, List.getElem?_toArray, List.getElem?_cons_zero, List.getElem?_cons_succ, Option.bind_some, Act.put, List.setIfInBounds_toArray, List.set_cons_zero, List.set_cons_succ]
    rw [h10]
    have hgW := Lib.hid (HG.out.trans (Grows.of_drew hg))
    clear hv h10 hg c0 c4
    generalize vs 0 = z0, vs 1 = z1, vs 2 = z2, vs 3 = z3, vs 4 = z4, vs 5 = z5, vs 6 = z6, vs 7 = z7, vs 8 = z8, vs 9 = z9 at *
    go_wp2
    go_ret
    exact ⟨rfl, hgW.out⟩
end Go.Proofs.YtnigflobmiiefaaDoor
/- The pointer of these; a pointer as its numbers, and back. -/
namespace Go.Proofs.YtnigflobmiiefaaDoor
open Go.RowKit
set_option linter.unusedVariables false
set_option linter.unusedSimpArgs false
def nouA : Array Value := #[.int .u8 0, .int .u16 0, .int .u16 0, .int .u32 0, .int .u64 0]
theorem grown_grows {w0 w w' : World} {g : Nat} (h : Grows w0 w) (hg : w.grownBy w' (some g)) (hn : w0.heap.size ≤ g) : Grows w0 w' := h.grown hg h.size (fun k e => by cases e; exact hn)
theorem setc_grown (W : World) (b i : Nat) (v : Value) : W.grownBy (W.setCell ⟨b, i, none⟩ v) (some b) :=
  ⟨rfl, rfl, rfl, by simp, fun k hk hne => Below.heap_setCell W ⟨b, i, none⟩ v k (fun e => hne (by rw [e]))⟩
theorem of_any (k : BitVec 8) (a b : Int) (birth : BitVec 32) (l : List (BitVec 8)) (hl : l.length = 256) (w : World) :
    Calls Tryd.prog 18 #[.int .u8 (bI k), .int .i64 a, .int .i64 b, .int .u32 (wI birth), .agg (pageA l)] w fun e w' => e = .returned (.agg (ptA (PtM.of k a b birth l))) ∧ Grows w w' := by
  have HP : Hid (PRow ((w.alloc (.cells (pageA l) 29)).alloc (.cells #[.int .u8 0, .int .u16 0, .int .u16 0, .int .u32 0, .int .u64 0] 27)) w.heap.size l) := (PRow.new (l := l) w hl).alloc _
  have HG := Lib.hid ((Grows.alloc w (.cells (pageA l) 29)).trans (Grows.alloc _ (.cells #[.int .u8 0, .int .u16 0, .int .u16 0, .int .u32 0, .int .u64 0] 27)))
  have HR : Hid (Row ((w.alloc (.cells (pageA l) 29)).alloc (.cells #[.int .u8 0, .int .u16 0, .int .u16 0, .int .u32 0, .int .u64 0] 27)) (w.heap.size + 1) 27 #[.int .u8 0, .int .u16 0, .int .u16 0, .int .u32 0, .int .u64 0]) := by
    have := Row.new (w.alloc (.cells (pageA l) 29)) 27 #[.int .u8 0, .int .u16 0, .int .u16 0, .int .u32 0, .int .u64 0]
    rwa [World.size_alloc] at this
  have HC := Lib.hid (fun W => psum_any l hl W)
  have h3 := bI_eq_of (x := k) (n := 3) (by decide)
  have hwa := wrap_u16_int a
  have hwb := wrap_u16_int b
  have HS : Hid (PtM.of k a b birth l = ⟨k, BitVec.ofInt 16 a, if k = 3#8 then 0#16 else BitVec.ofInt 16 b, birth, CrcM.sum l⟩) := rfl
  generalize PtM.of k a b birth l = x at *
  by_cases hk : bI k = 3
  · rw [if_pos (h3.1 hk)] at HS
    obtain rfl := h3.1 hk
    have hw0 : IntKind.u16.wrap 0 = hI 0#16 := by decide
    clear h3
    go_enter Tryd.func18, Tryd.ntmps18
    go_wp2_with (first
      | ((with_reducible refine wpList_load_page (o := ⟨some 20, _, _, _, _, _⟩) ?_ (.tmp 9) ?_ w.heap.size l ?_ ?_ ?_); exact rfl; exact rfl; exact rfl; exact HP.out)
      | (go_at_call 16; refine (HC.out _).mono ?_; rintro e w2 ⟨rfl, hb2⟩; have HR2 := Lib.hid (Row.grows HR.out hb2); have HG2 := Lib.hid (HG.out.trans hb2); clear hb2)
      | ((with_reducible refine wpList_store_pt ?_ (.tmp 10) (.tmp 22) ?_ (w.heap.size + 1) x #[.int .u8 0, .int .u16 0, .int .u16 0, .int .u32 0, .int .u64 0] ?_ ?_ ?_ ?_ ?_); exact rfl; exact rfl; exact rfl; (rw [HS.out]; exact rfl); exact rfl; exact HR2.out; intro w3 hr3 hg3))
    refine bodyPost_ret (results_pt (p := 10) (by exact rfl) _ (by exact rfl) hr3) rfl ?_
    exact ⟨rfl, grown_grows HG2.out hg3 (by omega)⟩
  · rw [if_neg (fun e => hk (h3.2 e))] at HS
    clear h3
    go_enter Tryd.func18, Tryd.ntmps18
    go_wp2_with (first
      | ((with_reducible refine wpList_load_page (o := ⟨some 20, _, _, _, _, _⟩) ?_ (.tmp 9) ?_ w.heap.size l ?_ ?_ ?_); exact rfl; exact rfl; exact rfl; exact HP.out)
      | (go_at_call 16; refine (HC.out _).mono ?_; rintro e w2 ⟨rfl, hb2⟩; have HR2 := Lib.hid (Row.grows HR.out hb2); have HG2 := Lib.hid (HG.out.trans hb2); clear hb2)
      | ((with_reducible refine wpList_store_pt ?_ (.tmp 10) (.tmp 22) ?_ (w.heap.size + 1) x #[.int .u8 0, .int .u16 0, .int .u16 0, .int .u32 0, .int .u64 0] ?_ ?_ ?_ ?_ ?_); exact rfl; exact rfl; exact rfl; (rw [HS.out]; exact rfl); exact rfl; exact HR2.out; intro w3 hr3 hg3))
    refine bodyPost_ret (results_pt (p := 10) (by exact rfl) _ (by exact rfl) hr3) rfl ?_
    exact ⟨rfl, grown_grows HG2.out hg3 (by omega)⟩
/-- A page, two pointers' blocks behind it. -/
theorem rof_any (k : BitVec 8) (a b : Int) (birth : BitVec 32) (l : List (BitVec 8)) (hl : l.length = 256) (w : World) :
    Calls Tryd.prog 19 #[.int .u8 (bI k), .int .i64 a, .int .i64 b, .int .u32 (wI birth), .agg (pageA l)] w fun e w' => e = .returned (.agg (ptA (PtM.of k a b birth l))) ∧ Grows w w' := by
  have HP : Hid (PRow ((w.alloc (.cells (pageA l) 29)).alloc (.cells #[.int .u8 0, .int .u16 0, .int .u16 0, .int .u32 0, .int .u64 0] 27)) w.heap.size l) := (PRow.new (l := l) w hl).alloc _
  have HG := Lib.hid ((Grows.alloc w (.cells (pageA l) 29)).trans (Grows.alloc _ (.cells #[.int .u8 0, .int .u16 0, .int .u16 0, .int .u32 0, .int .u64 0] 27)))
  have HR : Hid (Row ((w.alloc (.cells (pageA l) 29)).alloc (.cells #[.int .u8 0, .int .u16 0, .int .u16 0, .int .u32 0, .int .u64 0] 27)) (w.heap.size + 1) 27 #[.int .u8 0, .int .u16 0, .int .u16 0, .int .u32 0, .int .u64 0]) := by
    have := Row.new (w.alloc (.cells (pageA l) 29)) 27 #[.int .u8 0, .int .u16 0, .int .u16 0, .int .u32 0, .int .u64 0]
    rwa [World.size_alloc] at this
  have HC := Lib.hid (fun W => rsumP_any l hl W)
  have h3 := bI_eq_of (x := k) (n := 3) (by decide)
  have hwa := wrap_u16_int a
  have hwb := wrap_u16_int b
  have HS : Hid (PtM.of k a b birth l = ⟨k, BitVec.ofInt 16 a, if k = 3#8 then 0#16 else BitVec.ofInt 16 b, birth, CrcM.sum l⟩) := rfl
  generalize PtM.of k a b birth l = x at *
  obtain ⟨y, hy⟩ : ∃ y : Pt, y = ⟨k, BitVec.ofInt 16 a, BitVec.ofInt 16 b, birth, CrcM.sum l⟩ := ⟨_, rfl⟩
  have HY := Lib.hid hy
  clear hy
  by_cases hk : bI k = 3
  · rw [if_pos (h3.1 hk)] at HS
    obtain rfl := h3.1 hk
    clear h3
    have HX : Hid (∀ W' g, Row W' g 27 (ptA y) → Row (W'.setCell ⟨g, 2, none⟩ (.int .u16 0)) g 27 (ptA x)) := fun W' g h => by
      have := h.set 2 (.int .u16 0)
      rw [HS.out]
      rw [HY.out] at this
      exact this
    go_enter Tryd.func19, Tryd.ntmps19
    go_wp2_with (first
      | ((with_reducible refine wpList_load_page (o := ⟨some 19, _, _, _, _, _⟩) ?_ (.tmp 9) ?_ w.heap.size l ?_ ?_ ?_); exact rfl; exact rfl; exact rfl; exact HP.out)
      | (go_at_call 17; refine (HC.out _).mono ?_; rintro e w2 ⟨rfl, hb2⟩; have HR2 := Lib.hid ((Row.grows HR.out hb2).alloc (.cells #[.int .u8 0, .int .u16 0, .int .u16 0, .int .u32 0, .int .u64 0] 27)); have HG2 := Lib.hid ((HG.out.trans hb2).trans (Grows.alloc w2 (.cells #[.int .u8 0, .int .u16 0, .int .u16 0, .int .u32 0, .int .u64 0] 27))); have HN2 := Lib.hid (Row.new w2 27 #[.int .u8 0, .int .u16 0, .int .u16 0, .int .u32 0, .int .u64 0]); have HZ2 : Hid (w.heap.size + 1 < w2.heap.size) := Row.lt (Row.grows HR.out hb2); clear hb2)
      | ((with_reducible refine wpList_store_pt (o := ⟨none, .store _ (.tmp 11) _, _, _, _, _⟩) ?_ (.tmp 11) (.tmp 21) ?_ w2.heap.size y #[.int .u8 0, .int .u16 0, .int .u16 0, .int .u32 0, .int .u64 0] ?_ ?_ ?_ ?_ ?_); exact rfl; exact rfl; exact rfl; (rw [HY.out]; exact rfl); exact rfl; exact HN2.out; intro w3 hr3 hg3; have HR3 := Lib.hid (Row.grown HR2.out hg3 (by have := HZ2.out; simp; omega)); have hc3 := (hr3.cell 2).trans (ptA_2 y); have hf3 := hr3.frozen 2; have HG3 := Lib.hid (grown_grows HG2.out hg3 (by have := HZ2.out; omega)); have HW3 := Lib.hid (HX.out _ _ hr3); have HQ3 := Lib.hid (HR3.out.far (p := ⟨w2.heap.size, 2, none⟩) (by have := HZ2.out; simp; omega) (.int .u16 0)); have HG4 := Lib.hid (grown_grows HG3.out (setc_grown w3 w2.heap.size 2 (.int .u16 0)) (by have := HZ2.out; omega)); clear hr3 hg3)
      | ((with_reducible refine wpList_load_pt (o := ⟨some 26, _, _, _, _, _⟩) ?_ (.tmp 11) ?_ w2.heap.size x ?_ ?_ ?_); exact rfl; exact rfl; exact rfl; exact HW3.out)
      | ((with_reducible refine wpList_store_pt (o := ⟨none, .store _ (.tmp 10) _, _, _, _, _⟩) ?_ (.tmp 10) (.tmp 26) ?_ (w.heap.size + 1) x #[.int .u8 0, .int .u16 0, .int .u16 0, .int .u32 0, .int .u64 0] ?_ ?_ ?_ ?_ ?_); exact rfl; exact rfl; exact rfl; exact rfl; exact rfl; exact HQ3.out; intro w5 hr5 hg5))
    refine bodyPost_ret (results_pt (p := 10) (by exact rfl) _ (by exact rfl) hr5) rfl ?_
    exact ⟨rfl, grown_grows HG4.out hg5 (by omega)⟩
  · rw [if_neg (fun e => hk (h3.2 e))] at HS
    clear h3
    have HXY : Hid (y = x) := HY.out.trans HS.out.symm
    obtain rfl := HXY.out
    go_enter Tryd.func19, Tryd.ntmps19
    go_wp2_with (first
      | ((with_reducible refine wpList_load_page (o := ⟨some 19, _, _, _, _, _⟩) ?_ (.tmp 9) ?_ w.heap.size l ?_ ?_ ?_); exact rfl; exact rfl; exact rfl; exact HP.out)
      | (go_at_call 17; refine (HC.out _).mono ?_; rintro e w2 ⟨rfl, hb2⟩; have HR2 := Lib.hid ((Row.grows HR.out hb2).alloc (.cells #[.int .u8 0, .int .u16 0, .int .u16 0, .int .u32 0, .int .u64 0] 27)); have HG2 := Lib.hid ((HG.out.trans hb2).trans (Grows.alloc w2 (.cells #[.int .u8 0, .int .u16 0, .int .u16 0, .int .u32 0, .int .u64 0] 27))); have HN2 := Lib.hid (Row.new w2 27 #[.int .u8 0, .int .u16 0, .int .u16 0, .int .u32 0, .int .u64 0]); have HZ2 : Hid (w.heap.size + 1 < w2.heap.size) := Row.lt (Row.grows HR.out hb2); clear hb2)
      | ((with_reducible refine wpList_store_pt (o := ⟨none, .store _ (.tmp 11) _, _, _, _, _⟩) ?_ (.tmp 11) (.tmp 21) ?_ w2.heap.size y #[.int .u8 0, .int .u16 0, .int .u16 0, .int .u32 0, .int .u64 0] ?_ ?_ ?_ ?_ ?_); exact rfl; exact rfl; exact rfl; (rw [HY.out]; exact rfl); exact rfl; exact HN2.out; intro w3 hr3 hg3; have HR3 := Lib.hid (Row.grown HR2.out hg3 (by have := HZ2.out; simp; omega)); have HG3 := Lib.hid (grown_grows HG2.out hg3 (by have := HZ2.out; omega)); have HW3 := Lib.hid hr3; clear hr3 hg3)
      | ((with_reducible refine wpList_load_pt (o := ⟨some 26, _, _, _, _, _⟩) ?_ (.tmp 11) ?_ w2.heap.size y ?_ ?_ ?_); exact rfl; exact rfl; exact rfl; exact HW3.out)
      | ((with_reducible refine wpList_store_pt (o := ⟨none, .store _ (.tmp 10) _, _, _, _, _⟩) ?_ (.tmp 10) (.tmp 26) ?_ (w.heap.size + 1) y #[.int .u8 0, .int .u16 0, .int .u16 0, .int .u32 0, .int .u64 0] ?_ ?_ ?_ ?_ ?_); exact rfl; exact rfl; exact rfl; exact rfl; exact rfl; exact HR3.out; intro w5 hr5 hg5))
    refine bodyPost_ret (results_pt (p := 10) (by exact rfl) _ (by exact rfl) hr5) rfl ?_
    exact ⟨rfl, grown_grows HG3.out hg5 (by omega)⟩
end Go.Proofs.YtnigflobmiiefaaDoor
/- A pointer as its numbers, and back. -/
namespace Go.Proofs.YtnigflobmiiefaaDoor
open Go.RowKit
set_option linter.unusedVariables false
set_option linter.unusedSimpArgs false
def nuA (l : List (BitVec 64)) : Array Value := (l.map fun n => Value.int .u64 (uI n)).toArray
theorem nuA_size (l : List (BitVec 64)) : (nuA l).size = l.length := by simp [nuA]
theorem nuA_get (l : List (BitVec 64)) (i : Nat) (n : BitVec 64) (h : l[i]? = some n) : (nuA l)[i]? = some (.int .u64 (uI n)) := by simp [nuA, h]
theorem nuA_set (l : List (BitVec 64)) (i : Nat) (n : BitVec 64) : (nuA l).setIfInBounds i (.int .u64 (uI n)) = nuA (l.set i n) := by
  apply Array.ext'
  simp [nuA, List.map_set]
theorem nuA_one (l : List (BitVec 64)) : (nuA l).all (·.oneCell') = true := by
  rw [Array.all_eq_true]
  intro i hi
  simp [nuA, Value.oneCell']
theorem nu_info : (Tryd.prog.info? 54).map (·.size) = some 5 := by kernel_rfl
section
variable {w : World} {g : Nat} {l : List (BitVec 64)}
theorem run_load_nu (hl : l.length = 5) (h : Row w g 54 (nuA l)) : (loadVar 54 ⟨g, 0, none⟩).run Tryd.prog w = .ok (.agg (nuA l)) w :=
  run_loadVar_row w g 54 54 (nuA l) (0, 0) _ h Tryd.underlying54 rfl (by rw [nuA_size, hl]; exact nu_info)
section
variable {ops : Array Oper} {rest : List Oper} {o : Oper} {a : Act} {Q : Exit → Act → World → Prop}
theorem wpList_store_nu (hgd : o.guard = none) (y z : Operand) (ho : o.op = .store 54 y z) (g : Nat) (l : List (BitVec 64)) (old : Array Value) (hx : a.eval y = .pointer (some ⟨g, 0, none⟩)) (hy : a.eval z = .agg (nuA l)) (hl : l.length = 5) (h5 : old.size = 5) (hr : Row w g 54 old)
    (h : ∀ w', Row w' g 54 (nuA l) → w.grownBy w' (some g) → wpList Tryd.prog ops Q rest (a.put o.dst undef) w') : wpList Tryd.prog ops Q (o :: rest) a w :=
  wpList_store_row hgd 54 y z ho g (nuA l) hx hy 54 old hr (by rw [nuA_size, hl]; exact nu_info) (by rw [h5, nuA_size, hl]) (nuA_one l)
    (h _ (hr.setRow _) (setRow_grownBy _ _ _))
theorem wpList_load_nu (hgd : o.guard = none) (y : Operand) (ho : o.op = .load 54 y) (g : Nat) (l : List (BitVec 64)) (hx : a.eval y = .pointer (some ⟨g, 0, none⟩)) (hl : l.length = 5) (hr : Row w g 54 (nuA l))
    (h : wpList Tryd.prog ops Q rest (a.put o.dst (.agg (nuA l))) w) : wpList Tryd.prog ops Q (o :: rest) a w :=
  wpList_load_row hgd 54 y ho g hx 54 (nuA l) (0, 0) _ hr Tryd.underlying54 rfl (by rw [nuA_size, hl]; exact nu_info) h
end
theorem results_nu {fn : Func} {p : Tmp} (h : fn.results = #[.cell p 54]) (tmps : Array Value) (hp : tmps.getD p undef = .pointer (some ⟨g, 0, none⟩)) (hl : l.length = 5) (hr : Row w g 54 (nuA l)) :
    (results fn tmps).run Tryd.prog w = .ok (.agg (nuA l)) w :=
  results_cell_row h tmps w g 54 (nuA l) (0, 0) _ hp hr Tryd.underlying54 rfl (by rw [nuA_size, hl]; exact nu_info)
end
theorem numbers_length (x : Pt) : (PtM.numbers x).length = 5 := rfl
theorem numbers_any (x : Pt) (w : World) : Calls Tryd.prog 38 #[.agg (ptA x)] w fun e w' => e = .returned (.agg (nuA (PtM.numbers x))) ∧ Grows w w' := by
  have HG := Lib.hid ((Grows.alloc w (.cells (ptA x) 27)).trans (Grows.alloc _ (.cells #[.int .u64 0, .int .u64 0, .int .u64 0, .int .u64 0, .int .u64 0] 54)))
  have HR : Hid (Row ((w.alloc (.cells (ptA x) 27)).alloc (.cells #[.int .u64 0, .int .u64 0, .int .u64 0, .int .u64 0, .int .u64 0] 54)) (w.heap.size + 1) 54 #[.int .u64 0, .int .u64 0, .int .u64 0, .int .u64 0, .int .u64 0]) := by
    have := Row.new (w.alloc (.cells (ptA x) 27)) 54 #[.int .u64 0, .int .u64 0, .int .u64 0, .int .u64 0, .int .u64 0]
    rwa [World.size_alloc] at this
  have e0 := wrap_u64_bI x.kind
  have e1 := wrap_u64_hI x.a
  have e2 := wrap_u64_hI x.b
  have e3 := wrap_u64_wI x.birth
  have HN : Hid (nuA (PtM.numbers x) = #[.int .u64 (uI (x.kind.setWidth 64)), .int .u64 (uI (x.a.setWidth 64)), .int .u64 (uI (x.b.setWidth 64)), .int .u64 (uI (x.birth.setWidth 64)), .int .u64 (uI x.sum)]) := rfl
  go_enter Tryd.func38, Tryd.ntmps38
  go_wp2_with (first
    | ((with_reducible refine wpList_store_nu ?_ (.tmp 2) (.tmp 19) ?_ (w.heap.size + 1) (PtM.numbers x) #[.int .u64 0, .int .u64 0, .int .u64 0, .int .u64 0, .int .u64 0] ?_ ?_ ?_ ?_ ?_ ?_); exact rfl; exact rfl; exact rfl; (rw [HN.out]; exact rfl); exact rfl; exact rfl; exact HR.out; intro w3 hr3 hg3))
  refine bodyPost_ret (results_nu (p := 2) (by exact rfl) _ (by exact rfl) (numbers_length x) hr3) rfl ?_
  exact ⟨rfl, grown_grows HG.out hg3 (by omega)⟩
theorem ofNumbers_any (n0 n1 n2 n3 n4 : BitVec 64) (w : World) : Calls Tryd.prog 36 #[.agg (nuA [n0, n1, n2, n3, n4])] w fun e w' => e = .returned (.agg (ptA (PtM.ofNumbers n0 n1 n2 n3 n4))) ∧ Grows w w' := by
  rw [show nuA [n0, n1, n2, n3, n4] = #[.int .u64 (uI n0), .int .u64 (uI n1), .int .u64 (uI n2), .int .u64 (uI n3), .int .u64 (uI n4)] from rfl]
  have HG := Lib.hid ((Grows.alloc w (.cells #[.int .u64 (uI n0), .int .u64 (uI n1), .int .u64 (uI n2), .int .u64 (uI n3), .int .u64 (uI n4)] 54)).trans (Grows.alloc _ (.cells #[.int .u8 0, .int .u16 0, .int .u16 0, .int .u32 0, .int .u64 0] 27)))
  have HR : Hid (Row ((w.alloc (.cells #[.int .u64 (uI n0), .int .u64 (uI n1), .int .u64 (uI n2), .int .u64 (uI n3), .int .u64 (uI n4)] 54)).alloc (.cells #[.int .u8 0, .int .u16 0, .int .u16 0, .int .u32 0, .int .u64 0] 27)) (w.heap.size + 1) 27 #[.int .u8 0, .int .u16 0, .int .u16 0, .int .u32 0, .int .u64 0]) := by
    have := Row.new (w.alloc (.cells #[.int .u64 (uI n0), .int .u64 (uI n1), .int .u64 (uI n2), .int .u64 (uI n3), .int .u64 (uI n4)] 54)) 27 #[.int .u8 0, .int .u16 0, .int .u16 0, .int .u32 0, .int .u64 0]
    rwa [World.size_alloc] at this
  have e0 := wrap_u8_uI n0
  have e1 := wrap_u16_uI n1
  have e2 := wrap_u16_uI n2
  have e3 := wrap_u32_uI n3
  have HN : Hid (ptA (PtM.ofNumbers n0 n1 n2 n3 n4) = #[.int .u8 (bI (n0.setWidth 8)), .int .u16 (hI (n1.setWidth 16)), .int .u16 (hI (n2.setWidth 16)), .int .u32 (wI (n3.setWidth 32)), .int .u64 (uI n4)]) := rfl
  go_enter Tryd.func36, Tryd.ntmps36
  go_wp2_with (first
    | ((with_reducible refine wpList_store_pt ?_ (.tmp 2) (.tmp 18) ?_ (w.heap.size + 1) (PtM.ofNumbers n0 n1 n2 n3 n4) #[.int .u8 0, .int .u16 0, .int .u16 0, .int .u32 0, .int .u64 0] ?_ ?_ ?_ ?_ ?_); exact rfl; exact rfl; exact rfl; (rw [HN.out]; exact rfl); exact rfl; exact HR.out; intro w3 hr3 hg3))
  refine bodyPost_ret (results_pt (p := 2) (by exact rfl) _ (by exact rfl) hr3) rfl ?_
  exact ⟨rfl, grown_grows HG.out hg3 (by omega)⟩
end Go.Proofs.YtnigflobmiiefaaDoor
