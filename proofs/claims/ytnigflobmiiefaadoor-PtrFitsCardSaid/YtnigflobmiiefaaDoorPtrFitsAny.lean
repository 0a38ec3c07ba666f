/- PtrFitsAny -/
import Derived.Test.YtnigflobmiiefaaDoorPtWakes
import Derived.Test.YtnigflobmiiefaaDoorPtFitsM
import Derived.Test.YtnigflobmiiefaaDoorFreeP
import Derived.Test.YtnigflobmiiefaaDoorBaseB
/- The law PtrFits as a call. -/
namespace Go.Proofs.YtnigflobmiiefaaDoor
open Go.RowKit
set_option linter.unusedVariables false
set_option linter.unusedSimpArgs false
attribute [local go_sem] bits_xor_b
theorem run_alloc_pt (w : World) : (Instr.alloc 27 true (.tuple #[])).run Tryd.prog w = .ok (.pointer (some ⟨w.heap.size, 0, none⟩)) (w.alloc (.cells #[.int .u8 0, .int .u16 0, .int .u16 0, .int .u32 0, .int .u64 0] 27)) := by kernel_rfl
theorem new_pt {b : Nat} {ρ : Operand → Value} {o : Oper} {w : World} (ho : o.op = .alloc 27) (hb : b ≤ w.heap.size) : Does Tryd.prog o ρ w fun v w' => (Grows w w' ∧ Fresh w w' v) ∧ NewRow b 27 #[.int .u8 0, .int .u16 0, .int .u16 0, .int .u32 0, .int .u64 0] v w' := by
  unfold Does execOp
  simp only [ho, Sem.run_bind, run_alloc_pt, Result.andThen_ok, Sem.run_pure]
  exact ⟨⟨Grows.alloc _ _, _, rfl, Nat.le_refl _, by simp⟩, _, rfl, hb, Row.new _ _ _⟩
theorem fits_of (k : BitVec 8) (a b : Int) (birth : BitVec 32) (p q : List (BitVec 8)) (hk : k ≠ 0#8) : PtM.fits (PtM.of k a b birth p) q = (CrcM.sum p == CrcM.sum q) := by
  show (k != 0#8 && (CrcM.sum p == CrcM.sum q)) = _
  rw [bne_iff_ne.2 hk, Bool.true_and]
set_option maxHeartbeats 16000000 in
set_option maxRecDepth 20000 in
theorem ptrFits_any (P : List (BitVec 8)) (at_ : Int) (by_ : List (BitVec 8)) (a b n : Int) (birth : BitVec 32) (w : World) (hP : P.length = 256) (a1 : -9223372036854775808 ≤ at_) (a2 : at_ ≤ 9223372036854775807) (hby : by_.length = 8) (a3 : -9223372036854775808 ≤ a) (a4 : a ≤ 9223372036854775807) (a5 : -9223372036854775808 ≤ b) (a6 : b ≤ 9223372036854775807) (a7 : -9223372036854775808 ≤ n) (a8 : n ≤ 9223372036854775807) (hG : Glob w) :
    Calls Tryd.prog 5 #[.agg (pageA P), .int .i64 at_, .agg (pageA by_), .int .i64 a, .int .i64 b, .int .i64 n, .int .u32 (wI birth)] w fun e w' => e = .returned (.bool true) ∧ Below w.heap.size w w' := by
  have HGl := Lib.hid hG
  have HPL := Lib.hid hP; have HBYL := Lib.hid hby
  obtain ⟨⟨m1, m2⟩, p, hp, e1⟩ := into' at_ 256 (by omega)
  rw [show ((256 : Nat) : Int) = 256 from rfl] at m1 m2 e1
  have k2 : at_.tmod 256 % 256 = (p : Int) := by rw [← e1]; simp
  have k1 : IntKind.i64.wrap (at_.tmod 256 + 256) = at_.tmod 256 + 256 := IntWalk.i64_in _ (by omega)
  have k3 : (at_.tmod 256 + 256).tmod 256 = (p : Int) := by rw [Int.tmod_eq_emod_of_nonneg (by omega)]; exact e1
  have HR0 : Hid (PRow ((w.alloc (.cells (pageA P) 29)).alloc (.cells (pageA by_) 47)) w.heap.size P) := (PRow.new (l := P) w hP).alloc _
  have HB0 : Hid (Row ((w.alloc (.cells (pageA P) 29)).alloc (.cells (pageA by_) 47)) (w.heap.size + 1) 47 (pageA by_)) := by
    have := Row.new (w.alloc (.cells (pageA P) 29)) 47 (pageA by_)
    rwa [World.size_alloc] at this
  have HG0 := Lib.hid ((Grows.alloc w (.cells (pageA P) 29)).trans (Grows.alloc _ (.cells (pageA by_) 47)))
  have HN0 : Hid (PRow (((w.alloc (.cells (pageA P) 29)).alloc (.cells (pageA by_) 47)).alloc (.cells (pageA noughts) 29)) (w.heap.size + 2) noughts) := by
    have := PRow.new (l := noughts) ((w.alloc (.cells (pageA P) 29)).alloc (.cells (pageA by_) 47)) noughts_length
    rwa [World.size_alloc, World.size_alloc] at this
  have hz := fun w => zero_page w
  have HBZ := Lib.hid (CrcM.burst_zero P p by_ (by omega))
  clear hG
  go_enter Tryd.func5, Tryd.ntmps5
  go_wp2_with (first
    | ((with_reducible refine wpList_load_page (o := ⟨some 25, _, _, _, _, _⟩) ?_ (.tmp 7) ?_ w.heap.size P ?_ ?_ ?_); exact rfl; exact rfl; exact rfl; exact HR0.out)
    | ((with_reducible refine wpList_store_page (o := ⟨none, .store _ (.tmp 15) _, _, _, _, _⟩) ?_ (.tmp 15) (.tmp 25) ?_ (w.heap.size + 2) P noughts ?_ ?_ ?_ ?_ ?_); exact rfl; exact rfl; exact rfl; exact rfl; exact HPL.out; exact HN0.out; intro w1 hq1 hg1; have HQ1 := Lib.hid hq1; have HR1 := Lib.hid ((HR0.out.alloc (.cells (pageA noughts) 29)).grown hg1 (by simp)); have HB1 := Lib.hid ((HB0.out.alloc (.cells (pageA noughts) 29)).grown hg1 (by simp)); have HG1 : Hid (Grows w w1) := grown_grows (Grows.trans HG0.out (Grows.alloc _ (.cells (pageA noughts) 29))) hg1 (by omega); clear hq1 hg1))
  clear k1 k2 k3 hz e1 m1 m2
  have hp1 : p ≤ P.length := by omega
  go_loopw [16] (fun i wr => ∃ k : Nat, k ≤ 8 ∧ p + k ≤ 256 ∧ i = .int .i64 k ∧ PRow wr (w.heap.size + 2) (CrcM.burst P p k by_) ∧ PRow wr w.heap.size P ∧ Row wr (w.heap.size + 1) 47 (pageA by_) ∧ Grows w wr) (fun i _ => 8 - (intOf i).toNat)
  case atStart => exact ⟨0, by omega, by omega, rfl, by rw [HBZ.out]; exact HQ1.out, HR1.out, HB1.out, HG1.out⟩
  case round =>
    obtain ⟨k, hk, hpk, rfl, hq, hr, hb, hgr⟩ := hrel
    have HQ := Lib.hid hq; have HR := Lib.hid hr; have HB := Lib.hid hb; have HG := Lib.hid hgr
    clear hq hr hb hgr
    have w6 : IntKind.i64.wrap ((p : Int) + k) = (p : Int) + k := IntWalk.i64_in _ (by omega)
    have w7 : ((p : Int) + k).toNat = p + k := by omega
    have hI3 : (0 : Int) ≤ (p : Int) + k := by omega
    by_cases h8 : k < 8
    case pos =>
      have hI2 : (k : Int) < 8 := by omega
      by_cases hn : p + k < 256
      case pos =>
        have hI1 : (p : Int) + k < 256 := by omega
        have ex : P[p + k]? = some (P[p + k]'(by omega)) := List.getElem?_eq_getElem (by omega)
        have eb : by_[k]? = some (by_[k]'(by omega)) := List.getElem?_eq_getElem (by omega)
        have ES := Lib.hid (CrcM.burst_set P p k by_ _ _ ex eb)
        have eg := CrcM.burst_get P p k by_ _ ex (by omega)
        have c1 := HQ.out.cell (p + k) _ eg
        have c2 := (HB.out.cell k).trans (pageA_get by_ k _ eb)
        generalize P[p + k]'(by omega) = x at *
        generalize by_[k]'(by omega) = y at *
        clear ex eb eg
        go_wp2
        refine wp_region_free 13 155 (by kernel_rfl) (by kernel_rfl) rfl (by kernel_rfl) ?_; simp only [List.take_succ_cons, List.take_zero, List.drop_succ_cons, List.drop_zero]
        repeat (apply free_pure rfl; focus (intro vs w hg hd; have q0 := hg.cell c1; have q1 := hg.cell c2; (try simp [Region.binds] at hd); simp only [execOp, resolve, Option.map_some, Option.map_none, List.map_toArray, List.map_cons, List.map_nil, rho_const, rho_func]; (repeat (conv in rho _ _ _ _ (Operand.tmp _) => whnf)); (try simp only [hd]); go_simp; (repeat (conv in rho _ _ _ _ (Operand.tmp _) => whnf)); (try simp only [hd]);  rfl))
        intro vs w' hg hv; have h11 := hv 11 (by omega); simp at h11; have h12 := hv 12 (by omega); simp at h12; simp only [putL, dstAt, List.range, List.range.loop, if_true, List.getElem?_toArray, List.getElem?_cons_zero, List.getElem?_cons_succ, Option.bind_some, Act.put, List.setIfInBounds_toArray, List.set_cons_zero, List.set_cons_succ]
        rw [h11, h12]
        have hgW := Grows.of_drew hg
        have NQ := Lib.hid (HQ.out.grows hgW)
        have NR := Lib.hid (HR.out.grows hgW)
        have NB := Lib.hid (Row.grows HB.out hgW)
        have NG := Lib.hid (HG.out.trans hgW)
        clear hv h11 h12 hg hgW c1 c2
        generalize vs 0 = z0, vs 1 = z1, vs 2 = z2, vs 3 = z3, vs 4 = z4, vs 5 = z5, vs 6 = z6, vs 7 = z7, vs 8 = z8, vs 9 = z9, vs 10 = z10, vs 11 = z11, vs 12 = z12 at *
        have f1 := NQ.out.frozen (p + k)
        obtain ⟨z0, hz0⟩ : ∃ z0, w'.cell? ⟨w.heap.size + 2, p + k, none⟩ = some z0 := by
          have hl : (CrcM.burst P p k by_).length = 256 := NQ.out.1
          exact ⟨_, NQ.out.cell (p + k) _ (List.getElem?_eq_getElem (by omega))⟩
        have SQ := NQ.out.set (p + k) (x ^^^ y)
        rw [ES.out] at SQ
        have SQ := Lib.hid SQ
        have SR := Lib.hid (NR.out.far (p := ⟨w.heap.size + 2, p + k, none⟩) (by simp) (.int .u8 (bI (x ^^^ y))))
        have SB := Lib.hid (NB.out.far (p := ⟨w.heap.size + 2, p + k, none⟩) (by simp) (.int .u8 (bI (x ^^^ y))))
        have SG : Hid (Grows w (w'.setCell ⟨w.heap.size + 2, p + k, none⟩ (.int .u8 (bI (x ^^^ y))))) := Below.setCell NG.out (p := ⟨w.heap.size + 2, p + k, none⟩) (by simp) _
        go_wp2
        go_roundw
        case rel => exact ⟨k + 1, by omega, by omega, by go_num, SQ.out, SR.out, SB.out, SG.out⟩
        case measure => simp [intOf]; omega
      case neg =>
        have hI1 : ¬ (p : Int) + k < 256 := by omega
        have hlq : (CrcM.burst P p k by_).length = 256 := HQ.out.1
        have HTq := CrcM.sum_page P p k by_ (by rw [HPL.out]; omega) (by rw [HBYL.out]; omega) hk
        obtain ⟨Q, hQ⟩ : ∃ Q, Q = CrcM.burst P p k by_ := ⟨_, rfl⟩
        rw [← hQ] at HTq hlq HQ
        obtain ⟨tq, htq⟩ : ∃ tq, tq = decide (P = Q) := ⟨_, rfl⟩
        rw [← htq] at HTq
        have HPE : Hid (∀ W, (Op.equalIn 10000 29 (.agg (pageA P)) (.agg (pageA Q))).run Tryd.prog W = .ok tq W) := fun W => by rw [htq]; exact page_eq_run P Q HPL.out hlq W
        obtain ⟨X, hX⟩ : ∃ X, X = PtM.of 2 a b birth P := ⟨_, rfl⟩
        obtain ⟨Y, hY⟩ : ∃ Y, Y = PtM.of 3 a b birth P := ⟨_, rfl⟩
        have HOX : Hid (∀ W, Calls Tryd.prog 18 #[.int .u8 2, .int .i64 a, .int .i64 b, .int .u32 (wI birth), .agg (pageA P)] W fun e w' => e = .returned (.agg (ptA X)) ∧ Grows W w') := fun W => by rw [hX]; exact of_any 2 a b birth P HPL.out W
        have HOY : Hid (∀ W, Calls Tryd.prog 18 #[.int .u8 3, .int .i64 a, .int .i64 b, .int .u32 (wI birth), .agg (pageA P)] W fun e w' => e = .returned (.agg (ptA Y)) ∧ Grows W w') := fun W => by rw [hY]; exact of_any 3 a b birth P HPL.out W
        have HF1 : Hid (∀ W, Calls Tryd.prog 14 #[.agg (ptA X), .agg (pageA P)] W fun e w' => e = .returned (.bool true) ∧ Grows W w') := fun W => by
          have h := fits_any X P HPL.out W
          rw [hX, fits_of 2 a b birth P P (by decide), beq_self_eq_true, ← hX] at h
          exact h
        have HF2 : Hid (∀ W, Calls Tryd.prog 14 #[.agg (ptA X), .agg (pageA Q)] W fun e w' => e = .returned (.bool tq) ∧ Grows W w') := fun W => by
          have h := fits_any X Q hlq W
          rw [hX, fits_of 2 a b birth P Q (by decide), HTq, ← hX] at h
          exact h
        have HF3 : Hid (∀ W, Calls Tryd.prog 14 #[.agg (ptA Y), .agg (pageA Q)] W fun e w' => e = .returned (.bool tq) ∧ Grows W w') := fun W => by
          have h := fits_any Y Q hlq W
          rw [hY, fits_of 3 a b birth P Q (by decide), HTq, ← hY] at h
          exact h
        obtain ⟨sp, hsp⟩ : ∃ sp, sp = CrcM.sum P := ⟨_, rfl⟩
        have HXs : Hid (X.sum = sp) := by rw [hX, hsp]; rfl
        have HSP : Hid (∀ W, Calls Tryd.prog 28 #[.agg (pageA P)] W fun e w' => e = .returned (.int .u64 (uI sp)) ∧ Grows W w') := fun W => by rw [hsp]; exact rpage_any P HPL.out W
        have HF4 : Hid (∀ W, Calls Tryd.prog 14 #[.agg #[.int .u8 0, .int .u16 0, .int .u16 0, .int .u32 0, .int .u64 (uI sp)], .agg (pageA P)] W fun e w' => e = .returned (.bool false) ∧ Grows W w') := fun W => fits_any ⟨0, 0, 0, 0, sp⟩ P HPL.out W
        have HRXi : Hid (0 ≤ a → a ≤ 60000 → 0 ≤ b → b ≤ 60000 → Hid (∀ W, Calls Tryd.prog 12 #[.agg (ptA X), .int .i64 n] W fun e w' => e = .returned (.bool ((decide (4 ≤ a) && decide (a < n) && (decide (1 ≤ wI birth) && decide (wI birth ≤ 1073741824))) && (decide (4 ≤ b) && decide (b < n) && decide (a ≠ b)))) ∧ Grows W w')) := fun x1 x2 x3 x4 W => by
          have h := right_any X n W
          have e := PtM.right_two a b n birth P x1 x2 x3 x4
          rw [← hX] at e
          rw [e] at h
          exact h
        have HRYi : Hid (0 ≤ a → a ≤ 60000 → Hid (∀ W, Calls Tryd.prog 12 #[.agg (ptA Y), .int .i64 n] W fun e w' => e = .returned (.bool (decide (4 ≤ a) && decide (a < n) && (decide (1 ≤ wI birth) && decide (wI birth ≤ 1073741824)))) ∧ Grows W w')) := fun x1 x2 W => by
          have h := right_any Y n W
          have e := PtM.right_one a b n birth P x1 x2
          rw [← hY] at e
          rw [e] at h
          exact h
        clear hlq HTq hQ htq hX hY hsp
        go_wp2
        refine wp_region_freeP (fun i => decide (10 ≤ i)) 12 155 (by kernel_rfl) (by kernel_rfl) rfl (by kernel_rfl) ?_; simp only [List.take_succ_cons, List.take_zero, List.drop_succ_cons, List.drop_zero]
        refine free_opP (fun v_ _ => v_ = .int .i64 a) rfl rfl (val_mono' _) (fun vs wq hg hd => by
          (try simp [Region.binds] at hd); simp only [Does]; simp only [execOp, resolve, Option.map_some, Option.map_none, List.map_toArray, List.map_cons, List.map_nil, rho_const, rho_func]; (repeat (conv in rho _ _ _ _ (Operand.tmp _) => whnf)); (try simp only [hd]); go_simp; (repeat (conv in rho _ _ _ _ (Operand.tmp _) => whnf))
          first | exact Grows.refl _ | exact ⟨Grows.refl _, rfl⟩ | exact ⟨Grows.refl _, trivial⟩) ?_
        refine free_opP (fun v_ _ => v_ = .int .i64 b) rfl rfl (val_mono' _) (fun vs wq hg hd => by
          (try simp [Region.binds] at hd); simp only [Does]; simp only [execOp, resolve, Option.map_some, Option.map_none, List.map_toArray, List.map_cons, List.map_nil, rho_const, rho_func]; (repeat (conv in rho _ _ _ _ (Operand.tmp _) => whnf)); (try simp only [hd]); go_simp; (repeat (conv in rho _ _ _ _ (Operand.tmp _) => whnf))
          first | exact Grows.refl _ | exact ⟨Grows.refl _, rfl⟩ | exact ⟨Grows.refl _, trivial⟩) ?_
        refine free_opP (fun v_ _ => v_ = .int .u32 (wI birth)) rfl rfl (val_mono' _) (fun vs wq hg hd => by
          (try simp [Region.binds] at hd); simp only [Does]; simp only [execOp, resolve, Option.map_some, Option.map_none, List.map_toArray, List.map_cons, List.map_nil, rho_const, rho_func]; (repeat (conv in rho _ _ _ _ (Operand.tmp _) => whnf)); (try simp only [hd]); go_simp; (repeat (conv in rho _ _ _ _ (Operand.tmp _) => whnf))
          first | exact Grows.refl _ | exact ⟨Grows.refl _, rfl⟩ | exact ⟨Grows.refl _, trivial⟩) ?_
        refine free_opP (fun v_ _ => v_ = .agg (pageA P)) rfl rfl (val_mono' _) (fun vs wq hg hd => dk_load 29 (.tmp 7) ⟨w.heap.size, 0, none⟩ _ rfl (by first | rfl | (conv => lhs; whnf)) (run_load_page (HR.out.grows (Grows.of_drew hg))) ⟨Grows.refl _, rfl⟩) ?_
        refine free_opP (fun v_ _ => v_ = .agg (ptA X)) rfl rfl (val_mono' _) (fun vs wq hg hd => by
          (try simp [Region.binds] at hd); simp only [Does]; simp only [execOp, resolve, Option.map_some, Option.map_none, List.map_toArray, List.map_cons, List.map_nil, rho_const, rho_func]; (repeat (conv in rho _ _ _ _ (Operand.tmp _) => whnf)); (try simp only [hd]); go_simp; (repeat (conv in rho _ _ _ _ (Operand.tmp _) => whnf))
          exact HOX.out _) ?_
        refine free_opP (fun v_ _ => v_ = .int .i64 a) rfl rfl (val_mono' _) (fun vs wq hg hd => by
          (try simp [Region.binds] at hd); simp only [Does]; simp only [execOp, resolve, Option.map_some, Option.map_none, List.map_toArray, List.map_cons, List.map_nil, rho_const, rho_func]; (repeat (conv in rho _ _ _ _ (Operand.tmp _) => whnf)); (try simp only [hd]); go_simp; (repeat (conv in rho _ _ _ _ (Operand.tmp _) => whnf))
          first | exact Grows.refl _ | exact ⟨Grows.refl _, rfl⟩ | exact ⟨Grows.refl _, trivial⟩) ?_
        refine free_opP (fun v_ _ => v_ = .int .i64 b) rfl rfl (val_mono' _) (fun vs wq hg hd => by
          (try simp [Region.binds] at hd); simp only [Does]; simp only [execOp, resolve, Option.map_some, Option.map_none, List.map_toArray, List.map_cons, List.map_nil, rho_const, rho_func]; (repeat (conv in rho _ _ _ _ (Operand.tmp _) => whnf)); (try simp only [hd]); go_simp; (repeat (conv in rho _ _ _ _ (Operand.tmp _) => whnf))
          first | exact Grows.refl _ | exact ⟨Grows.refl _, rfl⟩ | exact ⟨Grows.refl _, trivial⟩) ?_
        refine free_opP (fun v_ _ => v_ = .int .u32 (wI birth)) rfl rfl (val_mono' _) (fun vs wq hg hd => by
          (try simp [Region.binds] at hd); simp only [Does]; simp only [execOp, resolve, Option.map_some, Option.map_none, List.map_toArray, List.map_cons, List.map_nil, rho_const, rho_func]; (repeat (conv in rho _ _ _ _ (Operand.tmp _) => whnf)); (try simp only [hd]); go_simp; (repeat (conv in rho _ _ _ _ (Operand.tmp _) => whnf))
          first | exact Grows.refl _ | exact ⟨Grows.refl _, rfl⟩ | exact ⟨Grows.refl _, trivial⟩) ?_
        refine free_opP (fun v_ _ => v_ = .agg (pageA P)) rfl rfl (val_mono' _) (fun vs wq hg hd => dk_load 29 (.tmp 7) ⟨w.heap.size, 0, none⟩ _ rfl (by first | rfl | (conv => lhs; whnf)) (run_load_page (HR.out.grows (Grows.of_drew hg))) ⟨Grows.refl _, rfl⟩) ?_
        refine free_opP (fun v_ _ => v_ = .agg (ptA Y)) rfl rfl (val_mono' _) (fun vs wq hg hd => by
          (try simp [Region.binds] at hd); simp only [Does]; simp only [execOp, resolve, Option.map_some, Option.map_none, List.map_toArray, List.map_cons, List.map_nil, rho_const, rho_func]; (repeat (conv in rho _ _ _ _ (Operand.tmp _) => whnf)); (try simp only [hd]); go_simp; (repeat (conv in rho _ _ _ _ (Operand.tmp _) => whnf))
          exact HOY.out _) ?_
        refine free_newP (NewRow wr.heap.size 27 #[.int .u8 0, .int .u16 0, .int .u16 0, .int .u32 0, .int .u64 0]) rfl (NewRow.mono _ _ _) (fun vs wq hg hd => new_pt rfl (Below.size (Grows.of_drew hg))) ?_
        refine free_newP (NewRow wr.heap.size 27 #[.int .u8 0, .int .u16 0, .int .u16 0, .int .u32 0, .int .u64 0]) rfl (NewRow.mono _ _ _) (fun vs wq hg hd => new_pt rfl (Below.size (Grows.of_drew hg))) ?_
        intro vs w' hg hv; have h4 := hv 4 (by omega); simp at h4; have h9 := hv 9 (by omega); simp at h9; have h10 := hv 10 (by omega); simp at h10; have h11 := hv 11 (by omega); simp at h11; simp only [putL, dstAt, List.range, List.range.loop, if_true, List.getElem?_toArray, List.getElem?_cons_zero, List.getElem?_cons_succ, Option.bind_some, Act.put, List.setIfInBounds_toArray, List.set_cons_zero, List.set_cons_succ]
        intro hun
        have hgW : Grows wr w' := Grows.of_drew hg
        obtain ⟨g5, e5, l5, r5⟩ := h10
        obtain ⟨g6, e6, l6, r6⟩ := h11
        have h56 : g5 ≠ g6 := fun e => hun 10 11 (by omega) (by omega) (by omega) rfl rfl (by rw [e5, e6, e])
        rw [h4, h9, e5, e6]
        have ZQ : w.heap.size + 2 < wr.heap.size := HQ.out.2.lt
        have HQ2 := Lib.hid (HQ.out.grows hgW); have HR2 := Lib.hid (HR.out.grows hgW); have HG2 := Lib.hid (HG.out.trans hgW)
        have R5 := Lib.hid r5; have R6 := Lib.hid r6; have L5 := Lib.hid (Nat.lt_of_lt_of_le ZQ l5); have L6 := Lib.hid (Nat.lt_of_lt_of_le ZQ l6); have H56 := Lib.hid h56
        clear hv h4 h9 e5 e6 hun hg hgW l5 l6 r5 r6 h56 ZQ
        generalize vs 0 = z0, vs 1 = z1, vs 2 = z2, vs 3 = z3, vs 4 = z4, vs 5 = z5, vs 6 = z6, vs 7 = z7, vs 8 = z8, vs 9 = z9, vs 10 = z10, vs 11 = z11 at *
        go_wp2_with (first
          | ((with_reducible refine wpList_store_pt (o := ⟨none, .store _ (.tmp 17) _, _, _, _, _⟩) ?_ (.tmp 17) (.tmp 53) ?_ g5 X #[.int .u8 0, .int .u16 0, .int .u16 0, .int .u32 0, .int .u64 0] ?_ ?_ ?_ ?_ ?_); exact rfl; exact rfl; exact rfl; exact rfl; exact rfl; exact R5.out; intro n1 hp hg; have X1 := Lib.hid hp; have HQ3 := Lib.hid (HQ2.out.grown hg (by have := L5.out; simp; omega)); have HR3 := Lib.hid (HR2.out.grown hg (by have := L5.out; simp; omega)); have R63 := Lib.hid (R6.out.grown hg (by have := H56.out; simp; omega)); have HG3 : Hid (Grows w n1) := grown_grows HG2.out hg (by have := L5.out; omega); clear hp hg)
          | ((with_reducible refine wpList_store_pt (o := ⟨none, .store _ (.tmp 18) _, _, _, _, _⟩) ?_ (.tmp 18) (.tmp 58) ?_ g6 Y #[.int .u8 0, .int .u16 0, .int .u16 0, .int .u32 0, .int .u64 0] ?_ ?_ ?_ ?_ ?_); exact rfl; exact rfl; exact rfl; exact rfl; exact rfl; exact R63.out; intro n2 hp hg; have Y2 := Lib.hid hp; have X2 := Lib.hid (X1.out.grown hg (by have := H56.out; simp; omega)); have HQ4 := Lib.hid (HQ3.out.grown hg (by have := L6.out; simp; omega)); have HR4 := Lib.hid (HR3.out.grown hg (by have := L6.out; simp; omega)); have HG4 : Hid (Grows w n2) := grown_grows HG3.out hg (by have := L6.out; omega); clear hp hg))
        have c4 := (X2.out.cell 4).trans (ptA_4 X)
        rw [HXs.out] at c4
        refine wp_region_free 36 155 (by kernel_rfl) (by kernel_rfl) rfl (by kernel_rfl) ?_; simp only [List.take_succ_cons, List.take_zero, List.drop_succ_cons, List.drop_zero]
        refine free_op (fun v_ _ => v_ = .agg (ptA X)) rfl (val_mono' _) (fun vs wq hg hd => by
          (try simp [Region.binds] at hd)
          exact dk_load 27 (.tmp 17) ⟨g5, 0, none⟩ _ rfl (by first | rfl | (conv => lhs; whnf)) (run_load_pt (Row.grows X2.out (Grows.of_drew hg))) ⟨Grows.refl _, rfl⟩) ?_
        refine free_op (fun v_ _ => v_ = .agg (pageA P)) rfl (val_mono' _) (fun vs wq hg hd => by
          (try simp [Region.binds] at hd)
          exact dk_load 29 (.tmp 7) ⟨w.heap.size, 0, none⟩ _ rfl (by first | rfl | (conv => lhs; whnf)) (run_load_page (HR4.out.grows (Grows.of_drew hg))) ⟨Grows.refl _, rfl⟩) ?_
        refine free_op (fun v_ _ => v_ = .bool true) rfl (val_mono' _) (fun vs wq hg hd => by
          (try simp [Region.binds] at hd); simp only [Does]; simp only [execOp, resolve, Option.map_some, Option.map_none, List.map_toArray, List.map_cons, List.map_nil, rho_const, rho_func]; (repeat (conv in rho _ _ _ _ (Operand.tmp _) => whnf)); (try simp only [hd]); go_simp; (repeat (conv in rho _ _ _ _ (Operand.tmp _) => whnf))
          exact HF1.out _) ?_
        iterate 2 (apply free_pure rfl; focus (intro vs w hg hd;  (try simp [Region.binds] at hd); simp only [execOp, resolve, Option.map_some, Option.map_none, List.map_toArray, List.map_cons, List.map_nil, rho_const, rho_func]; (repeat (conv in rho _ _ _ _ (Operand.tmp _) => whnf)); (try simp only [hd]); go_simp; (repeat (conv in rho _ _ _ _ (Operand.tmp _) => whnf)); (try simp only [hd]);  rfl))
        refine free_guarded (fun v_ _ => v_ = .agg (ptA X)) (val_mono' _) (fun vs wq hg hd => by
          (try simp [Region.binds] at hd)
          refine ⟨?_, ?_⟩
          · (first | (simp [Region.wanted, yieldR]; (repeat (conv in rho _ _ _ _ (Operand.tmp _) => whnf)); simp [hd]; done) | (simp [Region.wanted, yieldR]; (repeat (conv in rho _ _ _ _ (Operand.tmp _) => whnf)); (try simp [hd]); simp [*]))
          · exact dk_load 27 (.tmp 17) ⟨g5, 0, none⟩ _ rfl (by first | rfl | (conv => lhs; whnf)) (run_load_pt (Row.grows X2.out (Grows.of_drew hg))) ⟨Grows.refl _, rfl⟩) ?_
        refine free_guarded (fun v_ _ => v_ = .agg (pageA Q)) (val_mono' _) (fun vs wq hg hd => by
          (try simp [Region.binds] at hd)
          refine ⟨?_, ?_⟩
          · (first | (simp [Region.wanted, yieldR]; (repeat (conv in rho _ _ _ _ (Operand.tmp _) => whnf)); simp [hd]; done) | (simp [Region.wanted, yieldR]; (repeat (conv in rho _ _ _ _ (Operand.tmp _) => whnf)); (try simp [hd]); simp [*]))
          · exact dk_load 29 (.tmp 15) ⟨(w.heap.size + 2), 0, none⟩ _ rfl (by first | rfl | (conv => lhs; whnf)) (run_load_page (HQ4.out.grows (Grows.of_drew hg))) ⟨Grows.refl _, rfl⟩) ?_
        refine free_guarded (fun v_ _ => v_ = .bool tq) (val_mono' _) (fun vs wq hg hd => by
          (try simp [Region.binds] at hd)
          refine ⟨?_, ?_⟩
          · (first | (simp [Region.wanted, yieldR]; (repeat (conv in rho _ _ _ _ (Operand.tmp _) => whnf)); simp [hd]; done) | (simp [Region.wanted, yieldR]; (repeat (conv in rho _ _ _ _ (Operand.tmp _) => whnf)); (try simp [hd]); simp [*]))
          · simp only [Does]
            simp only [execOp, resolve, Option.map_some, Option.map_none, List.map_toArray, List.map_cons, List.map_nil, rho_const, rho_func]
            (repeat (conv in rho _ _ _ _ (Operand.tmp _) => whnf))
            (try simp only [hd])
            go_simp
            (repeat (conv in rho _ _ _ _ (Operand.tmp _) => whnf))
            exact HF2.out _) ?_
        refine free_guarded (fun v_ _ => v_ = .agg (pageA P)) (val_mono' _) (fun vs wq hg hd => by
          (try simp [Region.binds] at hd)
          refine ⟨?_, ?_⟩
          · (first | (simp [Region.wanted, yieldR]; (repeat (conv in rho _ _ _ _ (Operand.tmp _) => whnf)); simp [hd]; done) | (simp [Region.wanted, yieldR]; (repeat (conv in rho _ _ _ _ (Operand.tmp _) => whnf)); (try simp [hd]); simp [*]))
          · exact dk_load 29 (.tmp 7) ⟨w.heap.size, 0, none⟩ _ rfl (by first | rfl | (conv => lhs; whnf)) (run_load_page (HR4.out.grows (Grows.of_drew hg))) ⟨Grows.refl _, rfl⟩) ?_
        refine free_guarded (fun v_ _ => v_ = .agg (pageA Q)) (val_mono' _) (fun vs wq hg hd => by
          (try simp [Region.binds] at hd)
          refine ⟨?_, ?_⟩
          · (first | (simp [Region.wanted, yieldR]; (repeat (conv in rho _ _ _ _ (Operand.tmp _) => whnf)); simp [hd]; done) | (simp [Region.wanted, yieldR]; (repeat (conv in rho _ _ _ _ (Operand.tmp _) => whnf)); (try simp [hd]); simp [*]))
          · exact dk_load 29 (.tmp 15) ⟨(w.heap.size + 2), 0, none⟩ _ rfl (by first | rfl | (conv => lhs; whnf)) (run_load_page (HQ4.out.grows (Grows.of_drew hg))) ⟨Grows.refl _, rfl⟩) ?_
        refine free_guarded (fun v_ _ => v_ = .bool tq) (val_mono' _) (fun vs wq hg hd => by
          (try simp [Region.binds] at hd)
          refine ⟨?_, ?_⟩
          · (first | (simp [Region.wanted, yieldR]; (repeat (conv in rho _ _ _ _ (Operand.tmp _) => whnf)); simp [hd]; done) | (simp [Region.wanted, yieldR]; (repeat (conv in rho _ _ _ _ (Operand.tmp _) => whnf)); (try simp [hd]); simp [*]))
          · have heq := HPE.out wq
            simp only [Does]
            simp only [execOp, resolve, Option.map_some, Option.map_none, List.map_toArray, List.map_cons, List.map_nil, rho_const, rho_func]
            (repeat (conv in rho _ _ _ _ (Operand.tmp _) => whnf))
            (try simp only [hd])
            go_simp
            (repeat (conv in rho _ _ _ _ (Operand.tmp _) => whnf))
            exact Grows.refl _) ?_
        refine free_guarded (fun v_ _ => v_ = .bool false) (val_mono' _) (fun vs wq hg hd => by
          (try simp [Region.binds] at hd)
          refine ⟨?_, ?_⟩
          · (first | (simp [Region.wanted, yieldR]; (repeat (conv in rho _ _ _ _ (Operand.tmp _) => whnf)); simp [hd]; done) | (simp [Region.wanted, yieldR]; (repeat (conv in rho _ _ _ _ (Operand.tmp _) => whnf)); (try simp [hd]); simp [*]))
          · simp only [Does]
            simp only [execOp, resolve, Option.map_some, Option.map_none, List.map_toArray, List.map_cons, List.map_nil, rho_const, rho_func]
            (repeat (conv in rho _ _ _ _ (Operand.tmp _) => whnf))
            (try simp only [hd])
            go_simp
            (repeat (conv in rho _ _ _ _ (Operand.tmp _) => whnf))
            (first | exact Grows.refl _ | (simp; exact Grows.refl _) | exact ⟨Grows.refl _, by simp⟩)) ?_
        iterate 2 (first | (apply free_pure rfl; focus (intro vs w hg hd;  (try simp [Region.binds] at hd); simp only [execOp, resolve, Option.map_some, Option.map_none, List.map_toArray, List.map_cons, List.map_nil, rho_const, rho_func]; (repeat (conv in rho _ _ _ _ (Operand.tmp _) => whnf)); (try simp only [hd]); go_simp; (repeat (conv in rho _ _ _ _ (Operand.tmp _) => whnf)); (try simp only [hd]);  rfl)) | (apply free_gpure; (focus (intro vs w hg hd; (try simp [Region.binds] at hd); (first | (simp [Region.wanted, yieldR]; (repeat (conv in rho _ _ _ _ (Operand.tmp _) => whnf)); simp [hd]; done) | (simp [Region.wanted, yieldR]; (repeat (conv in rho _ _ _ _ (Operand.tmp _) => whnf)); (try simp [hd]); simp [*])))); focus (intro vs w hg hd;  (try simp [Region.binds] at hd); simp only [execOp, resolve, Option.map_some, Option.map_none, List.map_toArray, List.map_cons, List.map_nil, rho_const, rho_func]; (repeat (conv in rho _ _ _ _ (Operand.tmp _) => whnf)); (try simp only [hd]); go_simp; (repeat (conv in rho _ _ _ _ (Operand.tmp _) => whnf)); (try simp only [hd]);  rfl)))
        refine free_guarded (fun v_ _ => v_ = .agg (ptA Y)) (val_mono' _) (fun vs wq hg hd => by
          (try simp [Region.binds] at hd)
          refine ⟨?_, ?_⟩
          · (first | (simp [Region.wanted, yieldR]; (repeat (conv in rho _ _ _ _ (Operand.tmp _) => whnf)); simp [hd]; done) | (simp [Region.wanted, yieldR]; (repeat (conv in rho _ _ _ _ (Operand.tmp _) => whnf)); (try simp [hd]); simp [*]))
          · exact dk_load 27 (.tmp 18) ⟨g6, 0, none⟩ _ rfl (by first | rfl | (conv => lhs; whnf)) (run_load_pt (Row.grows Y2.out (Grows.of_drew hg))) ⟨Grows.refl _, rfl⟩) ?_
        refine free_guarded (fun v_ _ => v_ = .agg (pageA Q)) (val_mono' _) (fun vs wq hg hd => by
          (try simp [Region.binds] at hd)
          refine ⟨?_, ?_⟩
          · (first | (simp [Region.wanted, yieldR]; (repeat (conv in rho _ _ _ _ (Operand.tmp _) => whnf)); simp [hd]; done) | (simp [Region.wanted, yieldR]; (repeat (conv in rho _ _ _ _ (Operand.tmp _) => whnf)); (try simp [hd]); simp [*]))
          · exact dk_load 29 (.tmp 15) ⟨(w.heap.size + 2), 0, none⟩ _ rfl (by first | rfl | (conv => lhs; whnf)) (run_load_page (HQ4.out.grows (Grows.of_drew hg))) ⟨Grows.refl _, rfl⟩) ?_
        refine free_guarded (fun v_ _ => v_ = .bool tq) (val_mono' _) (fun vs wq hg hd => by
          (try simp [Region.binds] at hd)
          refine ⟨?_, ?_⟩
          · (first | (simp [Region.wanted, yieldR]; (repeat (conv in rho _ _ _ _ (Operand.tmp _) => whnf)); simp [hd]; done) | (simp [Region.wanted, yieldR]; (repeat (conv in rho _ _ _ _ (Operand.tmp _) => whnf)); (try simp [hd]); simp [*]))
          · simp only [Does]
            simp only [execOp, resolve, Option.map_some, Option.map_none, List.map_toArray, List.map_cons, List.map_nil, rho_const, rho_func]
            (repeat (conv in rho _ _ _ _ (Operand.tmp _) => whnf))
            (try simp only [hd])
            go_simp
            (repeat (conv in rho _ _ _ _ (Operand.tmp _) => whnf))
            exact HF3.out _) ?_
        refine free_guarded (fun v_ _ => v_ = .agg (pageA P)) (val_mono' _) (fun vs wq hg hd => by
          (try simp [Region.binds] at hd)
          refine ⟨?_, ?_⟩
          · (first | (simp [Region.wanted, yieldR]; (repeat (conv in rho _ _ _ _ (Operand.tmp _) => whnf)); simp [hd]; done) | (simp [Region.wanted, yieldR]; (repeat (conv in rho _ _ _ _ (Operand.tmp _) => whnf)); (try simp [hd]); simp [*]))
          · exact dk_load 29 (.tmp 7) ⟨w.heap.size, 0, none⟩ _ rfl (by first | rfl | (conv => lhs; whnf)) (run_load_page (HR4.out.grows (Grows.of_drew hg))) ⟨Grows.refl _, rfl⟩) ?_
        refine free_guarded (fun v_ _ => v_ = .agg (pageA Q)) (val_mono' _) (fun vs wq hg hd => by
          (try simp [Region.binds] at hd)
          refine ⟨?_, ?_⟩
          · (first | (simp [Region.wanted, yieldR]; (repeat (conv in rho _ _ _ _ (Operand.tmp _) => whnf)); simp [hd]; done) | (simp [Region.wanted, yieldR]; (repeat (conv in rho _ _ _ _ (Operand.tmp _) => whnf)); (try simp [hd]); simp [*]))
          · exact dk_load 29 (.tmp 15) ⟨(w.heap.size + 2), 0, none⟩ _ rfl (by first | rfl | (conv => lhs; whnf)) (run_load_page (HQ4.out.grows (Grows.of_drew hg))) ⟨Grows.refl _, rfl⟩) ?_
        refine free_guarded (fun v_ _ => v_ = .bool tq) (val_mono' _) (fun vs wq hg hd => by
          (try simp [Region.binds] at hd)
          refine ⟨?_, ?_⟩
          · (first | (simp [Region.wanted, yieldR]; (repeat (conv in rho _ _ _ _ (Operand.tmp _) => whnf)); simp [hd]; done) | (simp [Region.wanted, yieldR]; (repeat (conv in rho _ _ _ _ (Operand.tmp _) => whnf)); (try simp [hd]); simp [*]))
          · have heq := HPE.out wq
            simp only [Does]
            simp only [execOp, resolve, Option.map_some, Option.map_none, List.map_toArray, List.map_cons, List.map_nil, rho_const, rho_func]
            (repeat (conv in rho _ _ _ _ (Operand.tmp _) => whnf))
            (try simp only [hd])
            go_simp
            (repeat (conv in rho _ _ _ _ (Operand.tmp _) => whnf))
            exact Grows.refl _) ?_
        refine free_guarded (fun v_ _ => v_ = .bool false) (val_mono' _) (fun vs wq hg hd => by
          (try simp [Region.binds] at hd)
          refine ⟨?_, ?_⟩
          · (first | (simp [Region.wanted, yieldR]; (repeat (conv in rho _ _ _ _ (Operand.tmp _) => whnf)); simp [hd]; done) | (simp [Region.wanted, yieldR]; (repeat (conv in rho _ _ _ _ (Operand.tmp _) => whnf)); (try simp [hd]); simp [*]))
          · simp only [Does]
            simp only [execOp, resolve, Option.map_some, Option.map_none, List.map_toArray, List.map_cons, List.map_nil, rho_const, rho_func]
            (repeat (conv in rho _ _ _ _ (Operand.tmp _) => whnf))
            (try simp only [hd])
            go_simp
            (repeat (conv in rho _ _ _ _ (Operand.tmp _) => whnf))
            (first | exact Grows.refl _ | (simp; exact Grows.refl _) | exact ⟨Grows.refl _, by simp⟩)) ?_
        iterate 2 (first | (apply free_pure rfl; focus (intro vs w hg hd;  (try simp [Region.binds] at hd); simp only [execOp, resolve, Option.map_some, Option.map_none, List.map_toArray, List.map_cons, List.map_nil, rho_const, rho_func]; (repeat (conv in rho _ _ _ _ (Operand.tmp _) => whnf)); (try simp only [hd]); go_simp; (repeat (conv in rho _ _ _ _ (Operand.tmp _) => whnf)); (try simp only [hd]);  rfl)) | (apply free_gpure; (focus (intro vs w hg hd; (try simp [Region.binds] at hd); (first | (simp [Region.wanted, yieldR]; (repeat (conv in rho _ _ _ _ (Operand.tmp _) => whnf)); simp [hd]; done) | (simp [Region.wanted, yieldR]; (repeat (conv in rho _ _ _ _ (Operand.tmp _) => whnf)); (try simp [hd]); simp [*])))); focus (intro vs w hg hd;  (try simp [Region.binds] at hd); simp only [execOp, resolve, Option.map_some, Option.map_none, List.map_toArray, List.map_cons, List.map_nil, rho_const, rho_func]; (repeat (conv in rho _ _ _ _ (Operand.tmp _) => whnf)); (try simp only [hd]); go_simp; (repeat (conv in rho _ _ _ _ (Operand.tmp _) => whnf)); (try simp only [hd]);  rfl)))
        iterate 2 (first | (apply free_pure rfl; focus (intro vs w hg hd; have q0 := hg.cell c4; (try simp [Region.binds] at hd); simp only [execOp, resolve, Option.map_some, Option.map_none, List.map_toArray, List.map_cons, List.map_nil, rho_const, rho_func]; (repeat (conv in rho _ _ _ _ (Operand.tmp _) => whnf)); (try simp only [hd]); go_simp; (repeat (conv in rho _ _ _ _ (Operand.tmp _) => whnf)); (try simp only [hd]);  rfl)) | (apply free_gpure; (focus (intro vs w hg hd; (try simp [Region.binds] at hd); (first | (simp [Region.wanted, yieldR]; (repeat (conv in rho _ _ _ _ (Operand.tmp _) => whnf)); simp [hd]; done) | (simp [Region.wanted, yieldR]; (repeat (conv in rho _ _ _ _ (Operand.tmp _) => whnf)); (try simp [hd]); simp [*])))); focus (intro vs w hg hd; have q0 := hg.cell c4; (try simp [Region.binds] at hd); simp only [execOp, resolve, Option.map_some, Option.map_none, List.map_toArray, List.map_cons, List.map_nil, rho_const, rho_func]; (repeat (conv in rho _ _ _ _ (Operand.tmp _) => whnf)); (try simp only [hd]); go_simp; (repeat (conv in rho _ _ _ _ (Operand.tmp _) => whnf)); (try simp only [hd]);  rfl)))
        refine free_guarded (fun v_ _ => v_ = .agg (pageA P)) (val_mono' _) (fun vs wq hg hd => by
          (try simp [Region.binds] at hd)
          refine ⟨?_, ?_⟩
          · (first | (simp [Region.wanted, yieldR]; (repeat (conv in rho _ _ _ _ (Operand.tmp _) => whnf)); simp [hd]; done) | (simp [Region.wanted, yieldR]; (repeat (conv in rho _ _ _ _ (Operand.tmp _) => whnf)); (try simp [hd]); simp [*]))
          · exact dk_load 29 (.tmp 7) ⟨w.heap.size, 0, none⟩ _ rfl (by first | rfl | (conv => lhs; whnf)) (run_load_page (HR4.out.grows (Grows.of_drew hg))) ⟨Grows.refl _, rfl⟩) ?_
        refine free_guarded (fun v_ _ => v_ = .int .u64 (uI sp)) (val_mono' _) (fun vs wq hg hd => by
          (try simp [Region.binds] at hd)
          refine ⟨?_, ?_⟩
          · (first | (simp [Region.wanted, yieldR]; (repeat (conv in rho _ _ _ _ (Operand.tmp _) => whnf)); simp [hd]; done) | (simp [Region.wanted, yieldR]; (repeat (conv in rho _ _ _ _ (Operand.tmp _) => whnf)); (try simp [hd]); simp [*]))
          · simp only [Does]
            simp only [execOp, resolve, Option.map_some, Option.map_none, List.map_toArray, List.map_cons, List.map_nil, rho_const, rho_func]
            (repeat (conv in rho _ _ _ _ (Operand.tmp _) => whnf))
            (try simp only [hd])
            go_simp
            (repeat (conv in rho _ _ _ _ (Operand.tmp _) => whnf))
            exact HSP.out _) ?_
        refine free_guarded (fun v_ _ => v_ = .bool false) (val_mono' _) (fun vs wq hg hd => by
          (try simp [Region.binds] at hd)
          refine ⟨?_, ?_⟩
          · (first | (simp [Region.wanted, yieldR]; (repeat (conv in rho _ _ _ _ (Operand.tmp _) => whnf)); simp [hd]; done) | (simp [Region.wanted, yieldR]; (repeat (conv in rho _ _ _ _ (Operand.tmp _) => whnf)); (try simp [hd]); simp [*]))
          · simp only [Does]
            simp only [execOp, resolve, Option.map_some, Option.map_none, List.map_toArray, List.map_cons, List.map_nil, rho_const, rho_func]
            (repeat (conv in rho _ _ _ _ (Operand.tmp _) => whnf))
            (try simp only [hd])
            go_simp
            (repeat (conv in rho _ _ _ _ (Operand.tmp _) => whnf))
            (first | exact Grows.refl _ | (simp; exact Grows.refl _) | exact ⟨Grows.refl _, by simp⟩)) ?_
        iterate 2 (first | (apply free_pure rfl; focus (intro vs w hg hd;  (try simp [Region.binds] at hd); simp only [execOp, resolve, Option.map_some, Option.map_none, List.map_toArray, List.map_cons, List.map_nil, rho_const, rho_func]; (repeat (conv in rho _ _ _ _ (Operand.tmp _) => whnf)); (try simp only [hd]); go_simp; (repeat (conv in rho _ _ _ _ (Operand.tmp _) => whnf)); (try simp only [hd]);  rfl)) | (apply free_gpure; (focus (intro vs w hg hd; (try simp [Region.binds] at hd); (first | (simp [Region.wanted, yieldR]; (repeat (conv in rho _ _ _ _ (Operand.tmp _) => whnf)); simp [hd]; done) | (simp [Region.wanted, yieldR]; (repeat (conv in rho _ _ _ _ (Operand.tmp _) => whnf)); (try simp [hd]); simp [*])))); focus (intro vs w hg hd;  (try simp [Region.binds] at hd); simp only [execOp, resolve, Option.map_some, Option.map_none, List.map_toArray, List.map_cons, List.map_nil, rho_const, rho_func]; (repeat (conv in rho _ _ _ _ (Operand.tmp _) => whnf)); (try simp only [hd]); go_simp; (repeat (conv in rho _ _ _ _ (Operand.tmp _) => whnf)); (try simp only [hd]);  rfl)))
        iterate 3 (first | (apply free_pure rfl; focus (intro vs w hg hd; have q0 := hg.cell c4; (try simp [Region.binds] at hd); simp only [execOp, resolve, Option.map_some, Option.map_none, List.map_toArray, List.map_cons, List.map_nil, rho_const, rho_func]; (repeat (conv in rho _ _ _ _ (Operand.tmp _) => whnf)); (try simp only [hd]); go_simp; (repeat (conv in rho _ _ _ _ (Operand.tmp _) => whnf)); (try simp only [hd]);  rfl)) | (apply free_gpure; (focus (intro vs w hg hd; (try simp [Region.binds] at hd); (first | (simp [Region.wanted, yieldR]; (repeat (conv in rho _ _ _ _ (Operand.tmp _) => whnf)); simp [hd]; done) | (simp [Region.wanted, yieldR]; (repeat (conv in rho _ _ _ _ (Operand.tmp _) => whnf)); (try simp [hd]); simp [*])))); focus (intro vs w hg hd; have q0 := hg.cell c4; (try simp [Region.binds] at hd); simp only [execOp, resolve, Option.map_some, Option.map_none, List.map_toArray, List.map_cons, List.map_nil, rho_const, rho_func]; (repeat (conv in rho _ _ _ _ (Operand.tmp _) => whnf)); (try simp only [hd]); go_simp; (repeat (conv in rho _ _ _ _ (Operand.tmp _) => whnf)); (try simp only [hd]);  rfl)))
        refine free_guarded (fun v_ _ => v_ = .agg (pageA P)) (val_mono' _) (fun vs wq hg hd => by
          (try simp [Region.binds] at hd)
          refine ⟨?_, ?_⟩
          · (first | (simp [Region.wanted, yieldR]; (repeat (conv in rho _ _ _ _ (Operand.tmp _) => whnf)); simp [hd]; done) | (simp [Region.wanted, yieldR]; (repeat (conv in rho _ _ _ _ (Operand.tmp _) => whnf)); (try simp [hd]); simp [*]))
          · exact dk_load 29 (.tmp 7) ⟨w.heap.size, 0, none⟩ _ rfl (by first | rfl | (conv => lhs; whnf)) (run_load_page (HR4.out.grows (Grows.of_drew hg))) ⟨Grows.refl _, rfl⟩) ?_
        refine free_guarded (fun v_ _ => v_ = .bool false) (val_mono' _) (fun vs wq hg hd => by
          (try simp [Region.binds] at hd)
          refine ⟨?_, ?_⟩
          · (first | (simp [Region.wanted, yieldR]; (repeat (conv in rho _ _ _ _ (Operand.tmp _) => whnf)); simp [hd]; done) | (simp [Region.wanted, yieldR]; (repeat (conv in rho _ _ _ _ (Operand.tmp _) => whnf)); (try simp [hd]); simp [*]))
          · simp only [Does]
            simp only [execOp, resolve, Option.map_some, Option.map_none, List.map_toArray, List.map_cons, List.map_nil, rho_const, rho_func]
            (repeat (conv in rho _ _ _ _ (Operand.tmp _) => whnf))
            (try simp only [hd])
            go_simp
            (repeat (conv in rho _ _ _ _ (Operand.tmp _) => whnf))
            exact HF4.out _) ?_
        repeat (first | (apply free_pure rfl; focus (intro vs w hg hd;  (try simp [Region.binds] at hd); simp only [execOp, resolve, Option.map_some, Option.map_none, List.map_toArray, List.map_cons, List.map_nil, rho_const, rho_func]; (repeat (conv in rho _ _ _ _ (Operand.tmp _) => whnf)); (try simp only [hd]); go_simp; (repeat (conv in rho _ _ _ _ (Operand.tmp _) => whnf)); (try simp only [hd]);  rfl)) | (apply free_gpure; (focus (intro vs w hg hd; (try simp [Region.binds] at hd); (first | (simp [Region.wanted, yieldR]; (repeat (conv in rho _ _ _ _ (Operand.tmp _) => whnf)); simp [hd]; done) | (simp [Region.wanted, yieldR]; (repeat (conv in rho _ _ _ _ (Operand.tmp _) => whnf)); (try simp [hd]); simp [*])))); focus (intro vs w hg hd;  (try simp [Region.binds] at hd); simp only [execOp, resolve, Option.map_some, Option.map_none, List.map_toArray, List.map_cons, List.map_nil, rho_const, rho_func]; (repeat (conv in rho _ _ _ _ (Operand.tmp _) => whnf)); (try simp only [hd]); go_simp; (repeat (conv in rho _ _ _ _ (Operand.tmp _) => whnf)); (try simp only [hd]);  rfl)))
        intro vs w' hg hv; have h35 := hv 35 (by omega); simp at h35; simp only [putL, dstAt, List.range, List.range.loop, if_true, List.getElem?_toArray, List.getElem?_cons_zero, List.getElem?_cons_succ, Option.bind_some, Act.put, List.setIfInBounds_toArray, List.set_cons_zero, List.set_cons_succ]
        rw [h35]
        have hgW : Grows n2 w' := Grows.of_drew hg
        have X3 := Lib.hid (Row.grows X2.out hgW); have Y3 := Lib.hid (Row.grows Y2.out hgW); have HG5 : Hid (Grows w w') := Grows.trans HG4.out hgW
        clear hv h35 hg hgW c4
        generalize vs 0 = z0, vs 1 = z1, vs 2 = z2, vs 3 = z3, vs 4 = z4, vs 5 = z5, vs 6 = z6, vs 7 = z7, vs 8 = z8, vs 9 = z9, vs 10 = z10, vs 11 = z11, vs 12 = z12, vs 13 = z13, vs 14 = z14, vs 15 = z15, vs 16 = z16, vs 17 = z17, vs 18 = z18, vs 19 = z19, vs 20 = z20, vs 21 = z21, vs 22 = z22, vs 23 = z23, vs 24 = z24, vs 25 = z25, vs 26 = z26, vs 27 = z27, vs 28 = z28, vs 29 = z29, vs 30 = z30, vs 31 = z31, vs 32 = z32, vs 33 = z33, vs 34 = z34 at *
        by_cases q1 : a < 0
        case pos =>
          go_wp2_with (first
            | (go_at_call 7; (with_reducible refine (wakes5_any _ (HGl.out.grows HG5.out)).mono ?_); rintro e w9 ⟨rfl, g⟩; have HG9 : Hid (Grows w w9) := Grows.trans HG5.out g; clear g))
          go_ret
          exact ⟨rfl, HG9.out⟩
        by_cases q2 : b < 0
        case pos =>
          go_wp2_with (first
            | (go_at_call 7; (with_reducible refine (wakes5_any _ (HGl.out.grows HG5.out)).mono ?_); rintro e w9 ⟨rfl, g⟩; have HG9 : Hid (Grows w w9) := Grows.trans HG5.out g; clear g))
          go_ret
          exact ⟨rfl, HG9.out⟩
        by_cases q3 : 60000 < a
        case pos =>
          go_wp2_with (first
            | (go_at_call 7; (with_reducible refine (wakes5_any _ (HGl.out.grows HG5.out)).mono ?_); rintro e w9 ⟨rfl, g⟩; have HG9 : Hid (Grows w w9) := Grows.trans HG5.out g; clear g))
          go_ret
          exact ⟨rfl, HG9.out⟩
        by_cases q4 : 60000 < b
        case pos =>
          go_wp2_with (first
            | (go_at_call 7; (with_reducible refine (wakes5_any _ (HGl.out.grows HG5.out)).mono ?_); rintro e w9 ⟨rfl, g⟩; have HG9 : Hid (Grows w w9) := Grows.trans HG5.out g; clear g))
          go_ret
          exact ⟨rfl, HG9.out⟩
        have HRX := HRXi.out (by omega) (by omega) (by omega) (by omega)
        have HRY := HRYi.out (by omega) (by omega)
        clear HRXi HRYi
        by_cases h1 : 4 ≤ a
        case neg =>
          by_cases h5 : 4 ≤ b
          case neg =>
            have eX : ((decide (4 ≤ a) && decide (a < n) && (decide (1 ≤ wI birth) && decide (wI birth ≤ 1073741824))) && (decide (4 ≤ b) && decide (b < n) && decide (a ≠ b))) = false := by simp only [decide_eq_false h1, decide_eq_false h5, Bool.false_and, Bool.and_false, Bool.and_true, Bool.true_and]
            have eY : (decide (4 ≤ a) && decide (a < n) && (decide (1 ≤ wI birth) && decide (wI birth ≤ 1073741824))) = false := by simp only [decide_eq_false h1, decide_eq_false h5, Bool.false_and, Bool.and_false, Bool.and_true, Bool.true_and]
            have RX : Hid (∀ W, Calls Tryd.prog 12 #[.agg (ptA X), .int .i64 n] W fun e w' => e = .returned (.bool false) ∧ Grows W w') := fun W => by have h := HRX.out W; rw [eX] at h; exact h
            have RY : Hid (∀ W, Calls Tryd.prog 12 #[.agg (ptA Y), .int .i64 n] W fun e w' => e = .returned (.bool false) ∧ Grows W w') := fun W => by have h := HRY.out W; rw [eY] at h; exact h
            clear eX eY HRX HRY
            go_wp2_with (first
              | ((with_reducible refine wpList_load_pt (o := ⟨some 137, _, _, _, _, _⟩) ?_ (.tmp 17) ?_ g5 X ?_ ?_ ?_); exact rfl; exact rfl; exact rfl; exact X3.out)
              | (go_at_call 12; (with_reducible refine (RX.out _).mono ?_); rintro e w7 ⟨rfl, g⟩; have Y4 := Lib.hid (Row.grows Y3.out g); have HG7 : Hid (Grows w w7) := Grows.trans HG5.out g; clear g)
              | ((with_reducible refine wpList_loadG_pt (o := ⟨some 146, _, _, _, _, _⟩) ?_ (.tmp 18) ?_ g6 Y ?_ ?_ ?_); exact rfl; exact rfl; exact rfl; exact Y4.out)
              | (go_at_call 12; (with_reducible refine (RY.out _).mono ?_); rintro e w8 ⟨rfl, g⟩; have HG8 : Hid (Grows w w8) := Grows.trans HG7.out g; clear g)
              | (go_at_call 7; (with_reducible refine (wakes5_any _ (HGl.out.grows HG8.out)).mono ?_); rintro e w9 ⟨rfl, g⟩; have HG9 : Hid (Grows w w9) := Grows.trans HG8.out g; clear g))
            go_ret
            exact ⟨rfl, HG9.out⟩
          by_cases h6 : b < n
          case neg =>
            have eX : ((decide (4 ≤ a) && decide (a < n) && (decide (1 ≤ wI birth) && decide (wI birth ≤ 1073741824))) && (decide (4 ≤ b) && decide (b < n) && decide (a ≠ b))) = false := by simp only [decide_eq_false h1, decide_eq_true h5, decide_eq_false h6, Bool.false_and, Bool.and_false, Bool.and_true, Bool.true_and]
            have eY : (decide (4 ≤ a) && decide (a < n) && (decide (1 ≤ wI birth) && decide (wI birth ≤ 1073741824))) = false := by simp only [decide_eq_false h1, decide_eq_true h5, decide_eq_false h6, Bool.false_and, Bool.and_false, Bool.and_true, Bool.true_and]
            have RX : Hid (∀ W, Calls Tryd.prog 12 #[.agg (ptA X), .int .i64 n] W fun e w' => e = .returned (.bool false) ∧ Grows W w') := fun W => by have h := HRX.out W; rw [eX] at h; exact h
            have RY : Hid (∀ W, Calls Tryd.prog 12 #[.agg (ptA Y), .int .i64 n] W fun e w' => e = .returned (.bool false) ∧ Grows W w') := fun W => by have h := HRY.out W; rw [eY] at h; exact h
            clear eX eY HRX HRY
            go_wp2_with (first
              | ((with_reducible refine wpList_load_pt (o := ⟨some 137, _, _, _, _, _⟩) ?_ (.tmp 17) ?_ g5 X ?_ ?_ ?_); exact rfl; exact rfl; exact rfl; exact X3.out)
              | (go_at_call 12; (with_reducible refine (RX.out _).mono ?_); rintro e w7 ⟨rfl, g⟩; have Y4 := Lib.hid (Row.grows Y3.out g); have HG7 : Hid (Grows w w7) := Grows.trans HG5.out g; clear g)
              | ((with_reducible refine wpList_loadG_pt (o := ⟨some 146, _, _, _, _, _⟩) ?_ (.tmp 18) ?_ g6 Y ?_ ?_ ?_); exact rfl; exact rfl; exact rfl; exact Y4.out)
              | (go_at_call 12; (with_reducible refine (RY.out _).mono ?_); rintro e w8 ⟨rfl, g⟩; have HG8 : Hid (Grows w w8) := Grows.trans HG7.out g; clear g)
              | (go_at_call 7; (with_reducible refine (wakes5_any _ (HGl.out.grows HG8.out)).mono ?_); rintro e w9 ⟨rfl, g⟩; have HG9 : Hid (Grows w w9) := Grows.trans HG8.out g; clear g))
            go_ret
            exact ⟨rfl, HG9.out⟩
          by_cases h7 : a = b
          case pos =>
            have eX : ((decide (4 ≤ a) && decide (a < n) && (decide (1 ≤ wI birth) && decide (wI birth ≤ 1073741824))) && (decide (4 ≤ b) && decide (b < n) && decide (a ≠ b))) = false := by simp only [decide_eq_false h1, decide_eq_true h5, decide_eq_true h6, decide_eq_false (p := a ≠ b) (fun e => e h7), Bool.false_and, Bool.and_false, Bool.and_true, Bool.true_and]
            have eY : (decide (4 ≤ a) && decide (a < n) && (decide (1 ≤ wI birth) && decide (wI birth ≤ 1073741824))) = false := by simp only [decide_eq_false h1, decide_eq_true h5, decide_eq_true h6, decide_eq_false (p := a ≠ b) (fun e => e h7), Bool.false_and, Bool.and_false, Bool.and_true, Bool.true_and]
            have RX : Hid (∀ W, Calls Tryd.prog 12 #[.agg (ptA X), .int .i64 n] W fun e w' => e = .returned (.bool false) ∧ Grows W w') := fun W => by have h := HRX.out W; rw [eX] at h; exact h
            have RY : Hid (∀ W, Calls Tryd.prog 12 #[.agg (ptA Y), .int .i64 n] W fun e w' => e = .returned (.bool false) ∧ Grows W w') := fun W => by have h := HRY.out W; rw [eY] at h; exact h
            have hne7 : (a != b) = false := by simpa using h7
            clear eX eY HRX HRY h7
            go_wp2_with (first
              | ((with_reducible refine wpList_load_pt (o := ⟨some 137, _, _, _, _, _⟩) ?_ (.tmp 17) ?_ g5 X ?_ ?_ ?_); exact rfl; exact rfl; exact rfl; exact X3.out)
              | (go_at_call 12; (with_reducible refine (RX.out _).mono ?_); rintro e w7 ⟨rfl, g⟩; have Y4 := Lib.hid (Row.grows Y3.out g); have HG7 : Hid (Grows w w7) := Grows.trans HG5.out g; clear g)
              | ((with_reducible refine wpList_loadG_pt (o := ⟨some 146, _, _, _, _, _⟩) ?_ (.tmp 18) ?_ g6 Y ?_ ?_ ?_); exact rfl; exact rfl; exact rfl; exact Y4.out)
              | (go_at_call 12; (with_reducible refine (RY.out _).mono ?_); rintro e w8 ⟨rfl, g⟩; have HG8 : Hid (Grows w w8) := Grows.trans HG7.out g; clear g)
              | (go_at_call 7; (with_reducible refine (wakes5_any _ (HGl.out.grows HG8.out)).mono ?_); rintro e w9 ⟨rfl, g⟩; have HG9 : Hid (Grows w w9) := Grows.trans HG8.out g; clear g))
            go_ret
            exact ⟨rfl, HG9.out⟩
          have eX : ((decide (4 ≤ a) && decide (a < n) && (decide (1 ≤ wI birth) && decide (wI birth ≤ 1073741824))) && (decide (4 ≤ b) && decide (b < n) && decide (a ≠ b))) = false := by simp only [decide_eq_false h1, decide_eq_true h5, decide_eq_true h6, decide_eq_true (p := a ≠ b) h7, Bool.false_and, Bool.and_false, Bool.and_true, Bool.true_and]
          have eY : (decide (4 ≤ a) && decide (a < n) && (decide (1 ≤ wI birth) && decide (wI birth ≤ 1073741824))) = false := by simp only [decide_eq_false h1, decide_eq_true h5, decide_eq_true h6, decide_eq_true (p := a ≠ b) h7, Bool.false_and, Bool.and_false, Bool.and_true, Bool.true_and]
          have RX : Hid (∀ W, Calls Tryd.prog 12 #[.agg (ptA X), .int .i64 n] W fun e w' => e = .returned (.bool false) ∧ Grows W w') := fun W => by have h := HRX.out W; rw [eX] at h; exact h
          have RY : Hid (∀ W, Calls Tryd.prog 12 #[.agg (ptA Y), .int .i64 n] W fun e w' => e = .returned (.bool false) ∧ Grows W w') := fun W => by have h := HRY.out W; rw [eY] at h; exact h
          have hne7 : (a != b) = true := by simpa using h7
          clear eX eY HRX HRY h7
          go_wp2_with (first
            | ((with_reducible refine wpList_load_pt (o := ⟨some 137, _, _, _, _, _⟩) ?_ (.tmp 17) ?_ g5 X ?_ ?_ ?_); exact rfl; exact rfl; exact rfl; exact X3.out)
            | (go_at_call 12; (with_reducible refine (RX.out _).mono ?_); rintro e w7 ⟨rfl, g⟩; have Y4 := Lib.hid (Row.grows Y3.out g); have HG7 : Hid (Grows w w7) := Grows.trans HG5.out g; clear g)
            | ((with_reducible refine wpList_loadG_pt (o := ⟨some 146, _, _, _, _, _⟩) ?_ (.tmp 18) ?_ g6 Y ?_ ?_ ?_); exact rfl; exact rfl; exact rfl; exact Y4.out)
            | (go_at_call 12; (with_reducible refine (RY.out _).mono ?_); rintro e w8 ⟨rfl, g⟩; have HG8 : Hid (Grows w w8) := Grows.trans HG7.out g; clear g)
            | (go_at_call 7; (with_reducible refine (wakes5_any _ (HGl.out.grows HG8.out)).mono ?_); rintro e w9 ⟨rfl, g⟩; have HG9 : Hid (Grows w w9) := Grows.trans HG8.out g; clear g))
          go_ret
          exact ⟨rfl, HG9.out⟩
        by_cases h2 : a < n
        case neg =>
          by_cases h5 : 4 ≤ b
          case neg =>
            have eX : ((decide (4 ≤ a) && decide (a < n) && (decide (1 ≤ wI birth) && decide (wI birth ≤ 1073741824))) && (decide (4 ≤ b) && decide (b < n) && decide (a ≠ b))) = false := by simp only [decide_eq_true h1, decide_eq_false h2, decide_eq_false h5, Bool.false_and, Bool.and_false, Bool.and_true, Bool.true_and]
            have eY : (decide (4 ≤ a) && decide (a < n) && (decide (1 ≤ wI birth) && decide (wI birth ≤ 1073741824))) = false := by simp only [decide_eq_true h1, decide_eq_false h2, decide_eq_false h5, Bool.false_and, Bool.and_false, Bool.and_true, Bool.true_and]
            have RX : Hid (∀ W, Calls Tryd.prog 12 #[.agg (ptA X), .int .i64 n] W fun e w' => e = .returned (.bool false) ∧ Grows W w') := fun W => by have h := HRX.out W; rw [eX] at h; exact h
            have RY : Hid (∀ W, Calls Tryd.prog 12 #[.agg (ptA Y), .int .i64 n] W fun e w' => e = .returned (.bool false) ∧ Grows W w') := fun W => by have h := HRY.out W; rw [eY] at h; exact h
            clear eX eY HRX HRY
            go_wp2_with (first
              | ((with_reducible refine wpList_load_pt (o := ⟨some 137, _, _, _, _, _⟩) ?_ (.tmp 17) ?_ g5 X ?_ ?_ ?_); exact rfl; exact rfl; exact rfl; exact X3.out)
              | (go_at_call 12; (with_reducible refine (RX.out _).mono ?_); rintro e w7 ⟨rfl, g⟩; have Y4 := Lib.hid (Row.grows Y3.out g); have HG7 : Hid (Grows w w7) := Grows.trans HG5.out g; clear g)
              | ((with_reducible refine wpList_loadG_pt (o := ⟨some 146, _, _, _, _, _⟩) ?_ (.tmp 18) ?_ g6 Y ?_ ?_ ?_); exact rfl; exact rfl; exact rfl; exact Y4.out)
              | (go_at_call 12; (with_reducible refine (RY.out _).mono ?_); rintro e w8 ⟨rfl, g⟩; have HG8 : Hid (Grows w w8) := Grows.trans HG7.out g; clear g)
              | (go_at_call 7; (with_reducible refine (wakes5_any _ (HGl.out.grows HG8.out)).mono ?_); rintro e w9 ⟨rfl, g⟩; have HG9 : Hid (Grows w w9) := Grows.trans HG8.out g; clear g))
            go_ret
            exact ⟨rfl, HG9.out⟩
          by_cases h6 : b < n
          case neg =>
            have eX : ((decide (4 ≤ a) && decide (a < n) && (decide (1 ≤ wI birth) && decide (wI birth ≤ 1073741824))) && (decide (4 ≤ b) && decide (b < n) && decide (a ≠ b))) = false := by simp only [decide_eq_true h1, decide_eq_false h2, decide_eq_true h5, decide_eq_false h6, Bool.false_and, Bool.and_false, Bool.and_true, Bool.true_and]
            have eY : (decide (4 ≤ a) && decide (a < n) && (decide (1 ≤ wI birth) && decide (wI birth ≤ 1073741824))) = false := by simp only [decide_eq_true h1, decide_eq_false h2, decide_eq_true h5, decide_eq_false h6, Bool.false_and, Bool.and_false, Bool.and_true, Bool.true_and]
            have RX : Hid (∀ W, Calls Tryd.prog 12 #[.agg (ptA X), .int .i64 n] W fun e w' => e = .returned (.bool false) ∧ Grows W w') := fun W => by have h := HRX.out W; rw [eX] at h; exact h
            have RY : Hid (∀ W, Calls Tryd.prog 12 #[.agg (ptA Y), .int .i64 n] W fun e w' => e = .returned (.bool false) ∧ Grows W w') := fun W => by have h := HRY.out W; rw [eY] at h; exact h
            clear eX eY HRX HRY
            go_wp2_with (first
              | ((with_reducible refine wpList_load_pt (o := ⟨some 137, _, _, _, _, _⟩) ?_ (.tmp 17) ?_ g5 X ?_ ?_ ?_); exact rfl; exact rfl; exact rfl; exact X3.out)
              | (go_at_call 12; (with_reducible refine (RX.out _).mono ?_); rintro e w7 ⟨rfl, g⟩; have Y4 := Lib.hid (Row.grows Y3.out g); have HG7 : Hid (Grows w w7) := Grows.trans HG5.out g; clear g)
              | ((with_reducible refine wpList_loadG_pt (o := ⟨some 146, _, _, _, _, _⟩) ?_ (.tmp 18) ?_ g6 Y ?_ ?_ ?_); exact rfl; exact rfl; exact rfl; exact Y4.out)
              | (go_at_call 12; (with_reducible refine (RY.out _).mono ?_); rintro e w8 ⟨rfl, g⟩; have HG8 : Hid (Grows w w8) := Grows.trans HG7.out g; clear g)
              | (go_at_call 7; (with_reducible refine (wakes5_any _ (HGl.out.grows HG8.out)).mono ?_); rintro e w9 ⟨rfl, g⟩; have HG9 : Hid (Grows w w9) := Grows.trans HG8.out g; clear g))
            go_ret
            exact ⟨rfl, HG9.out⟩
          by_cases h7 : a = b
          case pos =>
            have eX : ((decide (4 ≤ a) && decide (a < n) && (decide (1 ≤ wI birth) && decide (wI birth ≤ 1073741824))) && (decide (4 ≤ b) && decide (b < n) && decide (a ≠ b))) = false := by simp only [decide_eq_true h1, decide_eq_false h2, decide_eq_true h5, decide_eq_true h6, decide_eq_false (p := a ≠ b) (fun e => e h7), Bool.false_and, Bool.and_false, Bool.and_true, Bool.true_and]
            have eY : (decide (4 ≤ a) && decide (a < n) && (decide (1 ≤ wI birth) && decide (wI birth ≤ 1073741824))) = false := by simp only [decide_eq_true h1, decide_eq_false h2, decide_eq_true h5, decide_eq_true h6, decide_eq_false (p := a ≠ b) (fun e => e h7), Bool.false_and, Bool.and_false, Bool.and_true, Bool.true_and]
            have RX : Hid (∀ W, Calls Tryd.prog 12 #[.agg (ptA X), .int .i64 n] W fun e w' => e = .returned (.bool false) ∧ Grows W w') := fun W => by have h := HRX.out W; rw [eX] at h; exact h
            have RY : Hid (∀ W, Calls Tryd.prog 12 #[.agg (ptA Y), .int .i64 n] W fun e w' => e = .returned (.bool false) ∧ Grows W w') := fun W => by have h := HRY.out W; rw [eY] at h; exact h
            have hne7 : (a != b) = false := by simpa using h7
            clear eX eY HRX HRY h7
            go_wp2_with (first
              | ((with_reducible refine wpList_load_pt (o := ⟨some 137, _, _, _, _, _⟩) ?_ (.tmp 17) ?_ g5 X ?_ ?_ ?_); exact rfl; exact rfl; exact rfl; exact X3.out)
              | (go_at_call 12; (with_reducible refine (RX.out _).mono ?_); rintro e w7 ⟨rfl, g⟩; have Y4 := Lib.hid (Row.grows Y3.out g); have HG7 : Hid (Grows w w7) := Grows.trans HG5.out g; clear g)
              | ((with_reducible refine wpList_loadG_pt (o := ⟨some 146, _, _, _, _, _⟩) ?_ (.tmp 18) ?_ g6 Y ?_ ?_ ?_); exact rfl; exact rfl; exact rfl; exact Y4.out)
              | (go_at_call 12; (with_reducible refine (RY.out _).mono ?_); rintro e w8 ⟨rfl, g⟩; have HG8 : Hid (Grows w w8) := Grows.trans HG7.out g; clear g)
              | (go_at_call 7; (with_reducible refine (wakes5_any _ (HGl.out.grows HG8.out)).mono ?_); rintro e w9 ⟨rfl, g⟩; have HG9 : Hid (Grows w w9) := Grows.trans HG8.out g; clear g))
            go_ret
            exact ⟨rfl, HG9.out⟩
          have eX : ((decide (4 ≤ a) && decide (a < n) && (decide (1 ≤ wI birth) && decide (wI birth ≤ 1073741824))) && (decide (4 ≤ b) && decide (b < n) && decide (a ≠ b))) = false := by simp only [decide_eq_true h1, decide_eq_false h2, decide_eq_true h5, decide_eq_true h6, decide_eq_true (p := a ≠ b) h7, Bool.false_and, Bool.and_false, Bool.and_true, Bool.true_and]
          have eY : (decide (4 ≤ a) && decide (a < n) && (decide (1 ≤ wI birth) && decide (wI birth ≤ 1073741824))) = false := by simp only [decide_eq_true h1, decide_eq_false h2, decide_eq_true h5, decide_eq_true h6, decide_eq_true (p := a ≠ b) h7, Bool.false_and, Bool.and_false, Bool.and_true, Bool.true_and]
          have RX : Hid (∀ W, Calls Tryd.prog 12 #[.agg (ptA X), .int .i64 n] W fun e w' => e = .returned (.bool false) ∧ Grows W w') := fun W => by have h := HRX.out W; rw [eX] at h; exact h
          have RY : Hid (∀ W, Calls Tryd.prog 12 #[.agg (ptA Y), .int .i64 n] W fun e w' => e = .returned (.bool false) ∧ Grows W w') := fun W => by have h := HRY.out W; rw [eY] at h; exact h
          have hne7 : (a != b) = true := by simpa using h7
          clear eX eY HRX HRY h7
          go_wp2_with (first
            | ((with_reducible refine wpList_load_pt (o := ⟨some 137, _, _, _, _, _⟩) ?_ (.tmp 17) ?_ g5 X ?_ ?_ ?_); exact rfl; exact rfl; exact rfl; exact X3.out)
            | (go_at_call 12; (with_reducible refine (RX.out _).mono ?_); rintro e w7 ⟨rfl, g⟩; have Y4 := Lib.hid (Row.grows Y3.out g); have HG7 : Hid (Grows w w7) := Grows.trans HG5.out g; clear g)
            | ((with_reducible refine wpList_loadG_pt (o := ⟨some 146, _, _, _, _, _⟩) ?_ (.tmp 18) ?_ g6 Y ?_ ?_ ?_); exact rfl; exact rfl; exact rfl; exact Y4.out)
            | (go_at_call 12; (with_reducible refine (RY.out _).mono ?_); rintro e w8 ⟨rfl, g⟩; have HG8 : Hid (Grows w w8) := Grows.trans HG7.out g; clear g)
            | (go_at_call 7; (with_reducible refine (wakes5_any _ (HGl.out.grows HG8.out)).mono ?_); rintro e w9 ⟨rfl, g⟩; have HG9 : Hid (Grows w w9) := Grows.trans HG8.out g; clear g))
          go_ret
          exact ⟨rfl, HG9.out⟩
        by_cases h3 : 1 ≤ wI birth
        case neg =>
          by_cases h5 : 4 ≤ b
          case neg =>
            have eX : ((decide (4 ≤ a) && decide (a < n) && (decide (1 ≤ wI birth) && decide (wI birth ≤ 1073741824))) && (decide (4 ≤ b) && decide (b < n) && decide (a ≠ b))) = false := by simp only [decide_eq_true h1, decide_eq_true h2, decide_eq_false h3, decide_eq_false h5, Bool.false_and, Bool.and_false, Bool.and_true, Bool.true_and]
            have eY : (decide (4 ≤ a) && decide (a < n) && (decide (1 ≤ wI birth) && decide (wI birth ≤ 1073741824))) = false := by simp only [decide_eq_true h1, decide_eq_true h2, decide_eq_false h3, decide_eq_false h5, Bool.false_and, Bool.and_false, Bool.and_true, Bool.true_and]
            have RX : Hid (∀ W, Calls Tryd.prog 12 #[.agg (ptA X), .int .i64 n] W fun e w' => e = .returned (.bool false) ∧ Grows W w') := fun W => by have h := HRX.out W; rw [eX] at h; exact h
            have RY : Hid (∀ W, Calls Tryd.prog 12 #[.agg (ptA Y), .int .i64 n] W fun e w' => e = .returned (.bool false) ∧ Grows W w') := fun W => by have h := HRY.out W; rw [eY] at h; exact h
            clear eX eY HRX HRY
            go_wp2_with (first
              | ((with_reducible refine wpList_load_pt (o := ⟨some 137, _, _, _, _, _⟩) ?_ (.tmp 17) ?_ g5 X ?_ ?_ ?_); exact rfl; exact rfl; exact rfl; exact X3.out)
              | (go_at_call 12; (with_reducible refine (RX.out _).mono ?_); rintro e w7 ⟨rfl, g⟩; have Y4 := Lib.hid (Row.grows Y3.out g); have HG7 : Hid (Grows w w7) := Grows.trans HG5.out g; clear g)
              | ((with_reducible refine wpList_loadG_pt (o := ⟨some 146, _, _, _, _, _⟩) ?_ (.tmp 18) ?_ g6 Y ?_ ?_ ?_); exact rfl; exact rfl; exact rfl; exact Y4.out)
              | (go_at_call 12; (with_reducible refine (RY.out _).mono ?_); rintro e w8 ⟨rfl, g⟩; have HG8 : Hid (Grows w w8) := Grows.trans HG7.out g; clear g)
              | (go_at_call 7; (with_reducible refine (wakes5_any _ (HGl.out.grows HG8.out)).mono ?_); rintro e w9 ⟨rfl, g⟩; have HG9 : Hid (Grows w w9) := Grows.trans HG8.out g; clear g))
            go_ret
            exact ⟨rfl, HG9.out⟩
          by_cases h6 : b < n
          case neg =>
            have eX : ((decide (4 ≤ a) && decide (a < n) && (decide (1 ≤ wI birth) && decide (wI birth ≤ 1073741824))) && (decide (4 ≤ b) && decide (b < n) && decide (a ≠ b))) = false := by simp only [decide_eq_true h1, decide_eq_true h2, decide_eq_false h3, decide_eq_true h5, decide_eq_false h6, Bool.false_and, Bool.and_false, Bool.and_true, Bool.true_and]
            have eY : (decide (4 ≤ a) && decide (a < n) && (decide (1 ≤ wI birth) && decide (wI birth ≤ 1073741824))) = false := by simp only [decide_eq_true h1, decide_eq_true h2, decide_eq_false h3, decide_eq_true h5, decide_eq_false h6, Bool.false_and, Bool.and_false, Bool.and_true, Bool.true_and]
            have RX : Hid (∀ W, Calls Tryd.prog 12 #[.agg (ptA X), .int .i64 n] W fun e w' => e = .returned (.bool false) ∧ Grows W w') := fun W => by have h := HRX.out W; rw [eX] at h; exact h
            have RY : Hid (∀ W, Calls Tryd.prog 12 #[.agg (ptA Y), .int .i64 n] W fun e w' => e = .returned (.bool false) ∧ Grows W w') := fun W => by have h := HRY.out W; rw [eY] at h; exact h
            clear eX eY HRX HRY
            go_wp2_with (first
              | ((with_reducible refine wpList_load_pt (o := ⟨some 137, _, _, _, _, _⟩) ?_ (.tmp 17) ?_ g5 X ?_ ?_ ?_); exact rfl; exact rfl; exact rfl; exact X3.out)
              | (go_at_call 12; (with_reducible refine (RX.out _).mono ?_); rintro e w7 ⟨rfl, g⟩; have Y4 := Lib.hid (Row.grows Y3.out g); have HG7 : Hid (Grows w w7) := Grows.trans HG5.out g; clear g)
              | ((with_reducible refine wpList_loadG_pt (o := ⟨some 146, _, _, _, _, _⟩) ?_ (.tmp 18) ?_ g6 Y ?_ ?_ ?_); exact rfl; exact rfl; exact rfl; exact Y4.out)
              | (go_at_call 12; (with_reducible refine (RY.out _).mono ?_); rintro e w8 ⟨rfl, g⟩; have HG8 : Hid (Grows w w8) := Grows.trans HG7.out g; clear g)
              | (go_at_call 7; (with_reducible refine (wakes5_any _ (HGl.out.grows HG8.out)).mono ?_); rintro e w9 ⟨rfl, g⟩; have HG9 : Hid (Grows w w9) := Grows.trans HG8.out g; clear g))
            go_ret
            exact ⟨rfl, HG9.out⟩
          by_cases h7 : a = b
          case pos =>
            have eX : ((decide (4 ≤ a) && decide (a < n) && (decide (1 ≤ wI birth) && decide (wI birth ≤ 1073741824))) && (decide (4 ≤ b) && decide (b < n) && decide (a ≠ b))) = false := by simp only [decide_eq_true h1, decide_eq_true h2, decide_eq_false h3, decide_eq_true h5, decide_eq_true h6, decide_eq_false (p := a ≠ b) (fun e => e h7), Bool.false_and, Bool.and_false, Bool.and_true, Bool.true_and]
            have eY : (decide (4 ≤ a) && decide (a < n) && (decide (1 ≤ wI birth) && decide (wI birth ≤ 1073741824))) = false := by simp only [decide_eq_true h1, decide_eq_true h2, decide_eq_false h3, decide_eq_true h5, decide_eq_true h6, decide_eq_false (p := a ≠ b) (fun e => e h7), Bool.false_and, Bool.and_false, Bool.and_true, Bool.true_and]
            have RX : Hid (∀ W, Calls Tryd.prog 12 #[.agg (ptA X), .int .i64 n] W fun e w' => e = .returned (.bool false) ∧ Grows W w') := fun W => by have h := HRX.out W; rw [eX] at h; exact h
            have RY : Hid (∀ W, Calls Tryd.prog 12 #[.agg (ptA Y), .int .i64 n] W fun e w' => e = .returned (.bool false) ∧ Grows W w') := fun W => by have h := HRY.out W; rw [eY] at h; exact h
            have hne7 : (a != b) = false := by simpa using h7
            clear eX eY HRX HRY h7
            go_wp2_with (first
              | ((with_reducible refine wpList_load_pt (o := ⟨some 137, _, _, _, _, _⟩) ?_ (.tmp 17) ?_ g5 X ?_ ?_ ?_); exact rfl; exact rfl; exact rfl; exact X3.out)
              | (go_at_call 12; (with_reducible refine (RX.out _).mono ?_); rintro e w7 ⟨rfl, g⟩; have Y4 := Lib.hid (Row.grows Y3.out g); have HG7 : Hid (Grows w w7) := Grows.trans HG5.out g; clear g)
              | ((with_reducible refine wpList_loadG_pt (o := ⟨some 146, _, _, _, _, _⟩) ?_ (.tmp 18) ?_ g6 Y ?_ ?_ ?_); exact rfl; exact rfl; exact rfl; exact Y4.out)
              | (go_at_call 12; (with_reducible refine (RY.out _).mono ?_); rintro e w8 ⟨rfl, g⟩; have HG8 : Hid (Grows w w8) := Grows.trans HG7.out g; clear g)
              | (go_at_call 7; (with_reducible refine (wakes5_any _ (HGl.out.grows HG8.out)).mono ?_); rintro e w9 ⟨rfl, g⟩; have HG9 : Hid (Grows w w9) := Grows.trans HG8.out g; clear g))
            go_ret
            exact ⟨rfl, HG9.out⟩
          have eX : ((decide (4 ≤ a) && decide (a < n) && (decide (1 ≤ wI birth) && decide (wI birth ≤ 1073741824))) && (decide (4 ≤ b) && decide (b < n) && decide (a ≠ b))) = false := by simp only [decide_eq_true h1, decide_eq_true h2, decide_eq_false h3, decide_eq_true h5, decide_eq_true h6, decide_eq_true (p := a ≠ b) h7, Bool.false_and, Bool.and_false, Bool.and_true, Bool.true_and]
          have eY : (decide (4 ≤ a) && decide (a < n) && (decide (1 ≤ wI birth) && decide (wI birth ≤ 1073741824))) = false := by simp only [decide_eq_true h1, decide_eq_true h2, decide_eq_false h3, decide_eq_true h5, decide_eq_true h6, decide_eq_true (p := a ≠ b) h7, Bool.false_and, Bool.and_false, Bool.and_true, Bool.true_and]
          have RX : Hid (∀ W, Calls Tryd.prog 12 #[.agg (ptA X), .int .i64 n] W fun e w' => e = .returned (.bool false) ∧ Grows W w') := fun W => by have h := HRX.out W; rw [eX] at h; exact h
          have RY : Hid (∀ W, Calls Tryd.prog 12 #[.agg (ptA Y), .int .i64 n] W fun e w' => e = .returned (.bool false) ∧ Grows W w') := fun W => by have h := HRY.out W; rw [eY] at h; exact h
          have hne7 : (a != b) = true := by simpa using h7
          clear eX eY HRX HRY h7
          go_wp2_with (first
            | ((with_reducible refine wpList_load_pt (o := ⟨some 137, _, _, _, _, _⟩) ?_ (.tmp 17) ?_ g5 X ?_ ?_ ?_); exact rfl; exact rfl; exact rfl; exact X3.out)
            | (go_at_call 12; (with_reducible refine (RX.out _).mono ?_); rintro e w7 ⟨rfl, g⟩; have Y4 := Lib.hid (Row.grows Y3.out g); have HG7 : Hid (Grows w w7) := Grows.trans HG5.out g; clear g)
            | ((with_reducible refine wpList_loadG_pt (o := ⟨some 146, _, _, _, _, _⟩) ?_ (.tmp 18) ?_ g6 Y ?_ ?_ ?_); exact rfl; exact rfl; exact rfl; exact Y4.out)
            | (go_at_call 12; (with_reducible refine (RY.out _).mono ?_); rintro e w8 ⟨rfl, g⟩; have HG8 : Hid (Grows w w8) := Grows.trans HG7.out g; clear g)
            | (go_at_call 7; (with_reducible refine (wakes5_any _ (HGl.out.grows HG8.out)).mono ?_); rintro e w9 ⟨rfl, g⟩; have HG9 : Hid (Grows w w9) := Grows.trans HG8.out g; clear g))
          go_ret
          exact ⟨rfl, HG9.out⟩
        by_cases h4 : wI birth ≤ 1073741824
        case neg =>
          by_cases h5 : 4 ≤ b
          case neg =>
            have eX : ((decide (4 ≤ a) && decide (a < n) && (decide (1 ≤ wI birth) && decide (wI birth ≤ 1073741824))) && (decide (4 ≤ b) && decide (b < n) && decide (a ≠ b))) = false := by simp only [decide_eq_true h1, decide_eq_true h2, decide_eq_true h3, decide_eq_false h4, decide_eq_false h5, Bool.false_and, Bool.and_false, Bool.and_true, Bool.true_and]
            have eY : (decide (4 ≤ a) && decide (a < n) && (decide (1 ≤ wI birth) && decide (wI birth ≤ 1073741824))) = false := by simp only [decide_eq_true h1, decide_eq_true h2, decide_eq_true h3, decide_eq_false h4, decide_eq_false h5, Bool.false_and, Bool.and_false, Bool.and_true, Bool.true_and]
            have RX : Hid (∀ W, Calls Tryd.prog 12 #[.agg (ptA X), .int .i64 n] W fun e w' => e = .returned (.bool false) ∧ Grows W w') := fun W => by have h := HRX.out W; rw [eX] at h; exact h
            have RY : Hid (∀ W, Calls Tryd.prog 12 #[.agg (ptA Y), .int .i64 n] W fun e w' => e = .returned (.bool false) ∧ Grows W w') := fun W => by have h := HRY.out W; rw [eY] at h; exact h
            clear eX eY HRX HRY
            go_wp2_with (first
              | ((with_reducible refine wpList_load_pt (o := ⟨some 137, _, _, _, _, _⟩) ?_ (.tmp 17) ?_ g5 X ?_ ?_ ?_); exact rfl; exact rfl; exact rfl; exact X3.out)
              | (go_at_call 12; (with_reducible refine (RX.out _).mono ?_); rintro e w7 ⟨rfl, g⟩; have Y4 := Lib.hid (Row.grows Y3.out g); have HG7 : Hid (Grows w w7) := Grows.trans HG5.out g; clear g)
              | ((with_reducible refine wpList_loadG_pt (o := ⟨some 146, _, _, _, _, _⟩) ?_ (.tmp 18) ?_ g6 Y ?_ ?_ ?_); exact rfl; exact rfl; exact rfl; exact Y4.out)
              | (go_at_call 12; (with_reducible refine (RY.out _).mono ?_); rintro e w8 ⟨rfl, g⟩; have HG8 : Hid (Grows w w8) := Grows.trans HG7.out g; clear g)
              | (go_at_call 7; (with_reducible refine (wakes5_any _ (HGl.out.grows HG8.out)).mono ?_); rintro e w9 ⟨rfl, g⟩; have HG9 : Hid (Grows w w9) := Grows.trans HG8.out g; clear g))
            go_ret
            exact ⟨rfl, HG9.out⟩
          by_cases h6 : b < n
          case neg =>
            have eX : ((decide (4 ≤ a) && decide (a < n) && (decide (1 ≤ wI birth) && decide (wI birth ≤ 1073741824))) && (decide (4 ≤ b) && decide (b < n) && decide (a ≠ b))) = false := by simp only [decide_eq_true h1, decide_eq_true h2, decide_eq_true h3, decide_eq_false h4, decide_eq_true h5, decide_eq_false h6, Bool.false_and, Bool.and_false, Bool.and_true, Bool.true_and]
            have eY : (decide (4 ≤ a) && decide (a < n) && (decide (1 ≤ wI birth) && decide (wI birth ≤ 1073741824))) = false := by simp only [decide_eq_true h1, decide_eq_true h2, decide_eq_true h3, decide_eq_false h4, decide_eq_true h5, decide_eq_false h6, Bool.false_and, Bool.and_false, Bool.and_true, Bool.true_and]
            have RX : Hid (∀ W, Calls Tryd.prog 12 #[.agg (ptA X), .int .i64 n] W fun e w' => e = .returned (.bool false) ∧ Grows W w') := fun W => by have h := HRX.out W; rw [eX] at h; exact h
            have RY : Hid (∀ W, Calls Tryd.prog 12 #[.agg (ptA Y), .int .i64 n] W fun e w' => e = .returned (.bool false) ∧ Grows W w') := fun W => by have h := HRY.out W; rw [eY] at h; exact h
            clear eX eY HRX HRY
            go_wp2_with (first
              | ((with_reducible refine wpList_load_pt (o := ⟨some 137, _, _, _, _, _⟩) ?_ (.tmp 17) ?_ g5 X ?_ ?_ ?_); exact rfl; exact rfl; exact rfl; exact X3.out)
              | (go_at_call 12; (with_reducible refine (RX.out _).mono ?_); rintro e w7 ⟨rfl, g⟩; have Y4 := Lib.hid (Row.grows Y3.out g); have HG7 : Hid (Grows w w7) := Grows.trans HG5.out g; clear g)
              | ((with_reducible refine wpList_loadG_pt (o := ⟨some 146, _, _, _, _, _⟩) ?_ (.tmp 18) ?_ g6 Y ?_ ?_ ?_); exact rfl; exact rfl; exact rfl; exact Y4.out)
              | (go_at_call 12; (with_reducible refine (RY.out _).mono ?_); rintro e w8 ⟨rfl, g⟩; have HG8 : Hid (Grows w w8) := Grows.trans HG7.out g; clear g)
              | (go_at_call 7; (with_reducible refine (wakes5_any _ (HGl.out.grows HG8.out)).mono ?_); rintro e w9 ⟨rfl, g⟩; have HG9 : Hid (Grows w w9) := Grows.trans HG8.out g; clear g))
            go_ret
            exact ⟨rfl, HG9.out⟩
          by_cases h7 : a = b
          case pos =>
            have eX : ((decide (4 ≤ a) && decide (a < n) && (decide (1 ≤ wI birth) && decide (wI birth ≤ 1073741824))) && (decide (4 ≤ b) && decide (b < n) && decide (a ≠ b))) = false := by simp only [decide_eq_true h1, decide_eq_true h2, decide_eq_true h3, decide_eq_false h4, decide_eq_true h5, decide_eq_true h6, decide_eq_false (p := a ≠ b) (fun e => e h7), Bool.false_and, Bool.and_false, Bool.and_true, Bool.true_and]
            have eY : (decide (4 ≤ a) && decide (a < n) && (decide (1 ≤ wI birth) && decide (wI birth ≤ 1073741824))) = false := by simp only [decide_eq_true h1, decide_eq_true h2, decide_eq_true h3, decide_eq_false h4, decide_eq_true h5, decide_eq_true h6, decide_eq_false (p := a ≠ b) (fun e => e h7), Bool.false_and, Bool.and_false, Bool.and_true, Bool.true_and]
            have RX : Hid (∀ W, Calls Tryd.prog 12 #[.agg (ptA X), .int .i64 n] W fun e w' => e = .returned (.bool false) ∧ Grows W w') := fun W => by have h := HRX.out W; rw [eX] at h; exact h
            have RY : Hid (∀ W, Calls Tryd.prog 12 #[.agg (ptA Y), .int .i64 n] W fun e w' => e = .returned (.bool false) ∧ Grows W w') := fun W => by have h := HRY.out W; rw [eY] at h; exact h
            have hne7 : (a != b) = false := by simpa using h7
            clear eX eY HRX HRY h7
            go_wp2_with (first
              | ((with_reducible refine wpList_load_pt (o := ⟨some 137, _, _, _, _, _⟩) ?_ (.tmp 17) ?_ g5 X ?_ ?_ ?_); exact rfl; exact rfl; exact rfl; exact X3.out)
              | (go_at_call 12; (with_reducible refine (RX.out _).mono ?_); rintro e w7 ⟨rfl, g⟩; have Y4 := Lib.hid (Row.grows Y3.out g); have HG7 : Hid (Grows w w7) := Grows.trans HG5.out g; clear g)
              | ((with_reducible refine wpList_loadG_pt (o := ⟨some 146, _, _, _, _, _⟩) ?_ (.tmp 18) ?_ g6 Y ?_ ?_ ?_); exact rfl; exact rfl; exact rfl; exact Y4.out)
              | (go_at_call 12; (with_reducible refine (RY.out _).mono ?_); rintro e w8 ⟨rfl, g⟩; have HG8 : Hid (Grows w w8) := Grows.trans HG7.out g; clear g)
              | (go_at_call 7; (with_reducible refine (wakes5_any _ (HGl.out.grows HG8.out)).mono ?_); rintro e w9 ⟨rfl, g⟩; have HG9 : Hid (Grows w w9) := Grows.trans HG8.out g; clear g))
            go_ret
            exact ⟨rfl, HG9.out⟩
          have eX : ((decide (4 ≤ a) && decide (a < n) && (decide (1 ≤ wI birth) && decide (wI birth ≤ 1073741824))) && (decide (4 ≤ b) && decide (b < n) && decide (a ≠ b))) = false := by simp only [decide_eq_true h1, decide_eq_true h2, decide_eq_true h3, decide_eq_false h4, decide_eq_true h5, decide_eq_true h6, decide_eq_true (p := a ≠ b) h7, Bool.false_and, Bool.and_false, Bool.and_true, Bool.true_and]
          have eY : (decide (4 ≤ a) && decide (a < n) && (decide (1 ≤ wI birth) && decide (wI birth ≤ 1073741824))) = false := by simp only [decide_eq_true h1, decide_eq_true h2, decide_eq_true h3, decide_eq_false h4, decide_eq_true h5, decide_eq_true h6, decide_eq_true (p := a ≠ b) h7, Bool.false_and, Bool.and_false, Bool.and_true, Bool.true_and]
          have RX : Hid (∀ W, Calls Tryd.prog 12 #[.agg (ptA X), .int .i64 n] W fun e w' => e = .returned (.bool false) ∧ Grows W w') := fun W => by have h := HRX.out W; rw [eX] at h; exact h
          have RY : Hid (∀ W, Calls Tryd.prog 12 #[.agg (ptA Y), .int .i64 n] W fun e w' => e = .returned (.bool false) ∧ Grows W w') := fun W => by have h := HRY.out W; rw [eY] at h; exact h
          have hne7 : (a != b) = true := by simpa using h7
          clear eX eY HRX HRY h7
          go_wp2_with (first
            | ((with_reducible refine wpList_load_pt (o := ⟨some 137, _, _, _, _, _⟩) ?_ (.tmp 17) ?_ g5 X ?_ ?_ ?_); exact rfl; exact rfl; exact rfl; exact X3.out)
            | (go_at_call 12; (with_reducible refine (RX.out _).mono ?_); rintro e w7 ⟨rfl, g⟩; have Y4 := Lib.hid (Row.grows Y3.out g); have HG7 : Hid (Grows w w7) := Grows.trans HG5.out g; clear g)
            | ((with_reducible refine wpList_loadG_pt (o := ⟨some 146, _, _, _, _, _⟩) ?_ (.tmp 18) ?_ g6 Y ?_ ?_ ?_); exact rfl; exact rfl; exact rfl; exact Y4.out)
            | (go_at_call 12; (with_reducible refine (RY.out _).mono ?_); rintro e w8 ⟨rfl, g⟩; have HG8 : Hid (Grows w w8) := Grows.trans HG7.out g; clear g)
            | (go_at_call 7; (with_reducible refine (wakes5_any _ (HGl.out.grows HG8.out)).mono ?_); rintro e w9 ⟨rfl, g⟩; have HG9 : Hid (Grows w w9) := Grows.trans HG8.out g; clear g))
          go_ret
          exact ⟨rfl, HG9.out⟩
        by_cases h5 : 4 ≤ b
        case neg =>
          have eX : ((decide (4 ≤ a) && decide (a < n) && (decide (1 ≤ wI birth) && decide (wI birth ≤ 1073741824))) && (decide (4 ≤ b) && decide (b < n) && decide (a ≠ b))) = false := by simp only [decide_eq_true h1, decide_eq_true h2, decide_eq_true h3, decide_eq_true h4, decide_eq_false h5, Bool.false_and, Bool.and_false, Bool.and_true, Bool.true_and]
          have eY : (decide (4 ≤ a) && decide (a < n) && (decide (1 ≤ wI birth) && decide (wI birth ≤ 1073741824))) = true := by simp only [decide_eq_true h1, decide_eq_true h2, decide_eq_true h3, decide_eq_true h4, decide_eq_false h5, Bool.false_and, Bool.and_false, Bool.and_true, Bool.true_and]
          have RX : Hid (∀ W, Calls Tryd.prog 12 #[.agg (ptA X), .int .i64 n] W fun e w' => e = .returned (.bool false) ∧ Grows W w') := fun W => by have h := HRX.out W; rw [eX] at h; exact h
          have RY : Hid (∀ W, Calls Tryd.prog 12 #[.agg (ptA Y), .int .i64 n] W fun e w' => e = .returned (.bool true) ∧ Grows W w') := fun W => by have h := HRY.out W; rw [eY] at h; exact h
          clear eX eY HRX HRY
          go_wp2_with (first
            | ((with_reducible refine wpList_load_pt (o := ⟨some 137, _, _, _, _, _⟩) ?_ (.tmp 17) ?_ g5 X ?_ ?_ ?_); exact rfl; exact rfl; exact rfl; exact X3.out)
            | (go_at_call 12; (with_reducible refine (RX.out _).mono ?_); rintro e w7 ⟨rfl, g⟩; have Y4 := Lib.hid (Row.grows Y3.out g); have HG7 : Hid (Grows w w7) := Grows.trans HG5.out g; clear g)
            | ((with_reducible refine wpList_loadG_pt (o := ⟨some 146, _, _, _, _, _⟩) ?_ (.tmp 18) ?_ g6 Y ?_ ?_ ?_); exact rfl; exact rfl; exact rfl; exact Y4.out)
            | (go_at_call 12; (with_reducible refine (RY.out _).mono ?_); rintro e w8 ⟨rfl, g⟩; have HG8 : Hid (Grows w w8) := Grows.trans HG7.out g; clear g)
            | (go_at_call 7; (with_reducible refine (wakes5_any _ (HGl.out.grows HG8.out)).mono ?_); rintro e w9 ⟨rfl, g⟩; have HG9 : Hid (Grows w w9) := Grows.trans HG8.out g; clear g))
          go_ret
          exact ⟨rfl, HG9.out⟩
        by_cases h6 : b < n
        case neg =>
          have eX : ((decide (4 ≤ a) && decide (a < n) && (decide (1 ≤ wI birth) && decide (wI birth ≤ 1073741824))) && (decide (4 ≤ b) && decide (b < n) && decide (a ≠ b))) = false := by simp only [decide_eq_true h1, decide_eq_true h2, decide_eq_true h3, decide_eq_true h4, decide_eq_true h5, decide_eq_false h6, Bool.false_and, Bool.and_false, Bool.and_true, Bool.true_and]
          have eY : (decide (4 ≤ a) && decide (a < n) && (decide (1 ≤ wI birth) && decide (wI birth ≤ 1073741824))) = true := by simp only [decide_eq_true h1, decide_eq_true h2, decide_eq_true h3, decide_eq_true h4, decide_eq_true h5, decide_eq_false h6, Bool.false_and, Bool.and_false, Bool.and_true, Bool.true_and]
          have RX : Hid (∀ W, Calls Tryd.prog 12 #[.agg (ptA X), .int .i64 n] W fun e w' => e = .returned (.bool false) ∧ Grows W w') := fun W => by have h := HRX.out W; rw [eX] at h; exact h
          have RY : Hid (∀ W, Calls Tryd.prog 12 #[.agg (ptA Y), .int .i64 n] W fun e w' => e = .returned (.bool true) ∧ Grows W w') := fun W => by have h := HRY.out W; rw [eY] at h; exact h
          clear eX eY HRX HRY
          go_wp2_with (first
            | ((with_reducible refine wpList_load_pt (o := ⟨some 137, _, _, _, _, _⟩) ?_ (.tmp 17) ?_ g5 X ?_ ?_ ?_); exact rfl; exact rfl; exact rfl; exact X3.out)
            | (go_at_call 12; (with_reducible refine (RX.out _).mono ?_); rintro e w7 ⟨rfl, g⟩; have Y4 := Lib.hid (Row.grows Y3.out g); have HG7 : Hid (Grows w w7) := Grows.trans HG5.out g; clear g)
            | ((with_reducible refine wpList_loadG_pt (o := ⟨some 146, _, _, _, _, _⟩) ?_ (.tmp 18) ?_ g6 Y ?_ ?_ ?_); exact rfl; exact rfl; exact rfl; exact Y4.out)
            | (go_at_call 12; (with_reducible refine (RY.out _).mono ?_); rintro e w8 ⟨rfl, g⟩; have HG8 : Hid (Grows w w8) := Grows.trans HG7.out g; clear g)
            | (go_at_call 7; (with_reducible refine (wakes5_any _ (HGl.out.grows HG8.out)).mono ?_); rintro e w9 ⟨rfl, g⟩; have HG9 : Hid (Grows w w9) := Grows.trans HG8.out g; clear g))
          go_ret
          exact ⟨rfl, HG9.out⟩
        by_cases h7 : a = b
        case pos =>
          have eX : ((decide (4 ≤ a) && decide (a < n) && (decide (1 ≤ wI birth) && decide (wI birth ≤ 1073741824))) && (decide (4 ≤ b) && decide (b < n) && decide (a ≠ b))) = false := by simp only [decide_eq_true h1, decide_eq_true h2, decide_eq_true h3, decide_eq_true h4, decide_eq_true h5, decide_eq_true h6, decide_eq_false (p := a ≠ b) (fun e => e h7), Bool.false_and, Bool.and_false, Bool.and_true, Bool.true_and]
          have eY : (decide (4 ≤ a) && decide (a < n) && (decide (1 ≤ wI birth) && decide (wI birth ≤ 1073741824))) = true := by simp only [decide_eq_true h1, decide_eq_true h2, decide_eq_true h3, decide_eq_true h4, decide_eq_true h5, decide_eq_true h6, decide_eq_false (p := a ≠ b) (fun e => e h7), Bool.false_and, Bool.and_false, Bool.and_true, Bool.true_and]
          have RX : Hid (∀ W, Calls Tryd.prog 12 #[.agg (ptA X), .int .i64 n] W fun e w' => e = .returned (.bool false) ∧ Grows W w') := fun W => by have h := HRX.out W; rw [eX] at h; exact h
          have RY : Hid (∀ W, Calls Tryd.prog 12 #[.agg (ptA Y), .int .i64 n] W fun e w' => e = .returned (.bool true) ∧ Grows W w') := fun W => by have h := HRY.out W; rw [eY] at h; exact h
          have hne7 : (a != b) = false := by simpa using h7
          clear eX eY HRX HRY h7
          go_wp2_with (first
            | ((with_reducible refine wpList_load_pt (o := ⟨some 137, _, _, _, _, _⟩) ?_ (.tmp 17) ?_ g5 X ?_ ?_ ?_); exact rfl; exact rfl; exact rfl; exact X3.out)
            | (go_at_call 12; (with_reducible refine (RX.out _).mono ?_); rintro e w7 ⟨rfl, g⟩; have Y4 := Lib.hid (Row.grows Y3.out g); have HG7 : Hid (Grows w w7) := Grows.trans HG5.out g; clear g)
            | ((with_reducible refine wpList_loadG_pt (o := ⟨some 146, _, _, _, _, _⟩) ?_ (.tmp 18) ?_ g6 Y ?_ ?_ ?_); exact rfl; exact rfl; exact rfl; exact Y4.out)
            | (go_at_call 12; (with_reducible refine (RY.out _).mono ?_); rintro e w8 ⟨rfl, g⟩; have HG8 : Hid (Grows w w8) := Grows.trans HG7.out g; clear g)
            | (go_at_call 7; (with_reducible refine (wakes5_any _ (HGl.out.grows HG8.out)).mono ?_); rintro e w9 ⟨rfl, g⟩; have HG9 : Hid (Grows w w9) := Grows.trans HG8.out g; clear g))
          go_ret
          exact ⟨rfl, HG9.out⟩
        have eX : ((decide (4 ≤ a) && decide (a < n) && (decide (1 ≤ wI birth) && decide (wI birth ≤ 1073741824))) && (decide (4 ≤ b) && decide (b < n) && decide (a ≠ b))) = true := by simp only [decide_eq_true h1, decide_eq_true h2, decide_eq_true h3, decide_eq_true h4, decide_eq_true h5, decide_eq_true h6, decide_eq_true (p := a ≠ b) h7, Bool.false_and, Bool.and_false, Bool.and_true, Bool.true_and]
        have eY : (decide (4 ≤ a) && decide (a < n) && (decide (1 ≤ wI birth) && decide (wI birth ≤ 1073741824))) = true := by simp only [decide_eq_true h1, decide_eq_true h2, decide_eq_true h3, decide_eq_true h4, decide_eq_true h5, decide_eq_true h6, decide_eq_true (p := a ≠ b) h7, Bool.false_and, Bool.and_false, Bool.and_true, Bool.true_and]
        have RX : Hid (∀ W, Calls Tryd.prog 12 #[.agg (ptA X), .int .i64 n] W fun e w' => e = .returned (.bool true) ∧ Grows W w') := fun W => by have h := HRX.out W; rw [eX] at h; exact h
        have RY : Hid (∀ W, Calls Tryd.prog 12 #[.agg (ptA Y), .int .i64 n] W fun e w' => e = .returned (.bool true) ∧ Grows W w') := fun W => by have h := HRY.out W; rw [eY] at h; exact h
        have hne7 : (a != b) = true := by simpa using h7
        clear eX eY HRX HRY h7
        go_wp2_with (first
          | ((with_reducible refine wpList_load_pt (o := ⟨some 137, _, _, _, _, _⟩) ?_ (.tmp 17) ?_ g5 X ?_ ?_ ?_); exact rfl; exact rfl; exact rfl; exact X3.out)
          | (go_at_call 12; (with_reducible refine (RX.out _).mono ?_); rintro e w7 ⟨rfl, g⟩; have Y4 := Lib.hid (Row.grows Y3.out g); have HG7 : Hid (Grows w w7) := Grows.trans HG5.out g; clear g)
          | ((with_reducible refine wpList_loadG_pt (o := ⟨some 146, _, _, _, _, _⟩) ?_ (.tmp 18) ?_ g6 Y ?_ ?_ ?_); exact rfl; exact rfl; exact rfl; exact Y4.out)
          | (go_at_call 12; (with_reducible refine (RY.out _).mono ?_); rintro e w8 ⟨rfl, g⟩; have HG8 : Hid (Grows w w8) := Grows.trans HG7.out g; clear g)
          | (go_at_call 7; (with_reducible refine (wakes5_any _ (HGl.out.grows HG8.out)).mono ?_); rintro e w9 ⟨rfl, g⟩; have HG9 : Hid (Grows w w9) := Grows.trans HG8.out g; clear g))
        go_ret
        exact ⟨rfl, HG9.out⟩
    case neg =>
      have hI2 : ¬ (k : Int) < 8 := by omega
      have hlq : (CrcM.burst P p k by_).length = 256 := HQ.out.1
      have HTq := CrcM.sum_page P p k by_ (by rw [HPL.out]; omega) (by rw [HBYL.out]; omega) hk
      obtain ⟨Q, hQ⟩ : ∃ Q, Q = CrcM.burst P p k by_ := ⟨_, rfl⟩
      rw [← hQ] at HTq hlq HQ
      obtain ⟨tq, htq⟩ : ∃ tq, tq = decide (P = Q) := ⟨_, rfl⟩
      rw [← htq] at HTq
      have HPE : Hid (∀ W, (Op.equalIn 10000 29 (.agg (pageA P)) (.agg (pageA Q))).run Tryd.prog W = .ok tq W) := fun W => by rw [htq]; exact page_eq_run P Q HPL.out hlq W
      obtain ⟨X, hX⟩ : ∃ X, X = PtM.of 2 a b birth P := ⟨_, rfl⟩
      obtain ⟨Y, hY⟩ : ∃ Y, Y = PtM.of 3 a b birth P := ⟨_, rfl⟩
      have HOX : Hid (∀ W, Calls Tryd.prog 18 #[.int .u8 2, .int .i64 a, .int .i64 b, .int .u32 (wI birth), .agg (pageA P)] W fun e w' => e = .returned (.agg (ptA X)) ∧ Grows W w') := fun W => by rw [hX]; exact of_any 2 a b birth P HPL.out W
      have HOY : Hid (∀ W, Calls Tryd.prog 18 #[.int .u8 3, .int .i64 a, .int .i64 b, .int .u32 (wI birth), .agg (pageA P)] W fun e w' => e = .returned (.agg (ptA Y)) ∧ Grows W w') := fun W => by rw [hY]; exact of_any 3 a b birth P HPL.out W
      have HF1 : Hid (∀ W, Calls Tryd.prog 14 #[.agg (ptA X), .agg (pageA P)] W fun e w' => e = .returned (.bool true) ∧ Grows W w') := fun W => by
        have h := fits_any X P HPL.out W
        rw [hX, fits_of 2 a b birth P P (by decide), beq_self_eq_true, ← hX] at h
        exact h
      have HF2 : Hid (∀ W, Calls Tryd.prog 14 #[.agg (ptA X), .agg (pageA Q)] W fun e w' => e = .returned (.bool tq) ∧ Grows W w') := fun W => by
        have h := fits_any X Q hlq W
        rw [hX, fits_of 2 a b birth P Q (by decide), HTq, ← hX] at h
        exact h
      have HF3 : Hid (∀ W, Calls Tryd.prog 14 #[.agg (ptA Y), .agg (pageA Q)] W fun e w' => e = .returned (.bool tq) ∧ Grows W w') := fun W => by
        have h := fits_any Y Q hlq W
        rw [hY, fits_of 3 a b birth P Q (by decide), HTq, ← hY] at h
        exact h
      obtain ⟨sp, hsp⟩ : ∃ sp, sp = CrcM.sum P := ⟨_, rfl⟩
      have HXs : Hid (X.sum = sp) := by rw [hX, hsp]; rfl
      have HSP : Hid (∀ W, Calls Tryd.prog 28 #[.agg (pageA P)] W fun e w' => e = .returned (.int .u64 (uI sp)) ∧ Grows W w') := fun W => by rw [hsp]; exact rpage_any P HPL.out W
      have HF4 : Hid (∀ W, Calls Tryd.prog 14 #[.agg #[.int .u8 0, .int .u16 0, .int .u16 0, .int .u32 0, .int .u64 (uI sp)], .agg (pageA P)] W fun e w' => e = .returned (.bool false) ∧ Grows W w') := fun W => fits_any ⟨0, 0, 0, 0, sp⟩ P HPL.out W
      have HRXi : Hid (0 ≤ a → a ≤ 60000 → 0 ≤ b → b ≤ 60000 → Hid (∀ W, Calls Tryd.prog 12 #[.agg (ptA X), .int .i64 n] W fun e w' => e = .returned (.bool ((decide (4 ≤ a) && decide (a < n) && (decide (1 ≤ wI birth) && decide (wI birth ≤ 1073741824))) && (decide (4 ≤ b) && decide (b < n) && decide (a ≠ b)))) ∧ Grows W w')) := fun x1 x2 x3 x4 W => by
        have h := right_any X n W
        have e := PtM.right_two a b n birth P x1 x2 x3 x4
        rw [← hX] at e
        rw [e] at h
        exact h
      have HRYi : Hid (0 ≤ a → a ≤ 60000 → Hid (∀ W, Calls Tryd.prog 12 #[.agg (ptA Y), .int .i64 n] W fun e w' => e = .returned (.bool (decide (4 ≤ a) && decide (a < n) && (decide (1 ≤ wI birth) && decide (wI birth ≤ 1073741824)))) ∧ Grows W w')) := fun x1 x2 W => by
        have h := right_any Y n W
        have e := PtM.right_one a b n birth P x1 x2
        rw [← hY] at e
        rw [e] at h
        exact h
      clear hlq HTq hQ htq hX hY hsp
      go_wp2
      refine wp_region_freeP (fun i => decide (10 ≤ i)) 12 155 (by kernel_rfl) (by kernel_rfl) rfl (by kernel_rfl) ?_; simp only [List.take_succ_cons, List.take_zero, List.drop_succ_cons, List.drop_zero]
      refine free_opP (fun v_ _ => v_ = .int .i64 a) rfl rfl (val_mono' _) (fun vs wq hg hd => by
        (try simp [Region.binds] at hd); simp only [Does]; simp only [execOp, resolve, Option.map_some, Option.map_none, List.map_toArray, List.map_cons, List.map_nil, rho_const, rho_func]; (repeat (conv in rho _ _ _ _ (Operand.tmp _) => whnf)); (try simp only [hd]); go_simp; (repeat (conv in rho _ _ _ _ (Operand.tmp _) => whnf))
        first | exact Grows.refl _ | exact ⟨Grows.refl _, rfl⟩ | exact ⟨Grows.refl _, trivial⟩) ?_
      refine free_opP (fun v_ _ => v_ = .int .i64 b) rfl rfl (val_mono' _) (fun vs wq hg hd => by
        (try simp [Region.binds] at hd); simp only [Does]; simp only [execOp, resolve, Option.map_some, Option.map_none, List.map_toArray, List.map_cons, List.map_nil, rho_const, rho_func]; (repeat (conv in rho _ _ _ _ (Operand.tmp _) => whnf)); (try simp only [hd]); go_simp; (repeat (conv in rho _ _ _ _ (Operand.tmp _) => whnf))
        first | exact Grows.refl _ | exact ⟨Grows.refl _, rfl⟩ | exact ⟨Grows.refl _, trivial⟩) ?_
      refine free_opP (fun v_ _ => v_ = .int .u32 (wI birth)) rfl rfl (val_mono' _) (fun vs wq hg hd => by
        (try simp [Region.binds] at hd); simp only [Does]; simp only [execOp, resolve, Option.map_some, Option.map_none, List.map_toArray, List.map_cons, List.map_nil, rho_const, rho_func]; (repeat (conv in rho _ _ _ _ (Operand.tmp _) => whnf)); (try simp only [hd]); go_simp; (repeat (conv in rho _ _ _ _ (Operand.tmp _) => whnf))
        first | exact Grows.refl _ | exact ⟨Grows.refl _, rfl⟩ | exact ⟨Grows.refl _, trivial⟩) ?_
      refine free_opP (fun v_ _ => v_ = .agg (pageA P)) rfl rfl (val_mono' _) (fun vs wq hg hd => dk_load 29 (.tmp 7) ⟨w.heap.size, 0, none⟩ _ rfl (by first | rfl | (conv => lhs; whnf)) (run_load_page (HR.out.grows (Grows.of_drew hg))) ⟨Grows.refl _, rfl⟩) ?_
      refine free_opP (fun v_ _ => v_ = .agg (ptA X)) rfl rfl (val_mono' _) (fun vs wq hg hd => by
        (try simp [Region.binds] at hd); simp only [Does]; simp only [execOp, resolve, Option.map_some, Option.map_none, List.map_toArray, List.map_cons, List.map_nil, rho_const, rho_func]; (repeat (conv in rho _ _ _ _ (Operand.tmp _) => whnf)); (try simp only [hd]); go_simp; (repeat (conv in rho _ _ _ _ (Operand.tmp _) => whnf))
        exact HOX.out _) ?_
      refine free_opP (fun v_ _ => v_ = .int .i64 a) rfl rfl (val_mono' _) (fun vs wq hg hd => by
        (try simp [Region.binds] at hd); simp only [Does]; simp only [execOp, resolve, Option.map_some, Option.map_none, List.map_toArray, List.map_cons, List.map_nil, rho_const, rho_func]; (repeat (conv in rho _ _ _ _ (Operand.tmp _) => whnf)); (try simp only [hd]); go_simp; (repeat (conv in rho _ _ _ _ (Operand.tmp _) => whnf))
        first | exact Grows.refl _ | exact ⟨Grows.refl _, rfl⟩ | exact ⟨Grows.refl _, trivial⟩) ?_
      refine free_opP (fun v_ _ => v_ = .int .i64 b) rfl rfl (val_mono' _) (fun vs wq hg hd => by
        (try simp [Region.binds] at hd); simp only [Does]; simp only [execOp, resolve, Option.map_some, Option.map_none, List.map_toArray, List.map_cons, List.map_nil, rho_const, rho_func]; (repeat (conv in rho _ _ _ _ (Operand.tmp _) => whnf)); (try simp only [hd]); go_simp; (repeat (conv in rho _ _ _ _ (Operand.tmp _) => whnf))
        first | exact Grows.refl _ | exact ⟨Grows.refl _, rfl⟩ | exact ⟨Grows.refl _, trivial⟩) ?_
      refine free_opP (fun v_ _ => v_ = .int .u32 (wI birth)) rfl rfl (val_mono' _) (fun vs wq hg hd => by
        (try simp [Region.binds] at hd); simp only [Does]; simp only [execOp, resolve, Option.map_some, Option.map_none, List.map_toArray, List.map_cons, List.map_nil, rho_const, rho_func]; (repeat (conv in rho _ _ _ _ (Operand.tmp _) => whnf)); (try simp only [hd]); go_simp; (repeat (conv in rho _ _ _ _ (Operand.tmp _) => whnf))
        first | exact Grows.refl _ | exact ⟨Grows.refl _, rfl⟩ | exact ⟨Grows.refl _, trivial⟩) ?_
      refine free_opP (fun v_ _ => v_ = .agg (pageA P)) rfl rfl (val_mono' _) (fun vs wq hg hd => dk_load 29 (.tmp 7) ⟨w.heap.size, 0, none⟩ _ rfl (by first | rfl | (conv => lhs; whnf)) (run_load_page (HR.out.grows (Grows.of_drew hg))) ⟨Grows.refl _, rfl⟩) ?_
      refine free_opP (fun v_ _ => v_ = .agg (ptA Y)) rfl rfl (val_mono' _) (fun vs wq hg hd => by
        (try simp [Region.binds] at hd); simp only [Does]; simp only [execOp, resolve, Option.map_some, Option.map_none, List.map_toArray, List.map_cons, List.map_nil, rho_const, rho_func]; (repeat (conv in rho _ _ _ _ (Operand.tmp _) => whnf)); (try simp only [hd]); go_simp; (repeat (conv in rho _ _ _ _ (Operand.tmp _) => whnf))
        exact HOY.out _) ?_
      refine free_newP (NewRow wr.heap.size 27 #[.int .u8 0, .int .u16 0, .int .u16 0, .int .u32 0, .int .u64 0]) rfl (NewRow.mono _ _ _) (fun vs wq hg hd => new_pt rfl (Below.size (Grows.of_drew hg))) ?_
      refine free_newP (NewRow wr.heap.size 27 #[.int .u8 0, .int .u16 0, .int .u16 0, .int .u32 0, .int .u64 0]) rfl (NewRow.mono _ _ _) (fun vs wq hg hd => new_pt rfl (Below.size (Grows.of_drew hg))) ?_
      intro vs w' hg hv; have h4 := hv 4 (by omega); simp at h4; have h9 := hv 9 (by omega); simp at h9; have h10 := hv 10 (by omega); simp at h10; have h11 := hv 11 (by omega); simp at h11; simp only [putL, dstAt, List.range, List.range.loop, if_true, List.getElem?_toArray, List.getElem?_cons_zero, List.getElem?_cons_succ, Option.bind_some, Act.put, List.setIfInBounds_toArray, List.set_cons_zero, List.set_cons_succ]
      intro hun
      have hgW : Grows wr w' := Grows.of_drew hg
      obtain ⟨g5, e5, l5, r5⟩ := h10
      obtain ⟨g6, e6, l6, r6⟩ := h11
      have h56 : g5 ≠ g6 := fun e => hun 10 11 (by omega) (by omega) (by omega) rfl rfl (by rw [e5, e6, e])
      rw [h4, h9, e5, e6]
      have ZQ : w.heap.size + 2 < wr.heap.size := HQ.out.2.lt
      have HQ2 := Lib.hid (HQ.out.grows hgW); have HR2 := Lib.hid (HR.out.grows hgW); have HG2 := Lib.hid (HG.out.trans hgW)
      have R5 := Lib.hid r5; have R6 := Lib.hid r6; have L5 := Lib.hid (Nat.lt_of_lt_of_le ZQ l5); have L6 := Lib.hid (Nat.lt_of_lt_of_le ZQ l6); have H56 := Lib.hid h56
      clear hv h4 h9 e5 e6 hun hg hgW l5 l6 r5 r6 h56 ZQ
      generalize vs 0 = z0, vs 1 = z1, vs 2 = z2, vs 3 = z3, vs 4 = z4, vs 5 = z5, vs 6 = z6, vs 7 = z7, vs 8 = z8, vs 9 = z9, vs 10 = z10, vs 11 = z11 at *
      go_wp2_with (first
        | ((with_reducible refine wpList_store_pt (o := ⟨none, .store _ (.tmp 17) _, _, _, _, _⟩) ?_ (.tmp 17) (.tmp 53) ?_ g5 X #[.int .u8 0, .int .u16 0, .int .u16 0, .int .u32 0, .int .u64 0] ?_ ?_ ?_ ?_ ?_); exact rfl; exact rfl; exact rfl; exact rfl; exact rfl; exact R5.out; intro n1 hp hg; have X1 := Lib.hid hp; have HQ3 := Lib.hid (HQ2.out.grown hg (by have := L5.out; simp; omega)); have HR3 := Lib.hid (HR2.out.grown hg (by have := L5.out; simp; omega)); have R63 := Lib.hid (R6.out.grown hg (by have := H56.out; simp; omega)); have HG3 : Hid (Grows w n1) := grown_grows HG2.out hg (by have := L5.out; omega); clear hp hg)
        | ((with_reducible refine wpList_store_pt (o := ⟨none, .store _ (.tmp 18) _, _, _, _, _⟩) ?_ (.tmp 18) (.tmp 58) ?_ g6 Y #[.int .u8 0, .int .u16 0, .int .u16 0, .int .u32 0, .int .u64 0] ?_ ?_ ?_ ?_ ?_); exact rfl; exact rfl; exact rfl; exact rfl; exact rfl; exact R63.out; intro n2 hp hg; have Y2 := Lib.hid hp; have X2 := Lib.hid (X1.out.grown hg (by have := H56.out; simp; omega)); have HQ4 := Lib.hid (HQ3.out.grown hg (by have := L6.out; simp; omega)); have HR4 := Lib.hid (HR3.out.grown hg (by have := L6.out; simp; omega)); have HG4 : Hid (Grows w n2) := grown_grows HG3.out hg (by have := L6.out; omega); clear hp hg))
      have c4 := (X2.out.cell 4).trans (ptA_4 X)
      rw [HXs.out] at c4
      refine wp_region_free 36 155 (by kernel_rfl) (by kernel_rfl) rfl (by kernel_rfl) ?_; simp only [List.take_succ_cons, List.take_zero, List.drop_succ_cons, List.drop_zero]
      refine free_op (fun v_ _ => v_ = .agg (ptA X)) rfl (val_mono' _) (fun vs wq hg hd => by
        (try simp [Region.binds] at hd)
        exact dk_load 27 (.tmp 17) ⟨g5, 0, none⟩ _ rfl (by first | rfl | (conv => lhs; whnf)) (run_load_pt (Row.grows X2.out (Grows.of_drew hg))) ⟨Grows.refl _, rfl⟩) ?_
      refine free_op (fun v_ _ => v_ = .agg (pageA P)) rfl (val_mono' _) (fun vs wq hg hd => by
        (try simp [Region.binds] at hd)
        exact dk_load 29 (.tmp 7) ⟨w.heap.size, 0, none⟩ _ rfl (by first | rfl | (conv => lhs; whnf)) (run_load_page (HR4.out.grows (Grows.of_drew hg))) ⟨Grows.refl _, rfl⟩) ?_
      refine free_op (fun v_ _ => v_ = .bool true) rfl (val_mono' _) (fun vs wq hg hd => by
        (try simp [Region.binds] at hd); simp only [Does]; simp only [execOp, resolve, Option.map_some, Option.map_none, List.map_toArray, List.map_cons, List.map_nil, rho_const, rho_func]; (repeat (conv in rho _ _ _ _ (Operand.tmp _) => whnf)); (try simp only [hd]); go_simp; (repeat (conv in rho _ _ _ _ (Operand.tmp _) => whnf))
        exact HF1.out _) ?_
      iterate 2 (apply free_pure rfl; focus (intro vs w hg hd;  (try simp [Region.binds] at hd); simp only [execOp, resolve, Option.map_some, Option.map_none, List.map_toArray, List.map_cons, List.map_nil, rho_const, rho_func]; (repeat (conv in rho _ _ _ _ (Operand.tmp _) => whnf)); (try simp only [hd]); go_simp; (repeat (conv in rho _ _ _ _ (Operand.tmp _) => whnf)); (try simp only [hd]);  rfl))
      refine free_guarded (fun v_ _ => v_ = .agg (ptA X)) (val_mono' _) (fun vs wq hg hd => by
        (try simp [Region.binds] at hd)
        refine ⟨?_, ?_⟩
        · (first | (simp [Region.wanted, yieldR]; (repeat (conv in rho _ _ _ _ (Operand.tmp _) => whnf)); simp [hd]; done) | (simp [Region.wanted, yieldR]; (repeat (conv in rho _ _ _ _ (Operand.tmp _) => whnf)); (try simp [hd]); simp [*]))
        · exact dk_load 27 (.tmp 17) ⟨g5, 0, none⟩ _ rfl (by first | rfl | (conv => lhs; whnf)) (run_load_pt (Row.grows X2.out (Grows.of_drew hg))) ⟨Grows.refl _, rfl⟩) ?_
      refine free_guarded (fun v_ _ => v_ = .agg (pageA Q)) (val_mono' _) (fun vs wq hg hd => by
        (try simp [Region.binds] at hd)
        refine ⟨?_, ?_⟩
        · (first | (simp [Region.wanted, yieldR]; (repeat (conv in rho _ _ _ _ (Operand.tmp _) => whnf)); simp [hd]; done) | (simp [Region.wanted, yieldR]; (repeat (conv in rho _ _ _ _ (Operand.tmp _) => whnf)); (try simp [hd]); simp [*]))
        · exact dk_load 29 (.tmp 15) ⟨(w.heap.size + 2), 0, none⟩ _ rfl (by first | rfl | (conv => lhs; whnf)) (run_load_page (HQ4.out.grows (Grows.of_drew hg))) ⟨Grows.refl _, rfl⟩) ?_
      refine free_guarded (fun v_ _ => v_ = .bool tq) (val_mono' _) (fun vs wq hg hd => by
        (try simp [Region.binds] at hd)
        refine ⟨?_, ?_⟩
        · (first | (simp [Region.wanted, yieldR]; (repeat (conv in rho _ _ _ _ (Operand.tmp _) => whnf)); simp [hd]; done) | (simp [Region.wanted, yieldR]; (repeat (conv in rho _ _ _ _ (Operand.tmp _) => whnf)); (try simp [hd]); simp [*]))
        · simp only [Does]
          simp only [execOp, resolve, Option.map_some, Option.map_none, List.map_toArray, List.map_cons, List.map_nil, rho_const, rho_func]
          (repeat (conv in rho _ _ _ _ (Operand.tmp _) => whnf))
          (try simp only [hd])
          go_simp
          (repeat (conv in rho _ _ _ _ (Operand.tmp _) => whnf))
          exact HF2.out _) ?_
      refine free_guarded (fun v_ _ => v_ = .agg (pageA P)) (val_mono' _) (fun vs wq hg hd => by
        (try simp [Region.binds] at hd)
        refine ⟨?_, ?_⟩
        · (first | (simp [Region.wanted, yieldR]; (repeat (conv in rho _ _ _ _ (Operand.tmp _) => whnf)); simp [hd]; done) | (simp [Region.wanted, yieldR]; (repeat (conv in rho _ _ _ _ (Operand.tmp _) => whnf)); (try simp [hd]); simp [*]))
        · exact dk_load 29 (.tmp 7) ⟨w.heap.size, 0, none⟩ _ rfl (by first | rfl | (conv => lhs; whnf)) (run_load_page (HR4.out.grows (Grows.of_drew hg))) ⟨Grows.refl _, rfl⟩) ?_
      refine free_guarded (fun v_ _ => v_ = .agg (pageA Q)) (val_mono' _) (fun vs wq hg hd => by
        (try simp [Region.binds] at hd)
        refine ⟨?_, ?_⟩
        · (first | (simp [Region.wanted, yieldR]; (repeat (conv in rho _ _ _ _ (Operand.tmp _) => whnf)); simp [hd]; done) | (simp [Region.wanted, yieldR]; (repeat (conv in rho _ _ _ _ (Operand.tmp _) => whnf)); (try simp [hd]); simp [*]))
        · exact dk_load 29 (.tmp 15) ⟨(w.heap.size + 2), 0, none⟩ _ rfl (by first | rfl | (conv => lhs; whnf)) (run_load_page (HQ4.out.grows (Grows.of_drew hg))) ⟨Grows.refl _, rfl⟩) ?_
      refine free_guarded (fun v_ _ => v_ = .bool tq) (val_mono' _) (fun vs wq hg hd => by
        (try simp [Region.binds] at hd)
        refine ⟨?_, ?_⟩
        · (first | (simp [Region.wanted, yieldR]; (repeat (conv in rho _ _ _ _ (Operand.tmp _) => whnf)); simp [hd]; done) | (simp [Region.wanted, yieldR]; (repeat (conv in rho _ _ _ _ (Operand.tmp _) => whnf)); (try simp [hd]); simp [*]))
        · have heq := HPE.out wq
          simp only [Does]
          simp only [execOp, resolve, Option.map_some, Option.map_none, List.map_toArray, List.map_cons, List.map_nil, rho_const, rho_func]
          (repeat (conv in rho _ _ _ _ (Operand.tmp _) => whnf))
          (try simp only [hd])
          go_simp
          (repeat (conv in rho _ _ _ _ (Operand.tmp _) => whnf))
          exact Grows.refl _) ?_
      refine free_guarded (fun v_ _ => v_ = .bool false) (val_mono' _) (fun vs wq hg hd => by
        (try simp [Region.binds] at hd)
        refine ⟨?_, ?_⟩
        · (first | (simp [Region.wanted, yieldR]; (repeat (conv in rho _ _ _ _ (Operand.tmp _) => whnf)); simp [hd]; done) | (simp [Region.wanted, yieldR]; (repeat (conv in rho _ _ _ _ (Operand.tmp _) => whnf)); (try simp [hd]); simp [*]))
        · simp only [Does]
          simp only [execOp, resolve, Option.map_some, Option.map_none, List.map_toArray, List.map_cons, List.map_nil, rho_const, rho_func]
          (repeat (conv in rho _ _ _ _ (Operand.tmp _) => whnf))
          (try simp only [hd])
          go_simp
          (repeat (conv in rho _ _ _ _ (Operand.tmp _) => whnf))
          (first | exact Grows.refl _ | (simp; exact Grows.refl _) | exact ⟨Grows.refl _, by simp⟩)) ?_
      iterate 2 (first | (apply free_pure rfl; focus (intro vs w hg hd;  (try simp [Region.binds] at hd); simp only [execOp, resolve, Option.map_some, Option.map_none, List.map_toArray, List.map_cons, List.map_nil, rho_const, rho_func]; (repeat (conv in rho _ _ _ _ (Operand.tmp _) => whnf)); (try simp only [hd]); go_simp; (repeat (conv in rho _ _ _ _ (Operand.tmp _) => whnf)); (try simp only [hd]);  rfl)) | (apply free_gpure; (focus (intro vs w hg hd; (try simp [Region.binds] at hd); (first | (simp [Region.wanted, yieldR]; (repeat (conv in rho _ _ _ _ (Operand.tmp _) => whnf)); simp [hd]; done) | (simp [Region.wanted, yieldR]; (repeat (conv in rho _ _ _ _ (Operand.tmp _) => whnf)); (try simp [hd]); simp [*])))); focus (intro vs w hg hd;  (try simp [Region.binds] at hd); simp only [execOp, resolve, Option.map_some, Option.map_none, List.map_toArray, List.map_cons, List.map_nil, rho_const, rho_func]; (repeat (conv in rho _ _ _ _ (Operand.tmp _) => whnf)); (try simp only [hd]); go_simp; (repeat (conv in rho _ _ _ _ (Operand.tmp _) => whnf)); (try simp only [hd]);  rfl)))
      refine free_guarded (fun v_ _ => v_ = .agg (ptA Y)) (val_mono' _) (fun vs wq hg hd => by
        (try simp [Region.binds] at hd)
        refine ⟨?_, ?_⟩
        · (first | (simp [Region.wanted, yieldR]; (repeat (conv in rho _ _ _ _ (Operand.tmp _) => whnf)); simp [hd]; done) | (simp [Region.wanted, yieldR]; (repeat (conv in rho _ _ _ _ (Operand.tmp _) => whnf)); (try simp [hd]); simp [*]))
        · exact dk_load 27 (.tmp 18) ⟨g6, 0, none⟩ _ rfl (by first | rfl | (conv => lhs; whnf)) (run_load_pt (Row.grows Y2.out (Grows.of_drew hg))) ⟨Grows.refl _, rfl⟩) ?_
      refine free_guarded (fun v_ _ => v_ = .agg (pageA Q)) (val_mono' _) (fun vs wq hg hd => by
        (try simp [Region.binds] at hd)
        refine ⟨?_, ?_⟩
        · (first | (simp [Region.wanted, yieldR]; (repeat (conv in rho _ _ _ _ (Operand.tmp _) => whnf)); simp [hd]; done) | (simp [Region.wanted, yieldR]; (repeat (conv in rho _ _ _ _ (Operand.tmp _) => whnf)); (try simp [hd]); simp [*]))
        · exact dk_load 29 (.tmp 15) ⟨(w.heap.size + 2), 0, none⟩ _ rfl (by first | rfl | (conv => lhs; whnf)) (run_load_page (HQ4.out.grows (Grows.of_drew hg))) ⟨Grows.refl _, rfl⟩) ?_
      refine free_guarded (fun v_ _ => v_ = .bool tq) (val_mono' _) (fun vs wq hg hd => by
        (try simp [Region.binds] at hd)
        refine ⟨?_, ?_⟩
        · (first | (simp [Region.wanted, yieldR]; (repeat (conv in rho _ _ _ _ (Operand.tmp _) => whnf)); simp [hd]; done) | (simp [Region.wanted, yieldR]; (repeat (conv in rho _ _ _ _ (Operand.tmp _) => whnf)); (try simp [hd]); simp [*]))
        · simp only [Does]
          simp only [execOp, resolve, Option.map_some, Option.map_none, List.map_toArray, List.map_cons, List.map_nil, rho_const, rho_func]
          (repeat (conv in rho _ _ _ _ (Operand.tmp _) => whnf))
          (try simp only [hd])
          go_simp
          (repeat (conv in rho _ _ _ _ (Operand.tmp _) => whnf))
          exact HF3.out _) ?_
      refine free_guarded (fun v_ _ => v_ = .agg (pageA P)) (val_mono' _) (fun vs wq hg hd => by
        (try simp [Region.binds] at hd)
        refine ⟨?_, ?_⟩
        · (first | (simp [Region.wanted, yieldR]; (repeat (conv in rho _ _ _ _ (Operand.tmp _) => whnf)); simp [hd]; done) | (simp [Region.wanted, yieldR]; (repeat (conv in rho _ _ _ _ (Operand.tmp _) => whnf)); (try simp [hd]); simp [*]))
        · exact dk_load 29 (.tmp 7) ⟨w.heap.size, 0, none⟩ _ rfl (by first | rfl | (conv => lhs; whnf)) (run_load_page (HR4.out.grows (Grows.of_drew hg))) ⟨Grows.refl _, rfl⟩) ?_
      refine free_guarded (fun v_ _ => v_ = .agg (pageA Q)) (val_mono' _) (fun vs wq hg hd => by
        (try simp [Region.binds] at hd)
        refine ⟨?_, ?_⟩
        · (first | (simp [Region.wanted, yieldR]; (repeat (conv in rho _ _ _ _ (Operand.tmp _) => whnf)); simp [hd]; done) | (simp [Region.wanted, yieldR]; (repeat (conv in rho _ _ _ _ (Operand.tmp _) => whnf)); (try simp [hd]); simp [*]))
        · exact dk_load 29 (.tmp 15) ⟨(w.heap.size + 2), 0, none⟩ _ rfl (by first | rfl | (conv => lhs; whnf)) (run_load_page (HQ4.out.grows (Grows.of_drew hg))) ⟨Grows.refl _, rfl⟩) ?_
      refine free_guarded (fun v_ _ => v_ = .bool tq) (val_mono' _) (fun vs wq hg hd => by
        (try simp [Region.binds] at hd)
        refine ⟨?_, ?_⟩
        · (first | (simp [Region.wanted, yieldR]; (repeat (conv in rho _ _ _ _ (Operand.tmp _) => whnf)); simp [hd]; done) | (simp [Region.wanted, yieldR]; (repeat (conv in rho _ _ _ _ (Operand.tmp _) => whnf)); (try simp [hd]); simp [*]))
        · have heq := HPE.out wq
          simp only [Does]
          simp only [execOp, resolve, Option.map_some, Option.map_none, List.map_toArray, List.map_cons, List.map_nil, rho_const, rho_func]
          (repeat (conv in rho _ _ _ _ (Operand.tmp _) => whnf))
          (try simp only [hd])
          go_simp
          (repeat (conv in rho _ _ _ _ (Operand.tmp _) => whnf))
          exact Grows.refl _) ?_
      refine free_guarded (fun v_ _ => v_ = .bool false) (val_mono' _) (fun vs wq hg hd => by
        (try simp [Region.binds] at hd)
        refine ⟨?_, ?_⟩
        · (first | (simp [Region.wanted, yieldR]; (repeat (conv in rho _ _ _ _ (Operand.tmp _) => whnf)); simp [hd]; done) | (simp [Region.wanted, yieldR]; (repeat (conv in rho _ _ _ _ (Operand.tmp _) => whnf)); (try simp [hd]); simp [*]))
        · simp only [Does]
          simp only [execOp, resolve, Option.map_some, Option.map_none, List.map_toArray, List.map_cons, List.map_nil, rho_const, rho_func]
          (repeat (conv in rho _ _ _ _ (Operand.tmp _) => whnf))
          (try simp only [hd])
          go_simp
          (repeat (conv in rho _ _ _ _ (Operand.tmp _) => whnf))
          (first | exact Grows.refl _ | (simp; exact Grows.refl _) | exact ⟨Grows.refl _, by simp⟩)) ?_
      iterate 2 (first | (apply free_pure rfl; focus (intro vs w hg hd;  (try simp [Region.binds] at hd); simp only [execOp, resolve, Option.map_some, Option.map_none, List.map_toArray, List.map_cons, List.map_nil, rho_const, rho_func]; (repeat (conv in rho _ _ _ _ (Operand.tmp _) => whnf)); (try simp only [hd]); go_simp; (repeat (conv in rho _ _ _ _ (Operand.tmp _) => whnf)); (try simp only [hd]);  rfl)) | (apply free_gpure; (focus (intro vs w hg hd; (try simp [Region.binds] at hd); (first | (simp [Region.wanted, yieldR]; (repeat (conv in rho _ _ _ _ (Operand.tmp _) => whnf)); simp [hd]; done) | (simp [Region.wanted, yieldR]; (repeat (conv in rho _ _ _ _ (Operand.tmp _) => whnf)); (try simp [hd]); simp [*])))); focus (intro vs w hg hd;  (try simp [Region.binds] at hd); simp only [execOp, resolve, Option.map_some, Option.map_none, List.map_toArray, List.map_cons, List.map_nil, rho_const, rho_func]; (repeat (conv in rho _ _ _ _ (Operand.tmp _) => whnf)); (try simp only [hd]); go_simp; (repeat (conv in rho _ _ _ _ (Operand.tmp _) => whnf)); (try simp only [hd]);  rfl)))
      iterate 2 (first | (apply free_pure rfl; focus (intro vs w hg hd; have q0 := hg.cell c4; (try simp [Region.binds] at hd); simp only [execOp, resolve, Option.map_some, Option.map_none, List.map_toArray, List.map_cons, List.map_nil, rho_const, rho_func]; (repeat (conv in rho _ _ _ _ (Operand.tmp _) => whnf)); (try simp only [hd]); go_simp; (repeat (conv in rho _ _ _ _ (Operand.tmp _) => whnf)); (try simp only [hd]);  rfl)) | (apply free_gpure; (focus (intro vs w hg hd; (try simp [Region.binds] at hd); (first | (simp [Region.wanted, yieldR]; (repeat (conv in rho _ _ _ _ (Operand.tmp _) => whnf)); simp [hd]; done) | (simp [Region.wanted, yieldR]; (repeat (conv in rho _ _ _ _ (Operand.tmp _) => whnf)); (try simp [hd]); simp [*])))); focus (intro vs w hg hd; have q0 := hg.cell c4; (try simp [Region.binds] at hd); simp only [execOp, resolve, Option.map_some, Option.map_none, List.map_toArray, List.map_cons, List.map_nil, rho_const, rho_func]; (repeat (conv in rho _ _ _ _ (Operand.tmp _) => whnf)); (try simp only [hd]); go_simp; (repeat (conv in rho _ _ _ _ (Operand.tmp _) => whnf)); (try simp only [hd]);  rfl)))
      refine free_guarded (fun v_ _ => v_ = .agg (pageA P)) (val_mono' _) (fun vs wq hg hd => by
        (try simp [Region.binds] at hd)
        refine ⟨?_, ?_⟩
        · (first | (simp [Region.wanted, yieldR]; (repeat (conv in rho _ _ _ _ (Operand.tmp _) => whnf)); simp [hd]; done) | (simp [Region.wanted, yieldR]; (repeat (conv in rho _ _ _ _ (Operand.tmp _) => whnf)); (try simp [hd]); simp [*]))
        · exact dk_load 29 (.tmp 7) ⟨w.heap.size, 0, none⟩ _ rfl (by first | rfl | (conv => lhs; whnf)) (run_load_page (HR4.out.grows (Grows.of_drew hg))) ⟨Grows.refl _, rfl⟩) ?_
      refine free_guarded (fun v_ _ => v_ = .int .u64 (uI sp)) (val_mono' _) (fun vs wq hg hd => by
        (try simp [Region.binds] at hd)
        refine ⟨?_, ?_⟩
        · (first | (simp [Region.wanted, yieldR]; (repeat (conv in rho _ _ _ _ (Operand.tmp _) => whnf)); simp [hd]; done) | (simp [Region.wanted, yieldR]; (repeat (conv in rho _ _ _ _ (Operand.tmp _) => whnf)); (try simp [hd]); simp [*]))
        · simp only [Does]
          simp only [execOp, resolve, Option.map_some, Option.map_none, List.map_toArray, List.map_cons, List.map_nil, rho_const, rho_func]
          (repeat (conv in rho _ _ _ _ (Operand.tmp _) => whnf))
          (try simp only [hd])
          go_simp
          (repeat (conv in rho _ _ _ _ (Operand.tmp _) => whnf))
          exact HSP.out _) ?_
      refine free_guarded (fun v_ _ => v_ = .bool false) (val_mono' _) (fun vs wq hg hd => by
        (try simp [Region.binds] at hd)
        refine ⟨?_, ?_⟩
        · (first | (simp [Region.wanted, yieldR]; (repeat (conv in rho _ _ _ _ (Operand.tmp _) => whnf)); simp [hd]; done) | (simp [Region.wanted, yieldR]; (repeat (conv in rho _ _ _ _ (Operand.tmp _) => whnf)); (try simp [hd]); simp [*]))
        · simp only [Does]
          simp only [execOp, resolve, Option.map_some, Option.map_none, List.map_toArray, List.map_cons, List.map_nil, rho_const, rho_func]
          (repeat (conv in rho _ _ _ _ (Operand.tmp _) => whnf))
          (try simp only [hd])
          go_simp
          (repeat (conv in rho _ _ _ _ (Operand.tmp _) => whnf))
          (first | exact Grows.refl _ | (simp; exact Grows.refl _) | exact ⟨Grows.refl _, by simp⟩)) ?_
      iterate 2 (first | (apply free_pure rfl; focus (intro vs w hg hd;  (try simp [Region.binds] at hd); simp only [execOp, resolve, Option.map_some, Option.map_none, List.map_toArray, List.map_cons, List.map_nil, rho_const, rho_func]; (repeat (conv in rho _ _ _ _ (Operand.tmp _) => whnf)); (try simp only [hd]); go_simp; (repeat (conv in rho _ _ _ _ (Operand.tmp _) => whnf)); (try simp only [hd]);  rfl)) | (apply free_gpure; (focus (intro vs w hg hd; (try simp [Region.binds] at hd); (first | (simp [Region.wanted, yieldR]; (repeat (conv in rho _ _ _ _ (Operand.tmp _) => whnf)); simp [hd]; done) | (simp [Region.wanted, yieldR]; (repeat (conv in rho _ _ _ _ (Operand.tmp _) => whnf)); (try simp [hd]); simp [*])))); focus (intro vs w hg hd;  (try simp [Region.binds] at hd); simp only [execOp, resolve, Option.map_some, Option.map_none, List.map_toArray, List.map_cons, List.map_nil, rho_const, rho_func]; (repeat (conv in rho _ _ _ _ (Operand.tmp _) => whnf)); (try simp only [hd]); go_simp; (repeat (conv in rho _ _ _ _ (Operand.tmp _) => whnf)); (try simp only [hd]);  rfl)))
      iterate 3 (first | (apply free_pure rfl; focus (intro vs w hg hd; have q0 := hg.cell c4; (try simp [Region.binds] at hd); simp only [execOp, resolve, Option.map_some, Option.map_none, List.map_toArray, List.map_cons, List.map_nil, rho_const, rho_func]; (repeat (conv in rho _ _ _ _ (Operand.tmp _) => whnf)); (try simp only [hd]); go_simp; (repeat (conv in rho _ _ _ _ (Operand.tmp _) => whnf)); (try simp only [hd]);  rfl)) | (apply free_gpure; (focus (intro vs w hg hd; (try simp [Region.binds] at hd); (first | (simp [Region.wanted, yieldR]; (repeat (conv in rho _ _ _ _ (Operand.tmp _) => whnf)); simp [hd]; done) | (simp [Region.wanted, yieldR]; (repeat (conv in rho _ _ _ _ (Operand.tmp _) => whnf)); (try simp [hd]); simp [*])))); focus (intro vs w hg hd; have q0 := hg.cell c4; (try simp [Region.binds] at hd); simp only [execOp, resolve, Option.map_some, Option.map_none, List.map_toArray, List.map_cons, List.map_nil, rho_const, rho_func]; (repeat (conv in rho _ _ _ _ (Operand.tmp _) => whnf)); (try simp only [hd]); go_simp; (repeat (conv in rho _ _ _ _ (Operand.tmp _) => whnf)); (try simp only [hd]);  rfl)))
      refine free_guarded (fun v_ _ => v_ = .agg (pageA P)) (val_mono' _) (fun vs wq hg hd => by
        (try simp [Region.binds] at hd)
        refine ⟨?_, ?_⟩
        · (first | (simp [Region.wanted, yieldR]; (repeat (conv in rho _ _ _ _ (Operand.tmp _) => whnf)); simp [hd]; done) | (simp [Region.wanted, yieldR]; (repeat (conv in rho _ _ _ _ (Operand.tmp _) => whnf)); (try simp [hd]); simp [*]))
        · exact dk_load 29 (.tmp 7) ⟨w.heap.size, 0, none⟩ _ rfl (by first | rfl | (conv => lhs; whnf)) (run_load_page (HR4.out.grows (Grows.of_drew hg))) ⟨Grows.refl _, rfl⟩) ?_
      refine free_guarded (fun v_ _ => v_ = .bool false) (val_mono' _) (fun vs wq hg hd => by
        (try simp [Region.binds] at hd)
        refine ⟨?_, ?_⟩
        · (first | (simp [Region.wanted, yieldR]; (repeat (conv in rho _ _ _ _ (Operand.tmp _) => whnf)); simp [hd]; done) | (simp [Region.wanted, yieldR]; (repeat (conv in rho _ _ _ _ (Operand.tmp _) => whnf)); (try simp [hd]); simp [*]))
        · simp only [Does]
          simp only [execOp, resolve, Option.map_some, Option.map_none, List.map_toArray, List.map_cons, List.map_nil, rho_const, rho_func]
          (repeat (conv in rho _ _ _ _ (Operand.tmp _) => whnf))
          (try simp only [hd])
          go_simp
          (repeat (conv in rho _ _ _ _ (Operand.tmp _) => whnf))
          exact HF4.out _) ?_
      repeat (first | (apply free_pure rfl; focus (intro vs w hg hd;  (try simp [Region.binds] at hd); simp only [execOp, resolve, Option.map_some, Option.map_none, List.map_toArray, List.map_cons, List.map_nil, rho_const, rho_func]; (repeat (conv in rho _ _ _ _ (Operand.tmp _) => whnf)); (try simp only [hd]); go_simp; (repeat (conv in rho _ _ _ _ (Operand.tmp _) => whnf)); (try simp only [hd]);  rfl)) | (apply free_gpure; (focus (intro vs w hg hd; (try simp [Region.binds] at hd); (first | (simp [Region.wanted, yieldR]; (repeat (conv in rho _ _ _ _ (Operand.tmp _) => whnf)); simp [hd]; done) | (simp [Region.wanted, yieldR]; (repeat (conv in rho _ _ _ _ (Operand.tmp _) => whnf)); (try simp [hd]); simp [*])))); focus (intro vs w hg hd;  (try simp [Region.binds] at hd); simp only [execOp, resolve, Option.map_some, Option.map_none, List.map_toArray, List.map_cons, List.map_nil, rho_const, rho_func]; (repeat (conv in rho _ _ _ _ (Operand.tmp _) => whnf)); (try simp only [hd]); go_simp; (repeat (conv in rho _ _ _ _ (Operand.tmp _) => whnf)); (try simp only [hd]);  rfl)))
      intro vs w' hg hv; have h35 := hv 35 (by omega); simp at h35; simp only [putL, dstAt, List.range, List.range.loop, if_true, List.getElem?_toArray, List.getElem?_cons_zero, List.getElem?_cons_succ, Option.bind_some, Act.put, List.setIfInBounds_toArray, List.set_cons_zero, List.set_cons_succ]
      rw [h35]
      have hgW : Grows n2 w' := Grows.of_drew hg
      have X3 := Lib.hid (Row.grows X2.out hgW); have Y3 := Lib.hid (Row.grows Y2.out hgW); have HG5 : Hid (Grows w w') := Grows.trans HG4.out hgW
      clear hv h35 hg hgW c4
      generalize vs 0 = z0, vs 1 = z1, vs 2 = z2, vs 3 = z3, vs 4 = z4, vs 5 = z5, vs 6 = z6, vs 7 = z7, vs 8 = z8, vs 9 = z9, vs 10 = z10, vs 11 = z11, vs 12 = z12, vs 13 = z13, vs 14 = z14, vs 15 = z15, vs 16 = z16, vs 17 = z17, vs 18 = z18, vs 19 = z19, vs 20 = z20, vs 21 = z21, vs 22 = z22, vs 23 = z23, vs 24 = z24, vs 25 = z25, vs 26 = z26, vs 27 = z27, vs 28 = z28, vs 29 = z29, vs 30 = z30, vs 31 = z31, vs 32 = z32, vs 33 = z33, vs 34 = z34 at *
      by_cases q1 : a < 0
      case pos =>
        go_wp2_with (first
          | (go_at_call 7; (with_reducible refine (wakes5_any _ (HGl.out.grows HG5.out)).mono ?_); rintro e w9 ⟨rfl, g⟩; have HG9 : Hid (Grows w w9) := Grows.trans HG5.out g; clear g))
        go_ret
        exact ⟨rfl, HG9.out⟩
      by_cases q2 : b < 0
      case pos =>
        go_wp2_with (first
          | (go_at_call 7; (with_reducible refine (wakes5_any _ (HGl.out.grows HG5.out)).mono ?_); rintro e w9 ⟨rfl, g⟩; have HG9 : Hid (Grows w w9) := Grows.trans HG5.out g; clear g))
        go_ret
        exact ⟨rfl, HG9.out⟩
      by_cases q3 : 60000 < a
      case pos =>
        go_wp2_with (first
          | (go_at_call 7; (with_reducible refine (wakes5_any _ (HGl.out.grows HG5.out)).mono ?_); rintro e w9 ⟨rfl, g⟩; have HG9 : Hid (Grows w w9) := Grows.trans HG5.out g; clear g))
        go_ret
        exact ⟨rfl, HG9.out⟩
      by_cases q4 : 60000 < b
      case pos =>
        go_wp2_with (first
          | (go_at_call 7; (with_reducible refine (wakes5_any _ (HGl.out.grows HG5.out)).mono ?_); rintro e w9 ⟨rfl, g⟩; have HG9 : Hid (Grows w w9) := Grows.trans HG5.out g; clear g))
        go_ret
        exact ⟨rfl, HG9.out⟩
      have HRX := HRXi.out (by omega) (by omega) (by omega) (by omega)
      have HRY := HRYi.out (by omega) (by omega)
      clear HRXi HRYi
      by_cases h1 : 4 ≤ a
      case neg =>
        by_cases h5 : 4 ≤ b
        case neg =>
          have eX : ((decide (4 ≤ a) && decide (a < n) && (decide (1 ≤ wI birth) && decide (wI birth ≤ 1073741824))) && (decide (4 ≤ b) && decide (b < n) && decide (a ≠ b))) = false := by simp only [decide_eq_false h1, decide_eq_false h5, Bool.false_and, Bool.and_false, Bool.and_true, Bool.true_and]
          have eY : (decide (4 ≤ a) && decide (a < n) && (decide (1 ≤ wI birth) && decide (wI birth ≤ 1073741824))) = false := by simp only [decide_eq_false h1, decide_eq_false h5, Bool.false_and, Bool.and_false, Bool.and_true, Bool.true_and]
          have RX : Hid (∀ W, Calls Tryd.prog 12 #[.agg (ptA X), .int .i64 n] W fun e w' => e = .returned (.bool false) ∧ Grows W w') := fun W => by have h := HRX.out W; rw [eX] at h; exact h
          have RY : Hid (∀ W, Calls Tryd.prog 12 #[.agg (ptA Y), .int .i64 n] W fun e w' => e = .returned (.bool false) ∧ Grows W w') := fun W => by have h := HRY.out W; rw [eY] at h; exact h
          clear eX eY HRX HRY
          go_wp2_with (first
            | ((with_reducible refine wpList_load_pt (o := ⟨some 137, _, _, _, _, _⟩) ?_ (.tmp 17) ?_ g5 X ?_ ?_ ?_); exact rfl; exact rfl; exact rfl; exact X3.out)
            | (go_at_call 12; (with_reducible refine (RX.out _).mono ?_); rintro e w7 ⟨rfl, g⟩; have Y4 := Lib.hid (Row.grows Y3.out g); have HG7 : Hid (Grows w w7) := Grows.trans HG5.out g; clear g)
            | ((with_reducible refine wpList_loadG_pt (o := ⟨some 146, _, _, _, _, _⟩) ?_ (.tmp 18) ?_ g6 Y ?_ ?_ ?_); exact rfl; exact rfl; exact rfl; exact Y4.out)
            | (go_at_call 12; (with_reducible refine (RY.out _).mono ?_); rintro e w8 ⟨rfl, g⟩; have HG8 : Hid (Grows w w8) := Grows.trans HG7.out g; clear g)
            | (go_at_call 7; (with_reducible refine (wakes5_any _ (HGl.out.grows HG8.out)).mono ?_); rintro e w9 ⟨rfl, g⟩; have HG9 : Hid (Grows w w9) := Grows.trans HG8.out g; clear g))
          go_ret
          exact ⟨rfl, HG9.out⟩
        by_cases h6 : b < n
        case neg =>
          have eX : ((decide (4 ≤ a) && decide (a < n) && (decide (1 ≤ wI birth) && decide (wI birth ≤ 1073741824))) && (decide (4 ≤ b) && decide (b < n) && decide (a ≠ b))) = false := by simp only [decide_eq_false h1, decide_eq_true h5, decide_eq_false h6, Bool.false_and, Bool.and_false, Bool.and_true, Bool.true_and]
          have eY : (decide (4 ≤ a) && decide (a < n) && (decide (1 ≤ wI birth) && decide (wI birth ≤ 1073741824))) = false := by simp only [decide_eq_false h1, decide_eq_true h5, decide_eq_false h6, Bool.false_and, Bool.and_false, Bool.and_true, Bool.true_and]
          have RX : Hid (∀ W, Calls Tryd.prog 12 #[.agg (ptA X), .int .i64 n] W fun e w' => e = .returned (.bool false) ∧ Grows W w') := fun W => by have h := HRX.out W; rw [eX] at h; exact h
          have RY : Hid (∀ W, Calls Tryd.prog 12 #[.agg (ptA Y), .int .i64 n] W fun e w' => e = .returned (.bool false) ∧ Grows W w') := fun W => by have h := HRY.out W; rw [eY] at h; exact h
          clear eX eY HRX HRY
          go_wp2_with (first
            | ((with_reducible refine wpList_load_pt (o := ⟨some 137, _, _, _, _, _⟩) ?_ (.tmp 17) ?_ g5 X ?_ ?_ ?_); exact rfl; exact rfl; exact rfl; exact X3.out)
            | (go_at_call 12; (with_reducible refine (RX.out _).mono ?_); rintro e w7 ⟨rfl, g⟩; have Y4 := Lib.hid (Row.grows Y3.out g); have HG7 : Hid (Grows w w7) := Grows.trans HG5.out g; clear g)
            | ((with_reducible refine wpList_loadG_pt (o := ⟨some 146, _, _, _, _, _⟩) ?_ (.tmp 18) ?_ g6 Y ?_ ?_ ?_); exact rfl; exact rfl; exact rfl; exact Y4.out)
            | (go_at_call 12; (with_reducible refine (RY.out _).mono ?_); rintro e w8 ⟨rfl, g⟩; have HG8 : Hid (Grows w w8) := Grows.trans HG7.out g; clear g)
            | (go_at_call 7; (with_reducible refine (wakes5_any _ (HGl.out.grows HG8.out)).mono ?_); rintro e w9 ⟨rfl, g⟩; have HG9 : Hid (Grows w w9) := Grows.trans HG8.out g; clear g))
          go_ret
          exact ⟨rfl, HG9.out⟩
        by_cases h7 : a = b
        case pos =>
          have eX : ((decide (4 ≤ a) && decide (a < n) && (decide (1 ≤ wI birth) && decide (wI birth ≤ 1073741824))) && (decide (4 ≤ b) && decide (b < n) && decide (a ≠ b))) = false := by simp only [decide_eq_false h1, decide_eq_true h5, decide_eq_true h6, decide_eq_false (p := a ≠ b) (fun e => e h7), Bool.false_and, Bool.and_false, Bool.and_true, Bool.true_and]
          have eY : (decide (4 ≤ a) && decide (a < n) && (decide (1 ≤ wI birth) && decide (wI birth ≤ 1073741824))) = false := by simp only [decide_eq_false h1, decide_eq_true h5, decide_eq_true h6, decide_eq_false (p := a ≠ b) (fun e => e h7), Bool.false_and, Bool.and_false, Bool.and_true, Bool.true_and]
          have RX : Hid (∀ W, Calls Tryd.prog 12 #[.agg (ptA X), .int .i64 n] W fun e w' => e = .returned (.bool false) ∧ Grows W w') := fun W => by have h := HRX.out W; rw [eX] at h; exact h
          have RY : Hid (∀ W, Calls Tryd.prog 12 #[.agg (ptA Y), .int .i64 n] W fun e w' => e = .returned (.bool false) ∧ Grows W w') := fun W => by have h := HRY.out W; rw [eY] at h; exact h
          have hne7 : (a != b) = false := by simpa using h7
          clear eX eY HRX HRY h7
          go_wp2_with (first
            | ((with_reducible refine wpList_load_pt (o := ⟨some 137, _, _, _, _, _⟩) ?_ (.tmp 17) ?_ g5 X ?_ ?_ ?_); exact rfl; exact rfl; exact rfl; exact X3.out)
            | (go_at_call 12; (with_reducible refine (RX.out _).mono ?_); rintro e w7 ⟨rfl, g⟩; have Y4 := Lib.hid (Row.grows Y3.out g); have HG7 : Hid (Grows w w7) := Grows.trans HG5.out g; clear g)
            | ((with_reducible refine wpList_loadG_pt (o := ⟨some 146, _, _, _, _, _⟩) ?_ (.tmp 18) ?_ g6 Y ?_ ?_ ?_); exact rfl; exact rfl; exact rfl; exact Y4.out)
            | (go_at_call 12; (with_reducible refine (RY.out _).mono ?_); rintro e w8 ⟨rfl, g⟩; have HG8 : Hid (Grows w w8) := Grows.trans HG7.out g; clear g)
            | (go_at_call 7; (with_reducible refine (wakes5_any _ (HGl.out.grows HG8.out)).mono ?_); rintro e w9 ⟨rfl, g⟩; have HG9 : Hid (Grows w w9) := Grows.trans HG8.out g; clear g))
          go_ret
          exact ⟨rfl, HG9.out⟩
        have eX : ((decide (4 ≤ a) && decide (a < n) && (decide (1 ≤ wI birth) && decide (wI birth ≤ 1073741824))) && (decide (4 ≤ b) && decide (b < n) && decide (a ≠ b))) = false := by simp only [decide_eq_false h1, decide_eq_true h5, decide_eq_true h6, decide_eq_true (p := a ≠ b) h7, Bool.false_and, Bool.and_false, Bool.and_true, Bool.true_and]
        have eY : (decide (4 ≤ a) && decide (a < n) && (decide (1 ≤ wI birth) && decide (wI birth ≤ 1073741824))) = false := by simp only [decide_eq_false h1, decide_eq_true h5, decide_eq_true h6, decide_eq_true (p := a ≠ b) h7, Bool.false_and, Bool.and_false, Bool.and_true, Bool.true_and]
        have RX : Hid (∀ W, Calls Tryd.prog 12 #[.agg (ptA X), .int .i64 n] W fun e w' => e = .returned (.bool false) ∧ Grows W w') := fun W => by have h := HRX.out W; rw [eX] at h; exact h
        have RY : Hid (∀ W, Calls Tryd.prog 12 #[.agg (ptA Y), .int .i64 n] W fun e w' => e = .returned (.bool false) ∧ Grows W w') := fun W => by have h := HRY.out W; rw [eY] at h; exact h
        have hne7 : (a != b) = true := by simpa using h7
        clear eX eY HRX HRY h7
        go_wp2_with (first
          | ((with_reducible refine wpList_load_pt (o := ⟨some 137, _, _, _, _, _⟩) ?_ (.tmp 17) ?_ g5 X ?_ ?_ ?_); exact rfl; exact rfl; exact rfl; exact X3.out)
          | (go_at_call 12; (with_reducible refine (RX.out _).mono ?_); rintro e w7 ⟨rfl, g⟩; have Y4 := Lib.hid (Row.grows Y3.out g); have HG7 : Hid (Grows w w7) := Grows.trans HG5.out g; clear g)
          | ((with_reducible refine wpList_loadG_pt (o := ⟨some 146, _, _, _, _, _⟩) ?_ (.tmp 18) ?_ g6 Y ?_ ?_ ?_); exact rfl; exact rfl; exact rfl; exact Y4.out)
          | (go_at_call 12; (with_reducible refine (RY.out _).mono ?_); rintro e w8 ⟨rfl, g⟩; have HG8 : Hid (Grows w w8) := Grows.trans HG7.out g; clear g)
          | (go_at_call 7; (with_reducible refine (wakes5_any _ (HGl.out.grows HG8.out)).mono ?_); rintro e w9 ⟨rfl, g⟩; have HG9 : Hid (Grows w w9) := Grows.trans HG8.out g; clear g))
        go_ret
        exact ⟨rfl, HG9.out⟩
      by_cases h2 : a < n
      case neg =>
        by_cases h5 : 4 ≤ b
        case neg =>
          have eX : ((decide (4 ≤ a) && decide (a < n) && (decide (1 ≤ wI birth) && decide (wI birth ≤ 1073741824))) && (decide (4 ≤ b) && decide (b < n) && decide (a ≠ b))) = false := by simp only [decide_eq_true h1, decide_eq_false h2, decide_eq_false h5, Bool.false_and, Bool.and_false, Bool.and_true, Bool.true_and]
          have eY : (decide (4 ≤ a) && decide (a < n) && (decide (1 ≤ wI birth) && decide (wI birth ≤ 1073741824))) = false := by simp only [decide_eq_true h1, decide_eq_false h2, decide_eq_false h5, Bool.false_and, Bool.and_false, Bool.and_true, Bool.true_and]
          have RX : Hid (∀ W, Calls Tryd.prog 12 #[.agg (ptA X), .int .i64 n] W fun e w' => e = .returned (.bool false) ∧ Grows W w') := fun W => by have h := HRX.out W; rw [eX] at h; exact h
          have RY : Hid (∀ W, Calls Tryd.prog 12 #[.agg (ptA Y), .int .i64 n] W fun e w' => e = .returned (.bool false) ∧ Grows W w') := fun W => by have h := HRY.out W; rw [eY] at h; exact h
          clear eX eY HRX HRY
          go_wp2_with (first
            | ((with_reducible refine wpList_load_pt (o := ⟨some 137, _, _, _, _, _⟩) ?_ (.tmp 17) ?_ g5 X ?_ ?_ ?_); exact rfl; exact rfl; exact rfl; exact X3.out)
            | (go_at_call 12; (with_reducible refine (RX.out _).mono ?_); rintro e w7 ⟨rfl, g⟩; have Y4 := Lib.hid (Row.grows Y3.out g); have HG7 : Hid (Grows w w7) := Grows.trans HG5.out g; clear g)
            | ((with_reducible refine wpList_loadG_pt (o := ⟨some 146, _, _, _, _, _⟩) ?_ (.tmp 18) ?_ g6 Y ?_ ?_ ?_); exact rfl; exact rfl; exact rfl; exact Y4.out)
            | (go_at_call 12; (with_reducible refine (RY.out _).mono ?_); rintro e w8 ⟨rfl, g⟩; have HG8 : Hid (Grows w w8) := Grows.trans HG7.out g; clear g)
            | (go_at_call 7; (with_reducible refine (wakes5_any _ (HGl.out.grows HG8.out)).mono ?_); rintro e w9 ⟨rfl, g⟩; have HG9 : Hid (Grows w w9) := Grows.trans HG8.out g; clear g))
          go_ret
          exact ⟨rfl, HG9.out⟩
        by_cases h6 : b < n
        case neg =>
          have eX : ((decide (4 ≤ a) && decide (a < n) && (decide (1 ≤ wI birth) && decide (wI birth ≤ 1073741824))) && (decide (4 ≤ b) && decide (b < n) && decide (a ≠ b))) = false := by simp only [decide_eq_true h1, decide_eq_false h2, decide_eq_true h5, decide_eq_false h6, Bool.false_and, Bool.and_false, Bool.and_true, Bool.true_and]
          have eY : (decide (4 ≤ a) && decide (a < n) && (decide (1 ≤ wI birth) && decide (wI birth ≤ 1073741824))) = false := by simp only [decide_eq_true h1, decide_eq_false h2, decide_eq_true h5, decide_eq_false h6, Bool.false_and, Bool.and_false, Bool.and_true, Bool.true_and]
          have RX : Hid (∀ W, Calls Tryd.prog 12 #[.agg (ptA X), .int .i64 n] W fun e w' => e = .returned (.bool false) ∧ Grows W w') := fun W => by have h := HRX.out W; rw [eX] at h; exact h
          have RY : Hid (∀ W, Calls Tryd.prog 12 #[.agg (ptA Y), .int .i64 n] W fun e w' => e = .returned (.bool false) ∧ Grows W w') := fun W => by have h := HRY.out W; rw [eY] at h; exact h
          clear eX eY HRX HRY
          go_wp2_with (first
            | ((with_reducible refine wpList_load_pt (o := ⟨some 137, _, _, _, _, _⟩) ?_ (.tmp 17) ?_ g5 X ?_ ?_ ?_); exact rfl; exact rfl; exact rfl; exact X3.out)
            | (go_at_call 12; (with_reducible refine (RX.out _).mono ?_); rintro e w7 ⟨rfl, g⟩; have Y4 := Lib.hid (Row.grows Y3.out g); have HG7 : Hid (Grows w w7) := Grows.trans HG5.out g; clear g)
            | ((with_reducible refine wpList_loadG_pt (o := ⟨some 146, _, _, _, _, _⟩) ?_ (.tmp 18) ?_ g6 Y ?_ ?_ ?_); exact rfl; exact rfl; exact rfl; exact Y4.out)
            | (go_at_call 12; (with_reducible refine (RY.out _).mono ?_); rintro e w8 ⟨rfl, g⟩; have HG8 : Hid (Grows w w8) := Grows.trans HG7.out g; clear g)
            | (go_at_call 7; (with_reducible refine (wakes5_any _ (HGl.out.grows HG8.out)).mono ?_); rintro e w9 ⟨rfl, g⟩; have HG9 : Hid (Grows w w9) := Grows.trans HG8.out g; clear g))
          go_ret
          exact ⟨rfl, HG9.out⟩
        by_cases h7 : a = b
        case pos =>
          have eX : ((decide (4 ≤ a) && decide (a < n) && (decide (1 ≤ wI birth) && decide (wI birth ≤ 1073741824))) && (decide (4 ≤ b) && decide (b < n) && decide (a ≠ b))) = false := by simp only [decide_eq_true h1, decide_eq_false h2, decide_eq_true h5, decide_eq_true h6, decide_eq_false (p := a ≠ b) (fun e => e h7), Bool.false_and, Bool.and_false, Bool.and_true, Bool.true_and]
          have eY : (decide (4 ≤ a) && decide (a < n) && (decide (1 ≤ wI birth) && decide (wI birth ≤ 1073741824))) = false := by simp only [decide_eq_true h1, decide_eq_false h2, decide_eq_true h5, decide_eq_true h6, decide_eq_false (p := a ≠ b) (fun e => e h7), Bool.false_and, Bool.and_false, Bool.and_true, Bool.true_and]
          have RX : Hid (∀ W, Calls Tryd.prog 12 #[.agg (ptA X), .int .i64 n] W fun e w' => e = .returned (.bool false) ∧ Grows W w') := fun W => by have h := HRX.out W; rw [eX] at h; exact h
          have RY : Hid (∀ W, Calls Tryd.prog 12 #[.agg (ptA Y), .int .i64 n] W fun e w' => e = .returned (.bool false) ∧ Grows W w') := fun W => by have h := HRY.out W; rw [eY] at h; exact h
          have hne7 : (a != b) = false := by simpa using h7
          clear eX eY HRX HRY h7
          go_wp2_with (first
            | ((with_reducible refine wpList_load_pt (o := ⟨some 137, _, _, _, _, _⟩) ?_ (.tmp 17) ?_ g5 X ?_ ?_ ?_); exact rfl; exact rfl; exact rfl; exact X3.out)
            | (go_at_call 12; (with_reducible refine (RX.out _).mono ?_); rintro e w7 ⟨rfl, g⟩; have Y4 := Lib.hid (Row.grows Y3.out g); have HG7 : Hid (Grows w w7) := Grows.trans HG5.out g; clear g)
            | ((with_reducible refine wpList_loadG_pt (o := ⟨some 146, _, _, _, _, _⟩) ?_ (.tmp 18) ?_ g6 Y ?_ ?_ ?_); exact rfl; exact rfl; exact rfl; exact Y4.out)
            | (go_at_call 12; (with_reducible refine (RY.out _).mono ?_); rintro e w8 ⟨rfl, g⟩; have HG8 : Hid (Grows w w8) := Grows.trans HG7.out g; clear g)
            | (go_at_call 7; (with_reducible refine (wakes5_any _ (HGl.out.grows HG8.out)).mono ?_); rintro e w9 ⟨rfl, g⟩; have HG9 : Hid (Grows w w9) := Grows.trans HG8.out g; clear g))
          go_ret
          exact ⟨rfl, HG9.out⟩
        have eX : ((decide (4 ≤ a) && decide (a < n) && (decide (1 ≤ wI birth) && decide (wI birth ≤ 1073741824))) && (decide (4 ≤ b) && decide (b < n) && decide (a ≠ b))) = false := by simp only [decide_eq_true h1, decide_eq_false h2, decide_eq_true h5, decide_eq_true h6, decide_eq_true (p := a ≠ b) h7, Bool.false_and, Bool.and_false, Bool.and_true, Bool.true_and]
        have eY : (decide (4 ≤ a) && decide (a < n) && (decide (1 ≤ wI birth) && decide (wI birth ≤ 1073741824))) = false := by simp only [decide_eq_true h1, decide_eq_false h2, decide_eq_true h5, decide_eq_true h6, decide_eq_true (p := a ≠ b) h7, Bool.false_and, Bool.and_false, Bool.and_true, Bool.true_and]
        have RX : Hid (∀ W, Calls Tryd.prog 12 #[.agg (ptA X), .int .i64 n] W fun e w' => e = .returned (.bool false) ∧ Grows W w') := fun W => by have h := HRX.out W; rw [eX] at h; exact h
        have RY : Hid (∀ W, Calls Tryd.prog 12 #[.agg (ptA Y), .int .i64 n] W fun e w' => e = .returned (.bool false) ∧ Grows W w') := fun W => by have h := HRY.out W; rw [eY] at h; exact h
        have hne7 : (a != b) = true := by simpa using h7
        clear eX eY HRX HRY h7
        go_wp2_with (first
          | ((with_reducible refine wpList_load_pt (o := ⟨some 137, _, _, _, _, _⟩) ?_ (.tmp 17) ?_ g5 X ?_ ?_ ?_); exact rfl; exact rfl; exact rfl; exact X3.out)
          | (go_at_call 12; (with_reducible refine (RX.out _).mono ?_); rintro e w7 ⟨rfl, g⟩; have Y4 := Lib.hid (Row.grows Y3.out g); have HG7 : Hid (Grows w w7) := Grows.trans HG5.out g; clear g)
          | ((with_reducible refine wpList_loadG_pt (o := ⟨some 146, _, _, _, _, _⟩) ?_ (.tmp 18) ?_ g6 Y ?_ ?_ ?_); exact rfl; exact rfl; exact rfl; exact Y4.out)
          | (go_at_call 12; (with_reducible refine (RY.out _).mono ?_); rintro e w8 ⟨rfl, g⟩; have HG8 : Hid (Grows w w8) := Grows.trans HG7.out g; clear g)
          | (go_at_call 7; (with_reducible refine (wakes5_any _ (HGl.out.grows HG8.out)).mono ?_); rintro e w9 ⟨rfl, g⟩; have HG9 : Hid (Grows w w9) := Grows.trans HG8.out g; clear g))
        go_ret
        exact ⟨rfl, HG9.out⟩
      by_cases h3 : 1 ≤ wI birth
      case neg =>
        by_cases h5 : 4 ≤ b
        case neg =>
          have eX : ((decide (4 ≤ a) && decide (a < n) && (decide (1 ≤ wI birth) && decide (wI birth ≤ 1073741824))) && (decide (4 ≤ b) && decide (b < n) && decide (a ≠ b))) = false := by simp only [decide_eq_true h1, decide_eq_true h2, decide_eq_false h3, decide_eq_false h5, Bool.false_and, Bool.and_false, Bool.and_true, Bool.true_and]
          have eY : (decide (4 ≤ a) && decide (a < n) && (decide (1 ≤ wI birth) && decide (wI birth ≤ 1073741824))) = false := by simp only [decide_eq_true h1, decide_eq_true h2, decide_eq_false h3, decide_eq_false h5, Bool.false_and, Bool.and_false, Bool.and_true, Bool.true_and]
          have RX : Hid (∀ W, Calls Tryd.prog 12 #[.agg (ptA X), .int .i64 n] W fun e w' => e = .returned (.bool false) ∧ Grows W w') := fun W => by have h := HRX.out W; rw [eX] at h; exact h
          have RY : Hid (∀ W, Calls Tryd.prog 12 #[.agg (ptA Y), .int .i64 n] W fun e w' => e = .returned (.bool false) ∧ Grows W w') := fun W => by have h := HRY.out W; rw [eY] at h; exact h
          clear eX eY HRX HRY
          go_wp2_with (first
            | ((with_reducible refine wpList_load_pt (o := ⟨some 137, _, _, _, _, _⟩) ?_ (.tmp 17) ?_ g5 X ?_ ?_ ?_); exact rfl; exact rfl; exact rfl; exact X3.out)
            | (go_at_call 12; (with_reducible refine (RX.out _).mono ?_); rintro e w7 ⟨rfl, g⟩; have Y4 := Lib.hid (Row.grows Y3.out g); have HG7 : Hid (Grows w w7) := Grows.trans HG5.out g; clear g)
            | ((with_reducible refine wpList_loadG_pt (o := ⟨some 146, _, _, _, _, _⟩) ?_ (.tmp 18) ?_ g6 Y ?_ ?_ ?_); exact rfl; exact rfl; exact rfl; exact Y4.out)
            | (go_at_call 12; (with_reducible refine (RY.out _).mono ?_); rintro e w8 ⟨rfl, g⟩; have HG8 : Hid (Grows w w8) := Grows.trans HG7.out g; clear g)
            | (go_at_call 7; (with_reducible refine (wakes5_any _ (HGl.out.grows HG8.out)).mono ?_); rintro e w9 ⟨rfl, g⟩; have HG9 : Hid (Grows w w9) := Grows.trans HG8.out g; clear g))
          go_ret
          exact ⟨rfl, HG9.out⟩
        by_cases h6 : b < n
        case neg =>
          have eX : ((decide (4 ≤ a) && decide (a < n) && (decide (1 ≤ wI birth) && decide (wI birth ≤ 1073741824))) && (decide (4 ≤ b) && decide (b < n) && decide (a ≠ b))) = false := by simp only [decide_eq_true h1, decide_eq_true h2, decide_eq_false h3, decide_eq_true h5, decide_eq_false h6, Bool.false_and, Bool.and_false, Bool.and_true, Bool.true_and]
          have eY : (decide (4 ≤ a) && decide (a < n) && (decide (1 ≤ wI birth) && decide (wI birth ≤ 1073741824))) = false := by simp only [decide_eq_true h1, decide_eq_true h2, decide_eq_false h3, decide_eq_true h5, decide_eq_false h6, Bool.false_and, Bool.and_false, Bool.and_true, Bool.true_and]
          have RX : Hid (∀ W, Calls Tryd.prog 12 #[.agg (ptA X), .int .i64 n] W fun e w' => e = .returned (.bool false) ∧ Grows W w') := fun W => by have h := HRX.out W; rw [eX] at h; exact h
          have RY : Hid (∀ W, Calls Tryd.prog 12 #[.agg (ptA Y), .int .i64 n] W fun e w' => e = .returned (.bool false) ∧ Grows W w') := fun W => by have h := HRY.out W; rw [eY] at h; exact h
          clear eX eY HRX HRY
          go_wp2_with (first
            | ((with_reducible refine wpList_load_pt (o := ⟨some 137, _, _, _, _, _⟩) ?_ (.tmp 17) ?_ g5 X ?_ ?_ ?_); exact rfl; exact rfl; exact rfl; exact X3.out)
            | (go_at_call 12; (with_reducible refine (RX.out _).mono ?_); rintro e w7 ⟨rfl, g⟩; have Y4 := Lib.hid (Row.grows Y3.out g); have HG7 : Hid (Grows w w7) := Grows.trans HG5.out g; clear g)
            | ((with_reducible refine wpList_loadG_pt (o := ⟨some 146, _, _, _, _, _⟩) ?_ (.tmp 18) ?_ g6 Y ?_ ?_ ?_); exact rfl; exact rfl; exact rfl; exact Y4.out)
            | (go_at_call 12; (with_reducible refine (RY.out _).mono ?_); rintro e w8 ⟨rfl, g⟩; have HG8 : Hid (Grows w w8) := Grows.trans HG7.out g; clear g)
            | (go_at_call 7; (with_reducible refine (wakes5_any _ (HGl.out.grows HG8.out)).mono ?_); rintro e w9 ⟨rfl, g⟩; have HG9 : Hid (Grows w w9) := Grows.trans HG8.out g; clear g))
          go_ret
          exact ⟨rfl, HG9.out⟩
        by_cases h7 : a = b
        case pos =>
          have eX : ((decide (4 ≤ a) && decide (a < n) && (decide (1 ≤ wI birth) && decide (wI birth ≤ 1073741824))) && (decide (4 ≤ b) && decide (b < n) && decide (a ≠ b))) = false := by simp only [decide_eq_true h1, decide_eq_true h2, decide_eq_false h3, decide_eq_true h5, decide_eq_true h6, decide_eq_false (p := a ≠ b) (fun e => e h7), Bool.false_and, Bool.and_false, Bool.and_true, Bool.true_and]
          have eY : (decide (4 ≤ a) && decide (a < n) && (decide (1 ≤ wI birth) && decide (wI birth ≤ 1073741824))) = false := by simp only [decide_eq_true h1, decide_eq_true h2, decide_eq_false h3, decide_eq_true h5, decide_eq_true h6, decide_eq_false (p := a ≠ b) (fun e => e h7), Bool.false_and, Bool.and_false, Bool.and_true, Bool.true_and]
          have RX : Hid (∀ W, Calls Tryd.prog 12 #[.agg (ptA X), .int .i64 n] W fun e w' => e = .returned (.bool false) ∧ Grows W w') := fun W => by have h := HRX.out W; rw [eX] at h; exact h
          have RY : Hid (∀ W, Calls Tryd.prog 12 #[.agg (ptA Y), .int .i64 n] W fun e w' => e = .returned (.bool false) ∧ Grows W w') := fun W => by have h := HRY.out W; rw [eY] at h; exact h
          have hne7 : (a != b) = false := by simpa using h7
          clear eX eY HRX HRY h7
          go_wp2_with (first
            | ((with_reducible refine wpList_load_pt (o := ⟨some 137, _, _, _, _, _⟩) ?_ (.tmp 17) ?_ g5 X ?_ ?_ ?_); exact rfl; exact rfl; exact rfl; exact X3.out)
            | (go_at_call 12; (with_reducible refine (RX.out _).mono ?_); rintro e w7 ⟨rfl, g⟩; have Y4 := Lib.hid (Row.grows Y3.out g); have HG7 : Hid (Grows w w7) := Grows.trans HG5.out g; clear g)
            | ((with_reducible refine wpList_loadG_pt (o := ⟨some 146, _, _, _, _, _⟩) ?_ (.tmp 18) ?_ g6 Y ?_ ?_ ?_); exact rfl; exact rfl; exact rfl; exact Y4.out)
            | (go_at_call 12; (with_reducible refine (RY.out _).mono ?_); rintro e w8 ⟨rfl, g⟩; have HG8 : Hid (Grows w w8) := Grows.trans HG7.out g; clear g)
            | (go_at_call 7; (with_reducible refine (wakes5_any _ (HGl.out.grows HG8.out)).mono ?_); rintro e w9 ⟨rfl, g⟩; have HG9 : Hid (Grows w w9) := Grows.trans HG8.out g; clear g))
          go_ret
          exact ⟨rfl, HG9.out⟩
        have eX : ((decide (4 ≤ a) && decide (a < n) && (decide (1 ≤ wI birth) && decide (wI birth ≤ 1073741824))) && (decide (4 ≤ b) && decide (b < n) && decide (a ≠ b))) = false := by simp only [decide_eq_true h1, decide_eq_true h2, decide_eq_false h3, decide_eq_true h5, decide_eq_true h6, decide_eq_true (p := a ≠ b) h7, Bool.false_and, Bool.and_false, Bool.and_true, Bool.true_and]
        have eY : (decide (4 ≤ a) && decide (a < n) && (decide (1 ≤ wI birth) && decide (wI birth ≤ 1073741824))) = false := by simp only [decide_eq_true h1, decide_eq_true h2, decide_eq_false h3, decide_eq_true h5, decide_eq_true h6, decide_eq_true (p := a ≠ b) h7, Bool.false_and, Bool.and_false, Bool.and_true, Bool.true_and]
        have RX : Hid (∀ W, Calls Tryd.prog 12 #[.agg (ptA X), .int .i64 n] W fun e w' => e = .returned (.bool false) ∧ Grows W w') := fun W => by have h := HRX.out W; rw [eX] at h; exact h
        have RY : Hid (∀ W, Calls Tryd.prog 12 #[.agg (ptA Y), .int .i64 n] W fun e w' => e = .returned (.bool false) ∧ Grows W w') := fun W => by have h := HRY.out W; rw [eY] at h; exact h
        have hne7 : (a != b) = true := by simpa using h7
        clear eX eY HRX HRY h7
        go_wp2_with (first
          | ((with_reducible refine wpList_load_pt (o := ⟨some 137, _, _, _, _, _⟩) ?_ (.tmp 17) ?_ g5 X ?_ ?_ ?_); exact rfl; exact rfl; exact rfl; exact X3.out)
          | (go_at_call 12; (with_reducible refine (RX.out _).mono ?_); rintro e w7 ⟨rfl, g⟩; have Y4 := Lib.hid (Row.grows Y3.out g); have HG7 : Hid (Grows w w7) := Grows.trans HG5.out g; clear g)
          | ((with_reducible refine wpList_loadG_pt (o := ⟨some 146, _, _, _, _, _⟩) ?_ (.tmp 18) ?_ g6 Y ?_ ?_ ?_); exact rfl; exact rfl; exact rfl; exact Y4.out)
          | (go_at_call 12; (with_reducible refine (RY.out _).mono ?_); rintro e w8 ⟨rfl, g⟩; have HG8 : Hid (Grows w w8) := Grows.trans HG7.out g; clear g)
          | (go_at_call 7; (with_reducible refine (wakes5_any _ (HGl.out.grows HG8.out)).mono ?_); rintro e w9 ⟨rfl, g⟩; have HG9 : Hid (Grows w w9) := Grows.trans HG8.out g; clear g))
        go_ret
        exact ⟨rfl, HG9.out⟩
      by_cases h4 : wI birth ≤ 1073741824
      case neg =>
        by_cases h5 : 4 ≤ b
        case neg =>
          have eX : ((decide (4 ≤ a) && decide (a < n) && (decide (1 ≤ wI birth) && decide (wI birth ≤ 1073741824))) && (decide (4 ≤ b) && decide (b < n) && decide (a ≠ b))) = false := by simp only [decide_eq_true h1, decide_eq_true h2, decide_eq_true h3, decide_eq_false h4, decide_eq_false h5, Bool.false_and, Bool.and_false, Bool.and_true, Bool.true_and]
          have eY : (decide (4 ≤ a) && decide (a < n) && (decide (1 ≤ wI birth) && decide (wI birth ≤ 1073741824))) = false := by simp only [decide_eq_true h1, decide_eq_true h2, decide_eq_true h3, decide_eq_false h4, decide_eq_false h5, Bool.false_and, Bool.and_false, Bool.and_true, Bool.true_and]
          have RX : Hid (∀ W, Calls Tryd.prog 12 #[.agg (ptA X), .int .i64 n] W fun e w' => e = .returned (.bool false) ∧ Grows W w') := fun W => by have h := HRX.out W; rw [eX] at h; exact h
          have RY : Hid (∀ W, Calls Tryd.prog 12 #[.agg (ptA Y), .int .i64 n] W fun e w' => e = .returned (.bool false) ∧ Grows W w') := fun W => by have h := HRY.out W; rw [eY] at h; exact h
          clear eX eY HRX HRY
          go_wp2_with (first
            | ((with_reducible refine wpList_load_pt (o := ⟨some 137, _, _, _, _, _⟩) ?_ (.tmp 17) ?_ g5 X ?_ ?_ ?_); exact rfl; exact rfl; exact rfl; exact X3.out)
            | (go_at_call 12; (with_reducible refine (RX.out _).mono ?_); rintro e w7 ⟨rfl, g⟩; have Y4 := Lib.hid (Row.grows Y3.out g); have HG7 : Hid (Grows w w7) := Grows.trans HG5.out g; clear g)
            | ((with_reducible refine wpList_loadG_pt (o := ⟨some 146, _, _, _, _, _⟩) ?_ (.tmp 18) ?_ g6 Y ?_ ?_ ?_); exact rfl; exact rfl; exact rfl; exact Y4.out)
            | (go_at_call 12; (with_reducible refine (RY.out _).mono ?_); rintro e w8 ⟨rfl, g⟩; have HG8 : Hid (Grows w w8) := Grows.trans HG7.out g; clear g)
            | (go_at_call 7; (with_reducible refine (wakes5_any _ (HGl.out.grows HG8.out)).mono ?_); rintro e w9 ⟨rfl, g⟩; have HG9 : Hid (Grows w w9) := Grows.trans HG8.out g; clear g))
          go_ret
          exact ⟨rfl, HG9.out⟩
        by_cases h6 : b < n
        case neg =>
          have eX : ((decide (4 ≤ a) && decide (a < n) && (decide (1 ≤ wI birth) && decide (wI birth ≤ 1073741824))) && (decide (4 ≤ b) && decide (b < n) && decide (a ≠ b))) = false := by simp only [decide_eq_true h1, decide_eq_true h2, decide_eq_true h3, decide_eq_false h4, decide_eq_true h5, decide_eq_false h6, Bool.false_and, Bool.and_false, Bool.and_true, Bool.true_and]
          have eY : (decide (4 ≤ a) && decide (a < n) && (decide (1 ≤ wI birth) && decide (wI birth ≤ 1073741824))) = false := by simp only [decide_eq_true h1, decide_eq_true h2, decide_eq_true h3, decide_eq_false h4, decide_eq_true h5, decide_eq_false h6, Bool.false_and, Bool.and_false, Bool.and_true, Bool.true_and]
          have RX : Hid (∀ W, Calls Tryd.prog 12 #[.agg (ptA X), .int .i64 n] W fun e w' => e = .returned (.bool false) ∧ Grows W w') := fun W => by have h := HRX.out W; rw [eX] at h; exact h
          have RY : Hid (∀ W, Calls Tryd.prog 12 #[.agg (ptA Y), .int .i64 n] W fun e w' => e = .returned (.bool false) ∧ Grows W w') := fun W => by have h := HRY.out W; rw [eY] at h; exact h
          clear eX eY HRX HRY
          go_wp2_with (first
            | ((with_reducible refine wpList_load_pt (o := ⟨some 137, _, _, _, _, _⟩) ?_ (.tmp 17) ?_ g5 X ?_ ?_ ?_); exact rfl; exact rfl; exact rfl; exact X3.out)
            | (go_at_call 12; (with_reducible refine (RX.out _).mono ?_); rintro e w7 ⟨rfl, g⟩; have Y4 := Lib.hid (Row.grows Y3.out g); have HG7 : Hid (Grows w w7) := Grows.trans HG5.out g; clear g)
            | ((with_reducible refine wpList_loadG_pt (o := ⟨some 146, _, _, _, _, _⟩) ?_ (.tmp 18) ?_ g6 Y ?_ ?_ ?_); exact rfl; exact rfl; exact rfl; exact Y4.out)
            | (go_at_call 12; (with_reducible refine (RY.out _).mono ?_); rintro e w8 ⟨rfl, g⟩; have HG8 : Hid (Grows w w8) := Grows.trans HG7.out g; clear g)
            | (go_at_call 7; (with_reducible refine (wakes5_any _ (HGl.out.grows HG8.out)).mono ?_); rintro e w9 ⟨rfl, g⟩; have HG9 : Hid (Grows w w9) := Grows.trans HG8.out g; clear g))
          go_ret
          exact ⟨rfl, HG9.out⟩
        by_cases h7 : a = b
        case pos =>
          have eX : ((decide (4 ≤ a) && decide (a < n) && (decide (1 ≤ wI birth) && decide (wI birth ≤ 1073741824))) && (decide (4 ≤ b) && decide (b < n) && decide (a ≠ b))) = false := by simp only [decide_eq_true h1, decide_eq_true h2, decide_eq_true h3, decide_eq_false h4, decide_eq_true h5, decide_eq_true h6, decide_eq_false (p := a ≠ b) (fun e => e h7), Bool.false_and, Bool.and_false, Bool.and_true, Bool.true_and]
          have eY : (decide (4 ≤ a) && decide (a < n) && (decide (1 ≤ wI birth) && decide (wI birth ≤ 1073741824))) = false := by simp only [decide_eq_true h1, decide_eq_true h2, decide_eq_true h3, decide_eq_false h4, decide_eq_true h5, decide_eq_true h6, decide_eq_false (p := a ≠ b) (fun e => e h7), Bool.false_and, Bool.and_false, Bool.and_true, Bool.true_and]
          have RX : Hid (∀ W, Calls Tryd.prog 12 #[.agg (ptA X), .int .i64 n] W fun e w' => e = .returned (.bool false) ∧ Grows W w') := fun W => by have h := HRX.out W; rw [eX] at h; exact h
          have RY : Hid (∀ W, Calls Tryd.prog 12 #[.agg (ptA Y), .int .i64 n] W fun e w' => e = .returned (.bool false) ∧ Grows W w') := fun W => by have h := HRY.out W; rw [eY] at h; exact h
          have hne7 : (a != b) = false := by simpa using h7
          clear eX eY HRX HRY h7
          go_wp2_with (first
            | ((with_reducible refine wpList_load_pt (o := ⟨some 137, _, _, _, _, _⟩) ?_ (.tmp 17) ?_ g5 X ?_ ?_ ?_); exact rfl; exact rfl; exact rfl; exact X3.out)
            | (go_at_call 12; (with_reducible refine (RX.out _).mono ?_); rintro e w7 ⟨rfl, g⟩; have Y4 := Lib.hid (Row.grows Y3.out g); have HG7 : Hid (Grows w w7) := Grows.trans HG5.out g; clear g)
            | ((with_reducible refine wpList_loadG_pt (o := ⟨some 146, _, _, _, _, _⟩) ?_ (.tmp 18) ?_ g6 Y ?_ ?_ ?_); exact rfl; exact rfl; exact rfl; exact Y4.out)
            | (go_at_call 12; (with_reducible refine (RY.out _).mono ?_); rintro e w8 ⟨rfl, g⟩; have HG8 : Hid (Grows w w8) := Grows.trans HG7.out g; clear g)
            | (go_at_call 7; (with_reducible refine (wakes5_any _ (HGl.out.grows HG8.out)).mono ?_); rintro e w9 ⟨rfl, g⟩; have HG9 : Hid (Grows w w9) := Grows.trans HG8.out g; clear g))
          go_ret
          exact ⟨rfl, HG9.out⟩
        have eX : ((decide (4 ≤ a) && decide (a < n) && (decide (1 ≤ wI birth) && decide (wI birth ≤ 1073741824))) && (decide (4 ≤ b) && decide (b < n) && decide (a ≠ b))) = false := by simp only [decide_eq_true h1, decide_eq_true h2, decide_eq_true h3, decide_eq_false h4, decide_eq_true h5, decide_eq_true h6, decide_eq_true (p := a ≠ b) h7, Bool.false_and, Bool.and_false, Bool.and_true, Bool.true_and]
        have eY : (decide (4 ≤ a) && decide (a < n) && (decide (1 ≤ wI birth) && decide (wI birth ≤ 1073741824))) = false := by simp only [decide_eq_true h1, decide_eq_true h2, decide_eq_true h3, decide_eq_false h4, decide_eq_true h5, decide_eq_true h6, decide_eq_true (p := a ≠ b) h7, Bool.false_and, Bool.and_false, Bool.and_true, Bool.true_and]
        have RX : Hid (∀ W, Calls Tryd.prog 12 #[.agg (ptA X), .int .i64 n] W fun e w' => e = .returned (.bool false) ∧ Grows W w') := fun W => by have h := HRX.out W; rw [eX] at h; exact h
        have RY : Hid (∀ W, Calls Tryd.prog 12 #[.agg (ptA Y), .int .i64 n] W fun e w' => e = .returned (.bool false) ∧ Grows W w') := fun W => by have h := HRY.out W; rw [eY] at h; exact h
        have hne7 : (a != b) = true := by simpa using h7
        clear eX eY HRX HRY h7
        go_wp2_with (first
          | ((with_reducible refine wpList_load_pt (o := ⟨some 137, _, _, _, _, _⟩) ?_ (.tmp 17) ?_ g5 X ?_ ?_ ?_); exact rfl; exact rfl; exact rfl; exact X3.out)
          | (go_at_call 12; (with_reducible refine (RX.out _).mono ?_); rintro e w7 ⟨rfl, g⟩; have Y4 := Lib.hid (Row.grows Y3.out g); have HG7 : Hid (Grows w w7) := Grows.trans HG5.out g; clear g)
          | ((with_reducible refine wpList_loadG_pt (o := ⟨some 146, _, _, _, _, _⟩) ?_ (.tmp 18) ?_ g6 Y ?_ ?_ ?_); exact rfl; exact rfl; exact rfl; exact Y4.out)
          | (go_at_call 12; (with_reducible refine (RY.out _).mono ?_); rintro e w8 ⟨rfl, g⟩; have HG8 : Hid (Grows w w8) := Grows.trans HG7.out g; clear g)
          | (go_at_call 7; (with_reducible refine (wakes5_any _ (HGl.out.grows HG8.out)).mono ?_); rintro e w9 ⟨rfl, g⟩; have HG9 : Hid (Grows w w9) := Grows.trans HG8.out g; clear g))
        go_ret
        exact ⟨rfl, HG9.out⟩
      by_cases h5 : 4 ≤ b
      case neg =>
        have eX : ((decide (4 ≤ a) && decide (a < n) && (decide (1 ≤ wI birth) && decide (wI birth ≤ 1073741824))) && (decide (4 ≤ b) && decide (b < n) && decide (a ≠ b))) = false := by simp only [decide_eq_true h1, decide_eq_true h2, decide_eq_true h3, decide_eq_true h4, decide_eq_false h5, Bool.false_and, Bool.and_false, Bool.and_true, Bool.true_and]
        have eY : (decide (4 ≤ a) && decide (a < n) && (decide (1 ≤ wI birth) && decide (wI birth ≤ 1073741824))) = true := by simp only [decide_eq_true h1, decide_eq_true h2, decide_eq_true h3, decide_eq_true h4, decide_eq_false h5, Bool.false_and, Bool.and_false, Bool.and_true, Bool.true_and]
        have RX : Hid (∀ W, Calls Tryd.prog 12 #[.agg (ptA X), .int .i64 n] W fun e w' => e = .returned (.bool false) ∧ Grows W w') := fun W => by have h := HRX.out W; rw [eX] at h; exact h
        have RY : Hid (∀ W, Calls Tryd.prog 12 #[.agg (ptA Y), .int .i64 n] W fun e w' => e = .returned (.bool true) ∧ Grows W w') := fun W => by have h := HRY.out W; rw [eY] at h; exact h
        clear eX eY HRX HRY
        go_wp2_with (first
          | ((with_reducible refine wpList_load_pt (o := ⟨some 137, _, _, _, _, _⟩) ?_ (.tmp 17) ?_ g5 X ?_ ?_ ?_); exact rfl; exact rfl; exact rfl; exact X3.out)
          | (go_at_call 12; (with_reducible refine (RX.out _).mono ?_); rintro e w7 ⟨rfl, g⟩; have Y4 := Lib.hid (Row.grows Y3.out g); have HG7 : Hid (Grows w w7) := Grows.trans HG5.out g; clear g)
          | ((with_reducible refine wpList_loadG_pt (o := ⟨some 146, _, _, _, _, _⟩) ?_ (.tmp 18) ?_ g6 Y ?_ ?_ ?_); exact rfl; exact rfl; exact rfl; exact Y4.out)
          | (go_at_call 12; (with_reducible refine (RY.out _).mono ?_); rintro e w8 ⟨rfl, g⟩; have HG8 : Hid (Grows w w8) := Grows.trans HG7.out g; clear g)
          | (go_at_call 7; (with_reducible refine (wakes5_any _ (HGl.out.grows HG8.out)).mono ?_); rintro e w9 ⟨rfl, g⟩; have HG9 : Hid (Grows w w9) := Grows.trans HG8.out g; clear g))
        go_ret
        exact ⟨rfl, HG9.out⟩
      by_cases h6 : b < n
      case neg =>
        have eX : ((decide (4 ≤ a) && decide (a < n) && (decide (1 ≤ wI birth) && decide (wI birth ≤ 1073741824))) && (decide (4 ≤ b) && decide (b < n) && decide (a ≠ b))) = false := by simp only [decide_eq_true h1, decide_eq_true h2, decide_eq_true h3, decide_eq_true h4, decide_eq_true h5, decide_eq_false h6, Bool.false_and, Bool.and_false, Bool.and_true, Bool.true_and]
        have eY : (decide (4 ≤ a) && decide (a < n) && (decide (1 ≤ wI birth) && decide (wI birth ≤ 1073741824))) = true := by simp only [decide_eq_true h1, decide_eq_true h2, decide_eq_true h3, decide_eq_true h4, decide_eq_true h5, decide_eq_false h6, Bool.false_and, Bool.and_false, Bool.and_true, Bool.true_and]
        have RX : Hid (∀ W, Calls Tryd.prog 12 #[.agg (ptA X), .int .i64 n] W fun e w' => e = .returned (.bool false) ∧ Grows W w') := fun W => by have h := HRX.out W; rw [eX] at h; exact h
        have RY : Hid (∀ W, Calls Tryd.prog 12 #[.agg (ptA Y), .int .i64 n] W fun e w' => e = .returned (.bool true) ∧ Grows W w') := fun W => by have h := HRY.out W; rw [eY] at h; exact h
        clear eX eY HRX HRY
        go_wp2_with (first
          | ((with_reducible refine wpList_load_pt (o := ⟨some 137, _, _, _, _, _⟩) ?_ (.tmp 17) ?_ g5 X ?_ ?_ ?_); exact rfl; exact rfl; exact rfl; exact X3.out)
          | (go_at_call 12; (with_reducible refine (RX.out _).mono ?_); rintro e w7 ⟨rfl, g⟩; have Y4 := Lib.hid (Row.grows Y3.out g); have HG7 : Hid (Grows w w7) := Grows.trans HG5.out g; clear g)
          | ((with_reducible refine wpList_loadG_pt (o := ⟨some 146, _, _, _, _, _⟩) ?_ (.tmp 18) ?_ g6 Y ?_ ?_ ?_); exact rfl; exact rfl; exact rfl; exact Y4.out)
          | (go_at_call 12; (with_reducible refine (RY.out _).mono ?_); rintro e w8 ⟨rfl, g⟩; have HG8 : Hid (Grows w w8) := Grows.trans HG7.out g; clear g)
          | (go_at_call 7; (with_reducible refine (wakes5_any _ (HGl.out.grows HG8.out)).mono ?_); rintro e w9 ⟨rfl, g⟩; have HG9 : Hid (Grows w w9) := Grows.trans HG8.out g; clear g))
        go_ret
        exact ⟨rfl, HG9.out⟩
      by_cases h7 : a = b
      case pos =>
        have eX : ((decide (4 ≤ a) && decide (a < n) && (decide (1 ≤ wI birth) && decide (wI birth ≤ 1073741824))) && (decide (4 ≤ b) && decide (b < n) && decide (a ≠ b))) = false := by simp only [decide_eq_true h1, decide_eq_true h2, decide_eq_true h3, decide_eq_true h4, decide_eq_true h5, decide_eq_true h6, decide_eq_false (p := a ≠ b) (fun e => e h7), Bool.false_and, Bool.and_false, Bool.and_true, Bool.true_and]
        have eY : (decide (4 ≤ a) && decide (a < n) && (decide (1 ≤ wI birth) && decide (wI birth ≤ 1073741824))) = true := by simp only [decide_eq_true h1, decide_eq_true h2, decide_eq_true h3, decide_eq_true h4, decide_eq_true h5, decide_eq_true h6, decide_eq_false (p := a ≠ b) (fun e => e h7), Bool.false_and, Bool.and_false, Bool.and_true, Bool.true_and]
        have RX : Hid (∀ W, Calls Tryd.prog 12 #[.agg (ptA X), .int .i64 n] W fun e w' => e = .returned (.bool false) ∧ Grows W w') := fun W => by have h := HRX.out W; rw [eX] at h; exact h
        have RY : Hid (∀ W, Calls Tryd.prog 12 #[.agg (ptA Y), .int .i64 n] W fun e w' => e = .returned (.bool true) ∧ Grows W w') := fun W => by have h := HRY.out W; rw [eY] at h; exact h
        have hne7 : (a != b) = false := by simpa using h7
        clear eX eY HRX HRY h7
        go_wp2_with (first
          | ((with_reducible refine wpList_load_pt (o := ⟨some 137, _, _, _, _, _⟩) ?_ (.tmp 17) ?_ g5 X ?_ ?_ ?_); exact rfl; exact rfl; exact rfl; exact X3.out)
          | (go_at_call 12; (with_reducible refine (RX.out _).mono ?_); rintro e w7 ⟨rfl, g⟩; have Y4 := Lib.hid (Row.grows Y3.out g); have HG7 : Hid (Grows w w7) := Grows.trans HG5.out g; clear g)
          | ((with_reducible refine wpList_loadG_pt (o := ⟨some 146, _, _, _, _, _⟩) ?_ (.tmp 18) ?_ g6 Y ?_ ?_ ?_); exact rfl; exact rfl; exact rfl; exact Y4.out)
          | (go_at_call 12; (with_reducible refine (RY.out _).mono ?_); rintro e w8 ⟨rfl, g⟩; have HG8 : Hid (Grows w w8) := Grows.trans HG7.out g; clear g)
          | (go_at_call 7; (with_reducible refine (wakes5_any _ (HGl.out.grows HG8.out)).mono ?_); rintro e w9 ⟨rfl, g⟩; have HG9 : Hid (Grows w w9) := Grows.trans HG8.out g; clear g))
        go_ret
        exact ⟨rfl, HG9.out⟩
      have eX : ((decide (4 ≤ a) && decide (a < n) && (decide (1 ≤ wI birth) && decide (wI birth ≤ 1073741824))) && (decide (4 ≤ b) && decide (b < n) && decide (a ≠ b))) = true := by simp only [decide_eq_true h1, decide_eq_true h2, decide_eq_true h3, decide_eq_true h4, decide_eq_true h5, decide_eq_true h6, decide_eq_true (p := a ≠ b) h7, Bool.false_and, Bool.and_false, Bool.and_true, Bool.true_and]
      have eY : (decide (4 ≤ a) && decide (a < n) && (decide (1 ≤ wI birth) && decide (wI birth ≤ 1073741824))) = true := by simp only [decide_eq_true h1, decide_eq_true h2, decide_eq_true h3, decide_eq_true h4, decide_eq_true h5, decide_eq_true h6, decide_eq_true (p := a ≠ b) h7, Bool.false_and, Bool.and_false, Bool.and_true, Bool.true_and]
      have RX : Hid (∀ W, Calls Tryd.prog 12 #[.agg (ptA X), .int .i64 n] W fun e w' => e = .returned (.bool true) ∧ Grows W w') := fun W => by have h := HRX.out W; rw [eX] at h; exact h
      have RY : Hid (∀ W, Calls Tryd.prog 12 #[.agg (ptA Y), .int .i64 n] W fun e w' => e = .returned (.bool true) ∧ Grows W w') := fun W => by have h := HRY.out W; rw [eY] at h; exact h
      have hne7 : (a != b) = true := by simpa using h7
      clear eX eY HRX HRY h7
      go_wp2_with (first
        | ((with_reducible refine wpList_load_pt (o := ⟨some 137, _, _, _, _, _⟩) ?_ (.tmp 17) ?_ g5 X ?_ ?_ ?_); exact rfl; exact rfl; exact rfl; exact X3.out)
        | (go_at_call 12; (with_reducible refine (RX.out _).mono ?_); rintro e w7 ⟨rfl, g⟩; have Y4 := Lib.hid (Row.grows Y3.out g); have HG7 : Hid (Grows w w7) := Grows.trans HG5.out g; clear g)
        | ((with_reducible refine wpList_loadG_pt (o := ⟨some 146, _, _, _, _, _⟩) ?_ (.tmp 18) ?_ g6 Y ?_ ?_ ?_); exact rfl; exact rfl; exact rfl; exact Y4.out)
        | (go_at_call 12; (with_reducible refine (RY.out _).mono ?_); rintro e w8 ⟨rfl, g⟩; have HG8 : Hid (Grows w w8) := Grows.trans HG7.out g; clear g)
        | (go_at_call 7; (with_reducible refine (wakes5_any _ (HGl.out.grows HG8.out)).mono ?_); rintro e w9 ⟨rfl, g⟩; have HG9 : Hid (Grows w w9) := Grows.trans HG8.out g; clear g))
      go_ret
      exact ⟨rfl, HG9.out⟩
end Go.Proofs.YtnigflobmiiefaaDoor
