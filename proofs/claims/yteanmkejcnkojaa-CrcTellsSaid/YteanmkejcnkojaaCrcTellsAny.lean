/- The law that tells all of layer 1, as a call. -/
import Derived.Test.YteanmkejcnkojaaCrcPages
import Derived.Test.YteanmkejcnkojaaArrEq
namespace Go.Proofs.Yteanmkejcnkojaa
open Go.RowKit
set_option linter.unusedVariables false
set_option linter.unusedSimpArgs false
attribute [local go_sem] uI_beq bI_beq
theorem step1 (c : BitVec 64) (b : BitVec 8) (w : World) : Calls Try.prog 10 #[.int .u64 (uI c), .int .u8 (bI b)] w fun e w' => e = .returned (.int .u64 (uI (CrcM.step c b))) ∧ Grows w w' :=
  (step_any c b w).mono fun e w' ⟨he, hw⟩ => ⟨he, hw ▸ Grows.refl _⟩
theorem rstep1 (c : BitVec 64) (b : BitVec 8) (w : World) : Calls Try.prog 11 #[.int .u64 (uI c), .int .u8 (bI b)] w fun e w' => e = .returned (.int .u64 (uI (CrcM.step c b))) ∧ Grows w w' :=
  (rstep_any c b w).mono fun e w' ⟨he, hw⟩ => ⟨he, hw ▸ Grows.refl _⟩
theorem table1 (w : World) : Calls Try.prog 12 #[] w fun e w' => e = .returned (.agg (tarr 256)) ∧ Grows w w' := table_any w
theorem rtable1 (w : World) : Calls Try.prog 13 #[] w fun e w' => e = .returned (.agg (tarr 256)) ∧ Grows w w' := rtable_any w
theorem sumN {w : World} {v : Value} {ls : List (List (BitVec 8))} (hp : Parts w.heap.size w v ls) : Calls Try.prog 14 #[v] w fun e w' => e = .returned (.int .u64 (uI (CrcM.sum ls.flatten))) ∧ Grows w w' := sum_any v ls w hp
theorem rsumN {w : World} {v : Value} {ls : List (List (BitVec 8))} (hp : Parts w.heap.size w v ls) : Calls Try.prog 15 #[v] w fun e w' => e = .returned (.int .u64 (uI (CrcM.sum ls.flatten))) ∧ Grows w w' :=
  (rsum_any v ls w hp).mono fun e w' ⟨he, hw⟩ => ⟨he, hw ▸ Grows.refl _⟩
theorem does_load {P : Program} {ρ : Operand → Value} {o : Oper} {w : World} {R : Value → World → Prop} (ty : TypeId) (x : Operand) (a : Addr) (v : Value) (ho : o.op = .load ty x) (hx : ρ x = .pointer (some a)) (hl : (loadVar ty a).run P w = .ok v w) (hR : R v w) : Does P o ρ w R := by
  unfold Does execOp
  simp only [ho, hx, Instr.loadAt, Instr.sureAddr, Sem.run_bind, Sem.run_pure, Result.andThen_ok, hl]
  exact hR
theorem parts_any (v : Value) (w w' : World) (ls : List (List (BitVec 8))) (h : Parts w.heap.size w v ls) (hg : Grows w w') : Parts w'.heap.size w' v ls := (h.below hg).more (Below.size hg)
set_option maxRecDepth 100000 in
set_option maxHeartbeats 1000000 in
theorem crcTells_any (c : BitVec 64) (b : BitVec 8) (v : Value) (ls : List (List (BitVec 8))) (p : List (BitVec 8)) (w0 : World) (hp : Parts w0.heap.size w0 v ls) (hl : p.length = 256) :
    Calls Try.prog 3 #[.int .u64 (uI c), .int .u8 (bI b), v, .agg (p.map byteV).toArray] w0 fun e w' => e = .returned (.bool true) ∧ Below w0.heap.size w0 w' := by
  have hs : (p.map byteV).toArray.size = 256 := by simpa using hl
  have HL := Lib.hid hl
  have HSZ := Lib.hid hs
  have HP := Lib.hid hp
  have HB : Hid (Row (w0.alloc (.cells (p.map byteV).toArray 25)) w0.heap.size 25 (p.map byteV).toArray) := Row.new w0 _ _
  have HPP : Hid (Parts (w0.alloc (.cells (p.map byteV).toArray 25)).heap.size (w0.alloc (.cells (p.map byteV).toArray 25)) v ls) := parts_any v w0 _ ls hp (Grows.alloc w0 _)
  clear hl hs hp
  go_enter Try.func3, Try.ntmps3
  have heq : ∀ w : World, (binOp .eql 29 (.agg (tarr 256)) (.agg (tarr 256))).run Try.prog w = .ok (.bool true) w := by
    obtain ⟨i0, hi, _⟩ := info_parts (show (Try.prog.info? 22).map (fun i => (i.zero, i.size, i.bytes)) = some (some (.int .u64 0), 1, 8) by kernel_rfl)
    intro w
    refine run_eql_arr_self (P := Try.prog) (e := 22) (n := 256) (k := .u64) Try.underlying29 Try.underlying22 hi (by kernel_rfl) (tarr 256) (fun j hj => ⟨_, tarr_get 256 j hj⟩) w
  have hgd : Try.prog.eqGuardType Try.prog.depth 29 = false := by kernel_rfl
  have hld : ∀ w' : World, Grows (w0.alloc (.cells (p.map byteV).toArray 25)) w' → (loadVar 25 ⟨w0.heap.size, 0, none⟩).run Try.prog w' = .ok (.agg (p.map byteV).toArray) w' := by
    intro w' hg
    exact run_loadVar_row w' w0.heap.size 25 25 (p.map byteV).toArray (0, 0) _ (HB.out.grows hg) Try.underlying25 rfl (by rw [HSZ.out]; kernel_rfl)
  go_wp2_with (go_at_call 8; refine (great_any _ _ _ HPP.out).mono ?_; rintro e w' ⟨⟨bb, rfl⟩, rfl⟩; cases bb)
  · refine wp_region_free 30 41 (by kernel_rfl) (by kernel_rfl) rfl (by kernel_rfl) ?_; simp only [List.take_succ_cons, List.take_zero, List.drop_succ_cons, List.drop_zero]
    repeat (apply free_pure rfl; focus (intro vs w hg hd;  (try simp [Region.binds] at hd); simp only [execOp, resolve, Option.map_some, Option.map_none, List.map_toArray, List.map_cons, List.map_nil, rho_const, rho_func]; (repeat (conv in rho _ _ _ _ (Operand.tmp _) => whnf)); (try simp only [hd]); go_simp; (repeat (conv in rho _ _ _ _ (Operand.tmp _) => whnf)); (try simp only [hd]); rfl))
    refine free_op (fun v _ => v = .int .u64 (uI (CrcM.step c b))) rfl (val_mono _) (fun vs w hg hd => by
      (try simp [Region.binds] at hd); simp only [Does]; simp only [execOp, resolve, Option.map_some, Option.map_none, List.map_toArray, List.map_cons, List.map_nil, rho_const, rho_func]; (repeat (conv in rho _ _ _ _ (Operand.tmp _) => whnf)); (try simp only [hd]); go_simp; (repeat (conv in rho _ _ _ _ (Operand.tmp _) => whnf))
      exact step1 c b _) ?_
    repeat (apply free_pure rfl; focus (intro vs w hg hd;  (try simp [Region.binds] at hd); simp only [execOp, resolve, Option.map_some, Option.map_none, List.map_toArray, List.map_cons, List.map_nil, rho_const, rho_func]; (repeat (conv in rho _ _ _ _ (Operand.tmp _) => whnf)); (try simp only [hd]); go_simp; (repeat (conv in rho _ _ _ _ (Operand.tmp _) => whnf)); (try simp only [hd]); rfl))
    refine free_op (fun v _ => v = .int .u64 (uI (CrcM.step c b))) rfl (val_mono _) (fun vs w hg hd => by
      (try simp [Region.binds] at hd); simp only [Does]; simp only [execOp, resolve, Option.map_some, Option.map_none, List.map_toArray, List.map_cons, List.map_nil, rho_const, rho_func]; (repeat (conv in rho _ _ _ _ (Operand.tmp _) => whnf)); (try simp only [hd]); go_simp; (repeat (conv in rho _ _ _ _ (Operand.tmp _) => whnf))
      exact rstep1 c b _) ?_
    repeat (apply free_pure rfl; focus (intro vs w hg hd;  (try simp [Region.binds] at hd); simp only [execOp, resolve, Option.map_some, Option.map_none, List.map_toArray, List.map_cons, List.map_nil, rho_const, rho_func]; (repeat (conv in rho _ _ _ _ (Operand.tmp _) => whnf)); (try simp only [hd]); go_simp; (repeat (conv in rho _ _ _ _ (Operand.tmp _) => whnf)); (try simp only [hd]); rfl))
    refine free_guarded (fun v _ => v = .agg (tarr 256)) (val_mono _) (fun vs w hg hd => by
      simp [Region.binds] at hd
      refine ⟨?_, ?_⟩
      · simp [Region.wanted, yieldR]
        repeat (conv in rho _ _ _ _ (Operand.tmp _) => whnf)
        simp [hd]
      · simp only [Does]
        simp only [execOp, resolve, Option.map_some, Option.map_none, List.map_toArray, List.map_cons, List.map_nil, rho_const, rho_func]
        (repeat (conv in rho _ _ _ _ (Operand.tmp _) => whnf))
        (try simp only [hd])
        go_simp
        (repeat (conv in rho _ _ _ _ (Operand.tmp _) => whnf))
        exact table1 _) ?_
    refine free_guarded (fun v _ => v = .agg (tarr 256)) (val_mono _) (fun vs w hg hd => by
      simp [Region.binds] at hd
      refine ⟨?_, ?_⟩
      · simp [Region.wanted, yieldR]
        repeat (conv in rho _ _ _ _ (Operand.tmp _) => whnf)
        simp [hd]
      · simp only [Does]
        simp only [execOp, resolve, Option.map_some, Option.map_none, List.map_toArray, List.map_cons, List.map_nil, rho_const, rho_func]
        (repeat (conv in rho _ _ _ _ (Operand.tmp _) => whnf))
        (try simp only [hd])
        go_simp
        (repeat (conv in rho _ _ _ _ (Operand.tmp _) => whnf))
        exact rtable1 _) ?_
    refine free_guarded (fun v _ => v = .bool true) (val_mono _) (fun vs w hg hd => by
      simp [Region.binds] at hd
      refine ⟨?_, ?_⟩
      · simp [Region.wanted, yieldR]
        repeat (conv in rho _ _ _ _ (Operand.tmp _) => whnf)
        simp [hd]
      · simp only [Does]
        simp only [execOp, resolve, Option.map_some, Option.map_none, List.map_toArray, List.map_cons, List.map_nil, rho_const, rho_func]
        (repeat (conv in rho _ _ _ _ (Operand.tmp _) => whnf))
        (try simp only [hd])
        go_simp
        (repeat (conv in rho _ _ _ _ (Operand.tmp _) => whnf))
        exact Grows.refl _) ?_
    repeat (apply free_pure rfl; focus (intro vs w hg hd;  (try simp [Region.binds] at hd); simp only [execOp, resolve, Option.map_some, Option.map_none, List.map_toArray, List.map_cons, List.map_nil, rho_const, rho_func]; (repeat (conv in rho _ _ _ _ (Operand.tmp _) => whnf)); (try simp only [hd]); go_simp; (repeat (conv in rho _ _ _ _ (Operand.tmp _) => whnf)); (try simp only [hd]); rfl))
    refine free_guarded (fun x _ => x = v) (val_mono _) (fun vs w hg hd => by
      simp [Region.binds] at hd
      refine ⟨?_, ?_⟩
      · simp [Region.wanted, yieldR]
        repeat (conv in rho _ _ _ _ (Operand.tmp _) => whnf)
        simp [hd]
      · simp only [Does]
        simp only [execOp, resolve, Option.map_some, Option.map_none, List.map_toArray, List.map_cons, List.map_nil, rho_const, rho_func]
        (repeat (conv in rho _ _ _ _ (Operand.tmp _) => whnf))
        (try simp only [hd])
        go_simp
        (repeat (conv in rho _ _ _ _ (Operand.tmp _) => whnf))
        exact Grows.refl _) ?_
    refine free_guarded (fun v _ => v = .int .u64 (uI (CrcM.sum ls.flatten))) (val_mono _) (fun vs w hg hd => by
      simp [Region.binds] at hd
      refine ⟨?_, ?_⟩
      · simp [Region.wanted, yieldR]
        repeat (conv in rho _ _ _ _ (Operand.tmp _) => whnf)
        simp [hd]
      · simp only [Does]
        simp only [execOp, resolve, Option.map_some, Option.map_none, List.map_toArray, List.map_cons, List.map_nil, rho_const, rho_func]
        (repeat (conv in rho _ _ _ _ (Operand.tmp _) => whnf))
        (try simp only [hd])
        go_simp
        (repeat (conv in rho _ _ _ _ (Operand.tmp _) => whnf))
        exact sumN (parts_any _ _ _ _ HPP.out (Grows.of_drew hg))) ?_
    refine free_guarded (fun x _ => x = v) (val_mono _) (fun vs w hg hd => by
      simp [Region.binds] at hd
      refine ⟨?_, ?_⟩
      · simp [Region.wanted, yieldR]
        repeat (conv in rho _ _ _ _ (Operand.tmp _) => whnf)
        simp [hd]
      · simp only [Does]
        simp only [execOp, resolve, Option.map_some, Option.map_none, List.map_toArray, List.map_cons, List.map_nil, rho_const, rho_func]
        (repeat (conv in rho _ _ _ _ (Operand.tmp _) => whnf))
        (try simp only [hd])
        go_simp
        (repeat (conv in rho _ _ _ _ (Operand.tmp _) => whnf))
        exact Grows.refl _) ?_
    refine free_guarded (fun v _ => v = .int .u64 (uI (CrcM.sum ls.flatten))) (val_mono _) (fun vs w hg hd => by
      simp [Region.binds] at hd
      refine ⟨?_, ?_⟩
      · simp [Region.wanted, yieldR]
        repeat (conv in rho _ _ _ _ (Operand.tmp _) => whnf)
        simp [hd]
      · simp only [Does]
        simp only [execOp, resolve, Option.map_some, Option.map_none, List.map_toArray, List.map_cons, List.map_nil, rho_const, rho_func]
        (repeat (conv in rho _ _ _ _ (Operand.tmp _) => whnf))
        (try simp only [hd])
        go_simp
        (repeat (conv in rho _ _ _ _ (Operand.tmp _) => whnf))
        exact rsumN (parts_any _ _ _ _ HPP.out (Grows.of_drew hg))) ?_
    refine free_guarded (fun v _ => v = .bool true) (val_mono _) (fun vs w hg hd => by
      simp [Region.binds] at hd
      refine ⟨?_, ?_⟩
      · simp [Region.wanted, yieldR]
        repeat (conv in rho _ _ _ _ (Operand.tmp _) => whnf)
        simp [hd]
      · simp only [Does]
        simp only [execOp, resolve, Option.map_some, Option.map_none, List.map_toArray, List.map_cons, List.map_nil, rho_const, rho_func]
        (repeat (conv in rho _ _ _ _ (Operand.tmp _) => whnf))
        (try simp only [hd])
        go_simp
        (repeat (conv in rho _ _ _ _ (Operand.tmp _) => whnf))
        exact Grows.refl _) ?_
    repeat (apply free_pure rfl; focus (intro vs w hg hd;  (try simp [Region.binds] at hd); simp only [execOp, resolve, Option.map_some, Option.map_none, List.map_toArray, List.map_cons, List.map_nil, rho_const, rho_func]; (repeat (conv in rho _ _ _ _ (Operand.tmp _) => whnf)); (try simp only [hd]); go_simp; (repeat (conv in rho _ _ _ _ (Operand.tmp _) => whnf)); (try simp only [hd]); rfl))
    refine free_guarded (fun v _ => v = .agg (p.map byteV).toArray) (val_mono _) (fun vs w hg hd => by
      simp [Region.binds] at hd
      refine ⟨?_, ?_⟩
      · simp [Region.wanted, yieldR]
        repeat (conv in rho _ _ _ _ (Operand.tmp _) => whnf)
        simp [hd]
      · exact does_load 25 (.tmp 7) ⟨w0.heap.size, 0, none⟩ _ rfl (by first | rfl | (conv => lhs; whnf)) (hld _ (Grows.of_drew hg)) ⟨Grows.refl _, rfl⟩) ?_
    refine free_guarded (fun v _ => v = .int .u64 (uI (CrcM.sum p))) (val_mono _) (fun vs w hg hd => by
      simp [Region.binds] at hd
      refine ⟨?_, ?_⟩
      · simp [Region.wanted, yieldR]
        repeat (conv in rho _ _ _ _ (Operand.tmp _) => whnf)
        simp [hd]
      · simp only [Does]
        simp only [execOp, resolve, Option.map_some, Option.map_none, List.map_toArray, List.map_cons, List.map_nil, rho_const, rho_func]
        (repeat (conv in rho _ _ _ _ (Operand.tmp _) => whnf))
        (try simp only [hd])
        go_simp
        (repeat (conv in rho _ _ _ _ (Operand.tmp _) => whnf))
        exact page_any p HL.out _) ?_
    refine free_guarded (fun v _ => v = .agg (p.map byteV).toArray) (val_mono _) (fun vs w hg hd => by
      simp [Region.binds] at hd
      refine ⟨?_, ?_⟩
      · simp [Region.wanted, yieldR]
        repeat (conv in rho _ _ _ _ (Operand.tmp _) => whnf)
        simp [hd]
      · exact does_load 25 (.tmp 7) ⟨w0.heap.size, 0, none⟩ _ rfl (by first | rfl | (conv => lhs; whnf)) (hld _ (Grows.of_drew hg)) ⟨Grows.refl _, rfl⟩) ?_
    refine free_guarded (fun v _ => v = .int .u64 (uI (CrcM.sum p))) (val_mono _) (fun vs w hg hd => by
      simp [Region.binds] at hd
      refine ⟨?_, ?_⟩
      · simp [Region.wanted, yieldR]
        repeat (conv in rho _ _ _ _ (Operand.tmp _) => whnf)
        simp [hd]
      · simp only [Does]
        simp only [execOp, resolve, Option.map_some, Option.map_none, List.map_toArray, List.map_cons, List.map_nil, rho_const, rho_func]
        (repeat (conv in rho _ _ _ _ (Operand.tmp _) => whnf))
        (try simp only [hd])
        go_simp
        (repeat (conv in rho _ _ _ _ (Operand.tmp _) => whnf))
        exact rpage_any p HL.out _) ?_
    refine free_guarded (fun v _ => v = .bool true) (val_mono _) (fun vs w hg hd => by
      simp [Region.binds] at hd
      refine ⟨?_, ?_⟩
      · simp [Region.wanted, yieldR]
        repeat (conv in rho _ _ _ _ (Operand.tmp _) => whnf)
        simp [hd]
      · simp only [Does]
        simp only [execOp, resolve, Option.map_some, Option.map_none, List.map_toArray, List.map_cons, List.map_nil, rho_const, rho_func]
        (repeat (conv in rho _ _ _ _ (Operand.tmp _) => whnf))
        (try simp only [hd])
        go_simp
        (repeat (conv in rho _ _ _ _ (Operand.tmp _) => whnf))
        exact Grows.refl _) ?_
    repeat (apply free_pure rfl; focus (intro vs w hg hd;  (try simp [Region.binds] at hd); simp only [execOp, resolve, Option.map_some, Option.map_none, List.map_toArray, List.map_cons, List.map_nil, rho_const, rho_func]; (repeat (conv in rho _ _ _ _ (Operand.tmp _) => whnf)); (try simp only [hd]); go_simp; (repeat (conv in rho _ _ _ _ (Operand.tmp _) => whnf)); (try simp only [hd]); rfl))
    refine free_guarded (fun v _ => v = .bool true) (val_mono _) (fun vs w hg hd => by
      simp [Region.binds] at hd
      refine ⟨?_, ?_⟩
      · simp [Region.wanted, yieldR]
        repeat (conv in rho _ _ _ _ (Operand.tmp _) => whnf)
        simp [hd]
      · simp only [Does]
        simp only [execOp, resolve, Option.map_some, Option.map_none, List.map_toArray, List.map_cons, List.map_nil, rho_const, rho_func]
        (repeat (conv in rho _ _ _ _ (Operand.tmp _) => whnf))
        (try simp only [hd])
        go_simp
        (repeat (conv in rho _ _ _ _ (Operand.tmp _) => whnf))
        exact wakes1 _) ?_
    repeat (apply free_pure rfl; focus (intro vs w hg hd;  (try simp [Region.binds] at hd); simp only [execOp, resolve, Option.map_some, Option.map_none, List.map_toArray, List.map_cons, List.map_nil, rho_const, rho_func]; (repeat (conv in rho _ _ _ _ (Operand.tmp _) => whnf)); (try simp only [hd]); go_simp; (repeat (conv in rho _ _ _ _ (Operand.tmp _) => whnf)); (try simp only [hd]); rfl))
    intro vs w' hg hv; have h29 := hv 29 (by omega); simp at h29; simp only [putL, dstAt, List.range, List.range.loop, if_true, List.getElem?_toArray, List.getElem?_cons_zero, List.getElem?_cons_succ, Option.bind_some, Act.put, List.setIfInBounds_toArray, List.set_cons_zero, List.set_cons_succ]
    rw [h29]
    clear hv h29
    generalize vs 0 = z0, vs 1 = z1, vs 2 = z2, vs 3 = z3, vs 4 = z4, vs 5 = z5, vs 6 = z6, vs 7 = z7, vs 8 = z8, vs 9 = z9, vs 10 = z10, vs 11 = z11, vs 12 = z12, vs 13 = z13, vs 14 = z14, vs 15 = z15, vs 16 = z16, vs 17 = z17, vs 18 = z18, vs 19 = z19, vs 20 = z20, vs 21 = z21, vs 22 = z22, vs 23 = z23, vs 24 = z24, vs 25 = z25, vs 26 = z26, vs 27 = z27, vs 28 = z28 at *
    go_wp2
    go_ret
    exact ⟨rfl, (Grows.alloc w0 _).trans (Grows.of_drew hg)⟩
  · refine (wakes1 _).mono ?_
    rintro e w2 ⟨rfl, hb2⟩
    go_wp2
    go_ret
    exact ⟨rfl, (Grows.alloc w0 _).trans hb2⟩
end Go.Proofs.Yteanmkejcnkojaa
