/- The law on steps, as a call. -/
import Derived.Test.YteanmkejcnkojaaCrcWakes
namespace Go.Proofs.Yteanmkejcnkojaa
open Go.RowKit
set_option linter.unusedVariables false
attribute [local go_sem] uI_beq bI_beq
set_option maxRecDepth 100000 in
theorem crcSteps_any (c d : BitVec 64) (a b : BitVec 8) (w : World) :
    Calls Try.prog 7 #[.int .u64 (uI c), .int .u64 (uI d), .int .u8 (bI a), .int .u8 (bI b)] w fun e w' => e = .returned (.bool true) ∧ Below w.heap.size w w' := by
  have h1 : (CrcM.step c a == CrcM.step d a) = (c == d) := by rw [Bool.eq_iff_iff]; simp only [beq_iff_eq]; exact CrcM.step_inj_state c d a
  have h2 : (CrcM.step c a == CrcM.step c b) = (a == b) := by rw [Bool.eq_iff_iff]; simp only [beq_iff_eq]; exact CrcM.step_inj_byte c a b
  have h3 : bI a = ((a.toNat : Nat) : Int) := rfl
  have ht := fun w => tab_index .u8 a.toNat a.isLt w
  have h4 : BitVec.ofNat 8 a.toNat = a := by simp
  rw [h4, ← h3] at ht
  have h5 : (CrcM.step 0#64 a == CrcM.T a) = true := by simp [CrcM.T]
  clear h3 h4
  go_enter Try.func7, Try.ntmps7
  go_wp2_with (first
    | (go_at_call 10; (with_reducible refine (step_any _ _ _).mono ?_); rintro e w' ⟨rfl, rfl⟩)
    | (go_at_call 10; refine (step_at _ _ 0#64 _ rfl rfl _).mono ?_; rintro e w' ⟨rfl, rfl⟩)
    | (go_at_call 12; refine (table_any _).mono ?_; rintro e w1 ⟨rfl, hb1⟩)
    | (go_at_call 9; refine (wakes_any _).mono ?_; rintro e w2 ⟨rfl, hb2⟩))
  go_ret
  exact ⟨rfl, hb1.trans (hb2.mono hb1.size)⟩
end Go.Proofs.Yteanmkejcnkojaa
