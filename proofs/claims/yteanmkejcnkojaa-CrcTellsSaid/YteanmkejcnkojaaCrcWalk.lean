/- The walks of package crc's functions. -/
import Derived.Test.YteanmkejcnkojaaRows
import Derived.Test.YteanmkejcnkojaaWords
import Derived.Test.YteanmkejcnkojaaCrcMath
import Derived.ProofKit
import Derived.OpenShut
import Derived.Lib.Hide
namespace Go.Proofs.Yteanmkejcnkojaa
open Go.ChangeShapes Go.WideShapes Go.ChangeAt Go.RowKit
attribute [local go_sem] bits_xor_u bits_and_u wrap_u64_bI wrap_u8_uI uI_shr1 uI_shr8
def shn : Nat → CrcM.U → CrcM.U
  | 0, c => c
  | k + 1, c => CrcM.sh (shn k c)
theorem bits_and_1 (x : BitVec 64) : bits .and .u64 (uI x) 1 = uI (x &&& 1#64) := bits_and_u x 1#64
theorem bits_xor_poly (x : BitVec 64) : bits .xor .u64 (uI x) 14514072000185962306 = uI (x ^^^ CrcM.poly) := bits_xor_u x CrcM.poly
theorem uI_eq_1 (x : BitVec 64) : (uI x == 1) = (x == 1#64) := uI_beq x 1#64
attribute [local go_sem] bits_and_1 bits_xor_poly uI_eq_1
/-- 'Step': the document's step, in every world. -/
theorem step_any (c : BitVec 64) (b : BitVec 8) (w : World) :
    Calls Try.prog 10 #[.int .u64 (uI c), .int .u8 (bI b)] w fun e w' => e = .returned (.int .u64 (uI (CrcM.step c b))) ∧ w = w' := by
  go_enter Try.func10, Try.ntmps10
  go_wp2
  go_loop [0, 10] (fun v i => ∃ k : Nat, k ≤ 8 ∧ i = .int .i64 k ∧ v = .int .u64 (uI (shn k (c ^^^ b.setWidth 64)))) (fun _ i => 8 - (intOf i).toNat)
  case atStart => exact ⟨0, Nat.zero_le _, rfl, rfl⟩
  case round =>
    obtain ⟨k, hk, rfl, rfl⟩ := hrel
    generalize hx : shn k (c ^^^ b.setWidth 64) = x
    have HX := Lib.hid hx; clear hx
    by_cases hlt : k < 8
    · by_cases ho : (x &&& 1#64 == 1#64) = true
      all_goals
        go_wp2
        go_round
        case rel => refine ⟨k + 1, by omega, by go_num, ?_⟩; rw [shn, HX.out, CrcM.sh]; simp_all
        case measure => simp [intOf]; omega
    · have hk8 : k = 8 := by omega
      go_wp2
      go_ret
      refine ⟨?_, rfl⟩
      rw [← HX.out, hk8]; rfl
/-- 'Step' of the document's own answer. -/
theorem rstep_any (c : BitVec 64) (b : BitVec 8) (w : World) :
    Calls Try.prog 11 #[.int .u64 (uI c), .int .u8 (bI b)] w fun e w' => e = .returned (.int .u64 (uI (CrcM.step c b))) ∧ w = w' := by
  go_enter Try.func11, Try.ntmps11
  go_wp2
  go_loop [0, 5] (fun v i => ∃ k : Nat, k ≤ 8 ∧ i = .int .i64 k ∧ v = .int .u64 (uI (shn k (c ^^^ b.setWidth 64)))) (fun _ i => 8 - (intOf i).toNat)
  case atStart => exact ⟨0, Nat.zero_le _, rfl, rfl⟩
  case round =>
    obtain ⟨k, hk, rfl, rfl⟩ := hrel
    generalize hx : shn k (c ^^^ b.setWidth 64) = x
    have HX := Lib.hid hx; clear hx
    by_cases hlt : k < 8
    · by_cases ho : (x &&& 1#64 == 1#64) = true
      all_goals
        go_wp2
        go_round
        case rel => refine ⟨k + 1, by omega, by go_num, ?_⟩; rw [shn, HX.out, CrcM.sh]; simp_all
        case measure => simp [intOf]; omega
    · have hk8 : k = 8 := by omega
      go_wp2
      go_ret
      refine ⟨?_, rfl⟩
      rw [← HX.out, hk8]; rfl
end Go.Proofs.Yteanmkejcnkojaa
