/- Words and bytes as rows of bits: how the model's integer operations read on them. No function of the program. -/
import Derived.WalkKit
import Derived.Handy
namespace Go.Proofs.Ytfcghkmhcfgfkaa
open Go.RowKit
/-- A 64-bit word, a byte, as the model's numbers. -/
def uI (x : BitVec 64) : Int := (x.toNat : Int)
def bI (x : BitVec 8) : Int := (x.toNat : Int)
theorem uI_nonneg (x : BitVec 64) : 0 ≤ uI x := Int.natCast_nonneg _
theorem uI_lt (x : BitVec 64) : uI x < 18446744073709551616 := by have := x.isLt; unfold uI; omega
theorem bI_nonneg (x : BitVec 8) : 0 ≤ bI x := Int.natCast_nonneg _
theorem bI_lt (x : BitVec 8) : bI x < 256 := by have := x.isLt; unfold bI; omega
theorem uI_ofNat (n : Nat) (h : n < 18446744073709551616) : uI (BitVec.ofNat 64 n) = n := by unfold uI; rw [BitVec.toNat_ofNat, Nat.mod_eq_of_lt (by omega)]
theorem bI_ofNat (n : Nat) (h : n < 256) : bI (BitVec.ofNat 8 n) = n := by unfold bI; rw [BitVec.toNat_ofNat, Nat.mod_eq_of_lt (by omega)]
theorem uI_of (n : Int) (h : 0 ≤ n) (h2 : n ≤ 18446744073709551615) : ∃ x, n = uI x := ⟨BitVec.ofNat 64 n.toNat, by rw [uI_ofNat _ (by omega)]; omega⟩
theorem bI_of (n : Int) (h : 0 ≤ n) (h2 : n ≤ 255) : ∃ x, n = bI x := ⟨BitVec.ofNat 8 n.toNat, by rw [bI_ofNat _ (by omega)]; omega⟩
theorem uI_inj {x y : BitVec 64} (h : uI x = uI y) : x = y := BitVec.eq_of_toNat_eq (by unfold uI at h; omega)
theorem bI_inj {x y : BitVec 8} (h : bI x = bI y) : x = y := BitVec.eq_of_toNat_eq (by unfold bI at h; omega)
theorem uI_beq (x y : BitVec 64) : (uI x == uI y) = (x == y) := by
  rw [Bool.eq_iff_iff]; simp only [beq_iff_eq]; exact ⟨uI_inj, fun h => by rw [h]⟩
theorem bI_beq (x y : BitVec 8) : (bI x == bI y) = (x == y) := by
  rw [Bool.eq_iff_iff]; simp only [beq_iff_eq]; exact ⟨bI_inj, fun h => by rw [h]⟩
theorem bits_xor_u (x y : BitVec 64) : bits .xor .u64 (uI x) (uI y) = uI (x ^^^ y) := by
  unfold uI; rw [u64_xor_nat _ _ (by have := x.isLt; omega) (by have := y.isLt; omega), BitVec.toNat_xor]
theorem bits_and_u (x y : BitVec 64) : bits .and .u64 (uI x) (uI y) = uI (x &&& y) := by
  unfold uI; rw [u64_and_nat _ _ (by have := x.isLt; omega) (by have := y.isLt; omega), BitVec.toNat_and]
theorem bits_xor_b (x y : BitVec 8) : bits .xor .u8 (bI x) (bI y) = bI (x ^^^ y) := by
  unfold bI; rw [u8_xor_nat _ _ (by have := x.isLt; omega) (by have := y.isLt; omega), BitVec.toNat_xor]
theorem bI_uI (x : BitVec 8) : bI x = uI (x.setWidth 64) := by
  unfold bI uI; rw [BitVec.toNat_setWidth_of_le (by decide)]
theorem wrap_u64_bI (x : BitVec 8) : IntKind.u64.wrap (bI x) = uI (x.setWidth 64) := by
  rw [IntWalk.u64_in _ (by have := bI_nonneg x; have := bI_lt x; omega), bI_uI]
theorem wrap_u8_uI (x : BitVec 64) : IntKind.u8.wrap (uI x) = bI (x.setWidth 8) := by
  rw [IntKind.wrap_u8']; unfold uI bI; rw [BitVec.toNat_setWidth]; omega
theorem uI_shr (x : BitVec 64) (n : Nat) : uI x / (2 : Int) ^ n = uI (x >>> n) := by
  unfold uI; rw [BitVec.toNat_ushiftRight, Nat.shiftRight_eq_div_pow]; simp
theorem uI_shr1 (x : BitVec 64) : uI x / (2 : Int) = uI (x >>> 1) := uI_shr x 1
theorem uI_shr8 (x : BitVec 64) : uI x / (256 : Int) = uI (x >>> 8) := uI_shr x 8
theorem i64_and_nat (a b : Nat) (ha : a < 9223372036854775808) (hb : b < 9223372036854775808) : bits .and .i64 (a : Int) (b : Int) = ((a &&& b : Nat) : Int) := by
  have hx : a &&& b < 2 ^ 63 := Nat.and_lt_two_pow _ (by omega)
  show IntKind.i64.wrap ((BitVec.ofInt 64 (a : Int) &&& BitVec.ofInt 64 (b : Int)).toNat : Int) = _
  rw [BitVec.toNat_and, ofInt_u64 a (by omega), ofInt_u64 b (by omega), IntWalk.i64_in _ (by omega)]
theorem i64_xor_nat (a b : Nat) (ha : a < 9223372036854775808) (hb : b < 9223372036854775808) : bits .xor .i64 (a : Int) (b : Int) = ((a ^^^ b : Nat) : Int) := by
  have hx : a ^^^ b < 2 ^ 63 := Nat.xor_lt_two_pow (by omega) (by omega)
  show IntKind.i64.wrap ((BitVec.ofInt 64 (a : Int) ^^^ BitVec.ofInt 64 (b : Int)).toNat : Int) = _
  rw [BitVec.toNat_xor, ofInt_u64 a (by omega), ofInt_u64 b (by omega), IntWalk.i64_in _ (by omega)]
theorem bits_not_u (x : BitVec 64) : bits .xor .u64 IntKind.u64.max (uI x) = uI (~~~x) := by
  rw [show IntKind.u64.max = uI (BitVec.allOnes 64) from by decide, bits_xor_u, BitVec.allOnes_xor]
theorem uI_bne (x y : BitVec 64) : (uI x != uI y) = !(x == y) := by rw [bne, uI_beq]
theorem bI_bne (x y : BitVec 8) : (bI x != bI y) = !(x == y) := by rw [bne, bI_beq]
end Go.Proofs.Ytfcghkmhcfgfkaa
