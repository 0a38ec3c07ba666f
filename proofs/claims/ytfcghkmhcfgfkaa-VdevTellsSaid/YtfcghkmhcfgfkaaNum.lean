/- Numbers as bytes, the lowest first. Plain mathematics, and the model's shifts on words. No function of the program. -/
import Derived.Test.YtfcghkmhcfgfkaaWords
import Derived.Laws.Bits64b
namespace Go.Proofs.Ytfcghkmhcfgfkaa
open Go.RowKit
theorem bits_or_u (x y : BitVec 64) : bits .or .u64 (uI x) (uI y) = uI (x ||| y) := by
  unfold uI; rw [bits_or_u64_nat _ _ (by have := x.isLt; omega) (by have := y.isLt; omega), BitVec.toNat_or]
theorem uI_shl (x : BitVec 64) (n : Nat) : IntKind.u64.wrap (uI x * (2 : Int) ^ n) = uI (x <<< n) := by
  have h : IntKind.u64.wrap (uI x * (2 : Int) ^ n) = ((x.toNat * 2 ^ n : Nat) : Int) % 18446744073709551616 := by
    unfold uI
    rw [show ((x.toNat : Int) * (2 : Int) ^ n) = ((x.toNat * 2 ^ n : Nat) : Int) by simp]
    exact IntKind.wrap_u64 _
  rw [h]
  unfold uI
  rw [BitVec.toNat_shiftLeft, Nat.shiftLeft_eq]
  simp
theorem shl_min (x : BitVec 64) (k : Nat) : x <<< min k 64 = x <<< k := by
  rcases Nat.lt_or_ge k 64 with h | h
  · rw [Nat.min_eq_left (by omega)]
  · rw [Nat.min_eq_right h, BitVec.shiftLeft_eq_zero (by omega), BitVec.shiftLeft_eq_zero h]
namespace Num
/-- Byte number i of a number; its first w bytes; the number of a row of bytes. -/
def byteAt (n : BitVec 64) (i : Nat) : BitVec 8 := (n >>> (8 * i)).setWidth 8
def bytes (n : BitVec 64) (w : Nat) : List (BitVec 8) := (List.range w).map (byteAt n)
def num : List (BitVec 8) → BitVec 64
  | [] => 0#64
  | b :: l => b.setWidth 64 ||| (num l <<< 8)
/-- Its lowest w bytes. -/
def low (n : BitVec 64) (w : Nat) : BitVec 64 := if w < 8 then n &&& ((1#64 <<< (8 * w)) - 1#64) else n
@[simp] theorem bytes_length (n : BitVec 64) (w : Nat) : (bytes n w).length = w := by simp [bytes]
theorem bytes_zero (n : BitVec 64) : bytes n 0 = [] := rfl
theorem bytes_succ (n : BitVec 64) (w : Nat) : bytes n (w + 1) = bytes n w ++ [byteAt n w] := by simp [bytes, List.range_succ]
theorem num_snoc : ∀ (l : List (BitVec 8)) (b : BitVec 8), num (l ++ [b]) = num l ||| (b.setWidth 64 <<< (8 * l.length))
  | [], b => by simp [num]
  | a :: l, b => by
    rw [List.cons_append, num, num_snoc l b, num, BitVec.shiftLeft_or_distrib, ← BitVec.shiftLeft_add, BitVec.or_assoc]
    simp [Nat.mul_add, Nat.add_comm]
theorem num_take (l : List (BitVec 8)) (k : Nat) (b : BitVec 8) (h : l[k]? = some b) : num (l.take (k + 1)) = num (l.take k) ||| (b.setWidth 64 <<< (8 * k)) := by
  have hk := (List.getElem?_eq_some_iff.1 h).1
  have e : l.take (k + 1) = l.take k ++ [b] := by rw [List.take_add_one, h]; rfl
  have hl : (l.take k).length = k := by rw [List.length_take]; omega
  rw [e, num_snoc, hl]
theorem num_bit : ∀ (l : List (BitVec 8)) (j : Nat), j < 64 → (num l).getLsbD j = match l[j / 8]? with | some b => b.getLsbD (j % 8) | none => false
  | [], j, _ => by simp [num]
  | b :: l, j, hj => by
    rw [num, BitVec.getLsbD_or, BitVec.getLsbD_setWidth, BitVec.getLsbD_shiftLeft]
    by_cases h : j < 8
    · have e1 : j / 8 = 0 := by omega
      have e2 : j % 8 = j := by omega
      simp [h, hj, e1, e2]
    · obtain ⟨k, rfl⟩ : ∃ k, j = k + 8 := ⟨j - 8, by omega⟩
      have e1 : (k + 8) / 8 = k / 8 + 1 := by omega
      have e2 : (k + 8) % 8 = k % 8 := by omega
      have e3 : b.getLsbD (k + 8) = false := BitVec.getLsbD_of_ge _ _ (by omega)
      rw [e1, e2, e3, List.getElem?_cons_succ, Nat.add_sub_cancel, num_bit l k (by omega)]
      simp [hj]
theorem mask_bit (k j : Nat) (hk : k < 64) : ((1#64 <<< k) - 1#64).getLsbD j = decide (j < k) := by
  have hp : 2 ^ k < 2 ^ 64 := Nat.pow_lt_pow_right (by decide) hk
  have hp1 : 0 < 2 ^ k := Nat.two_pow_pos k
  have h : ((1#64 <<< k) - 1#64).toNat = 2 ^ k - 1 := by
    rw [BitVec.toNat_sub, BitVec.toNat_shiftLeft, BitVec.toNat_ofNat, Nat.shiftLeft_eq]
    have e : 1 % 2 ^ 64 * 2 ^ k % 2 ^ 64 = 2 ^ k := by rw [Nat.one_mod_eq_one.2 (by decide), Nat.one_mul, Nat.mod_eq_of_lt hp]
    rw [e]
    omega
  rw [BitVec.getLsbD, h, Nat.testBit_two_pow_sub_one]
theorem num_bytes (n : BitVec 64) (w : Nat) (hw : w ≤ 8) : num (bytes n w) = low n w := by
  apply BitVec.eq_of_getLsbD_eq
  intro j hj
  have hl : (low n w).getLsbD j = (n.getLsbD j && decide (j < 8 * w)) := by
    unfold low
    by_cases h8 : w < 8
    · rw [if_pos h8, BitVec.getLsbD_and, mask_bit _ _ (by omega)]
    · have : j < 8 * w := by omega
      rw [if_neg h8]
      simp [this]
  rw [num_bit _ _ hj, hl]
  by_cases h : j / 8 < w
  · have e : (bytes n w)[j / 8]? = some (byteAt n (j / 8)) := by simp [bytes, h]
    have h1 : j < 8 * w := by omega
    have h2 : j % 8 < 8 := by omega
    have h3 : 8 * (j / 8) + j % 8 = j := by omega
    simp [e, byteAt, h1, h2, h3]
  · have e : (bytes n w)[j / 8]? = none := by simp [bytes]; omega
    have h1 : ¬ j < 8 * w := by omega
    simp [e, h1]
end Num
end Go.Proofs.Ytfcghkmhcfgfkaa
