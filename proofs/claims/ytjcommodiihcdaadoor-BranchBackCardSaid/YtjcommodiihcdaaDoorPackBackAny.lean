/- PackBackAny -/
import Derived.Test.YtjcommodiihcdaaDoorPackShortAny
/- The law on what is put and taken again, as a call. -/
namespace Go.Proofs.YtjcommodiihcdaaDoor
open Go.RowKit
set_option linter.unusedVariables false
set_option linter.unusedSimpArgs false
attribute [local go_sem high] sliced_cut
attribute [local go_sem] cutA_zero Nat.sub_zero
theorem take_back (n : BitVec 64) (width : Int) (tail : List (BitVec 8)) :
    PackM.takeN (PackM.put [] n width ++ tail) width = Num.low n (PackM.wd width) ∧ PackM.takeR (PackM.put [] n width ++ tail) width = tail ∧ PackM.takeE (PackM.put [] n width ++ tail) width = 0 := by
  have e : PackM.put [] n width = Num.bytes n (PackM.wd width) := rfl
  have h : ¬ (Num.bytes n (PackM.wd width) ++ tail).length < PackM.wd width := by rw [List.length_append, Num.bytes_length]; omega
  unfold PackM.takeN PackM.takeR PackM.takeE
  rw [e, if_neg h, if_neg h, if_neg h, List.take_left' (Num.bytes_length _ _), List.drop_left' (Num.bytes_length _ _), Num.num_bytes _ _ (PackM.wd_hi _)]
  exact ⟨rfl, rfl, rfl⟩
theorem tb_back (s tail : List (BitVec 8)) (h : s.length ≤ 255) :
    PackM.tbE (rowS s ++ tail) 255 = 0 ∧ PackM.tbS (rowS s ++ tail) 255 = s ∧ PackM.tbR (rowS s ++ tail) 255 = tail := by
  have hm : PackM.many (rowS s ++ tail) = s.length := many_rowS s h
  have hE : PackM.tbE (rowS s ++ tail) 255 = 0 := by
    unfold PackM.tbE
    rw [if_neg, if_neg]
    · rw [hm]; omega
    · rw [hm, List.length_append, rowS_length]; omega
  refine ⟨hE, ?_, ?_⟩
  · unfold PackM.tbS
    rw [if_pos hE, hm]
    show (s ++ tail).take s.length = s
    exact List.take_left
  · unfold PackM.tbR
    rw [if_pos hE, hm]
    exact List.drop_left' (by rw [rowS_length]; omega)
/-- Its lowest bytes, as the statement reckons them. -/
theorem low_lt (n : BitVec 64) (w : Nat) (h : w < 8) : Num.low n w = n &&& BitVec.ofNat 64 (2 ^ (8 * w) - 1) := by
  unfold Num.low
  rw [if_pos h]
  congr 1
  have hp : 2 ^ (8 * w) < 2 ^ 64 := Nat.pow_lt_pow_right (by decide) (by omega)
  have hp1 : 0 < 2 ^ (8 * w) := Nat.two_pow_pos _
  apply BitVec.eq_of_toNat_eq
  rw [BitVec.toNat_sub, BitVec.toNat_shiftLeft, BitVec.toNat_ofNat, BitVec.toNat_ofNat, Nat.shiftLeft_eq]
  have e : 1 % 2 ^ 64 * 2 ^ (8 * w) % 2 ^ 64 = 2 ^ (8 * w) := by rw [Nat.one_mod_eq_one.2 (by decide), Nat.one_mul, Nat.mod_eq_of_lt hp]
  rw [e, Nat.mod_eq_of_lt (a := 2 ^ (8 * w) - 1) (by omega)]
  omega
/-- A row of one's own that lies below another one stays when that one is appended to. -/
theorem mine_apart {B B' : Nat} {w w' : World} {v u : Value} {l m : List (BitVec 8)} (h : Mine B w v l) (hl : ∀ k, v.ownBlock = some k → k < B') (h' : Mine B' w u m) (hg : w.grownBy w' u.ownBlock) : Mine B w' v l := by
  refine World.ownsRow.kept h hg ?_
  cases hv : v.ownBlock with
  | none => exact .inl rfl
  | some k =>
    right
    intro e
    have h1 := hl k hv
    have h2 := (h'.lt k e.symm).1
    omega
end Go.Proofs.YtjcommodiihcdaaDoor
