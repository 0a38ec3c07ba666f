/- PackShortAny -/
import Derived.Test.YtjcommodiihcdaaDoorPackWakes
import Derived.Test.YtjcommodiihcdaaDoorZeros
/- The law on what is too short, as a call. -/
namespace Go.Proofs.YtjcommodiihcdaaDoor
open Go.RowKit
set_option linter.unusedVariables false
set_option linter.unusedSimpArgs false
attribute [local go_sem high] sliced_cut
attribute [local go_sem] cutA_zero Nat.sub_zero
/-- Bytes with their length ahead. -/
def rowS (s : List (BitVec 8)) : List (BitVec 8) := BitVec.ofNat 8 s.length :: s
theorem put_rowS (s : List (BitVec 8)) (h : s.length ≤ 255) : PackM.putBytes [] s = rowS s := by
  unfold PackM.putBytes rowS
  rw [Nat.min_eq_left h, List.take_of_length_le h]; rfl
theorem many_rowS (s : List (BitVec 8)) (h : s.length ≤ 255) : PackM.many (rowS s) = s.length := by
  show (BitVec.ofNat 8 s.length).toNat = s.length
  rw [BitVec.toNat_ofNat, Nat.mod_eq_of_lt (by omega)]
theorem rowS_length (s : List (BitVec 8)) : (rowS s).length = s.length + 1 := rfl
theorem many_take (b : List (BitVec 8)) (n : Nat) (h : 0 < n) : PackM.many (b.take n) = PackM.many b := by
  cases n with
  | zero => omega
  | succ n => cases b <;> rfl
theorem tbE_short (s : List (BitVec 8)) (h : s.length ≤ 255) (ct : Nat) (h1 : 1 ≤ ct) (h2 : ct ≤ s.length + 1) : PackM.tbE ((rowS s).take (s.length + 1 - ct)) 255 = 20 := by
  unfold PackM.tbE
  rw [if_pos]
  rw [List.length_take, rowS_length]
  by_cases h0 : s.length + 1 - ct = 0
  · left; omega
  · right; rw [many_take _ _ (by omega), many_rowS s h]; omega
theorem tbE_long (s : List (BitVec 8)) (h : s.length ≤ 255) : PackM.tbE (rowS s) ((s.length : Int) - 1) = 21 := by
  unfold PackM.tbE
  rw [if_neg, if_pos]
  · rw [many_rowS s h]; omega
  · rw [many_rowS s h, rowS_length]; omega
theorem tb_none (b : List (BitVec 8)) (m : Int) (h : PackM.tbE b m ≠ 0) : PackM.tbS b m = [] ∧ PackM.tbR b m = b := by
  unfold PackM.tbS PackM.tbR
  rw [if_neg h, if_neg h]; exact ⟨rfl, rfl⟩
theorem take_none (n : Nat) (width : Int) (h1 : 1 ≤ width) (h2 : width ≤ 8) (hn : (n : Int) = width - 1) : PackM.takeN (List.replicate n 0#8) width = 0#64 ∧ PackM.takeR (List.replicate n 0#8) width = List.replicate n 0#8 ∧ PackM.takeE (List.replicate n 0#8) width = 20 := by
  have := PackM.wd_id width h1 h2
  unfold PackM.takeN PackM.takeR PackM.takeE
  rw [if_pos (by rw [List.length_replicate]; omega), if_pos (by rw [List.length_replicate]; omega), if_pos (by rw [List.length_replicate]; omega)]
  exact ⟨rfl, rfl, rfl⟩
end Go.Proofs.YtjcommodiihcdaaDoor
