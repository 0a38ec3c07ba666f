/- PtFitsM -/
import Derived.Test.YtnigflobmiiefaaDoorPtA
import Derived.Test.YtnigflobmiiefaaDoorCrcBurstMath
/- What the law PtrFits reckons: pages that differ within eight bytes, and their sums; addresses of 16 bits. -/
namespace Go.Proofs.YtnigflobmiiefaaDoor
open Go.RowKit
namespace CrcM
theorem zip_zeros : ∀ s : List (BitVec 8), List.zipWith (· ^^^ ·) s (List.replicate s.length 0#8) = s
  | [] => rfl
  | x :: s => by
    rw [List.length_cons, List.replicate_succ, List.zipWith_cons_cons, zip_zeros s]
    simp
theorem zeros_of : ∀ l : List (BitVec 8), (l.any fun b => !(b == 0#8)) = false → l = List.replicate l.length 0#8
  | [], _ => rfl
  | x :: l, h => by
    simp only [List.any_cons, Bool.or_eq_false_iff, Bool.not_eq_false', beq_iff_eq] at h
    rw [List.length_cons, List.replicate_succ, ← zeros_of l h.2, h.1]
theorem burst_same (s : List (BitVec 8)) (p k : Nat) (l : List (BitVec 8)) (h : p + k ≤ s.length) (hl : k ≤ l.length) (hc : chg k l = false) : burst s p k l = s := by
  have hz := zeros_of (l.take k) hc
  have hlen : (l.take k).length = k := by rw [List.length_take]; omega
  rw [hlen] at hz
  unfold burst delta
  rw [hz, List.replicate_append_replicate, List.replicate_append_replicate, show p + (k + (s.length - p - k)) = s.length by omega]
  exact zip_zeros s
/-- Sums are alike just where the pages are. -/
theorem sum_page (s : List (BitVec 8)) (p k : Nat) (l : List (BitVec 8)) (h : p + k ≤ s.length) (hl : k ≤ l.length) (h8 : k ≤ 8) : (sum s == sum (burst s p k l)) = decide (s = burst s p k l) := by
  have hb := burst_sum s p k l h hl h8
  cases hc : chg k l with
  | false =>
    have e := burst_same s p k l h hl hc
    rw [e]; simp
  | true =>
    rw [hc] at hb
    have hne : (sum (burst s p k l) == sum s) = false := by simpa using hb
    have h1 : sum (burst s p k l) ≠ sum s := by simpa using hne
    have h2 : s ≠ burst s p k l := fun e => h1 (congrArg sum e.symm)
    rw [decide_eq_false h2, beq_eq_false_iff_ne]
    exact fun e => h1 e.symm
end CrcM
namespace PtM
theorem hI_int (a : Int) (h0 : 0 ≤ a) (h1 : a ≤ 60000) : hI (BitVec.ofInt 16 a) = a := by
  unfold hI; rw [BitVec.toNat_ofInt]; omega
theorem place_int (a n : Int) (h0 : 0 ≤ a) (h1 : a ≤ 60000) : place (BitVec.ofInt 16 a) n = (decide (4 ≤ a) && decide (a < n)) := by
  unfold place; rw [hI_int a h0 h1]
theorem born_of (k : BitVec 8) (a b : Int) (birth : BitVec 32) (p : List (BitVec 8)) : born (of k a b birth p) = (decide (1 ≤ wI birth) && decide (wI birth ≤ 1073741824)) := rfl
/-- May a branch's pointer be, a chain's? -/
theorem right_two (a b n : Int) (birth : BitVec 32) (p : List (BitVec 8)) (a0 : 0 ≤ a) (a1 : a ≤ 60000) (b0 : 0 ≤ b) (b1 : b ≤ 60000) :
    right (of 2 a b birth p) n = ((decide (4 ≤ a) && decide (a < n) && (decide (1 ≤ wI birth) && decide (wI birth ≤ 1073741824))) && (decide (4 ≤ b) && decide (b < n) && decide (a ≠ b))) := by
  have hk : ¬ (of 2 a b birth p).kind = 3#8 := by show ¬ (2#8 = 3#8); decide
  have hn : node (of 2 a b birth p) = true := rfl
  have hb : (of 2 a b birth p).b = BitVec.ofInt 16 b := by show (if (2#8) = 3#8 then 0#16 else BitVec.ofInt 16 b) = _; rw [if_neg (by decide)]
  have hne : ((of 2 a b birth p).a != (of 2 a b birth p).b) = decide (a ≠ b) := by
    rw [hb, ← hI_bne]
    show (hI (BitVec.ofInt 16 a) != hI (BitVec.ofInt 16 b)) = _
    rw [hI_int a a0 a1, hI_int b b0 b1]
    by_cases e : a = b <;> simp [e]
  unfold right second wheres
  rw [if_neg hk, hn, if_pos rfl, born_of, hne, hb]
  simp only [List.all_cons, List.all_nil, Bool.and_true]
  rw [show (of 2 a b birth p).a = BitVec.ofInt 16 a from rfl, place_int a n a0 a1, place_int b n b0 b1]
  generalize decide (4 ≤ a) = c1
  generalize decide (a < n) = c2
  generalize decide (1 ≤ wI birth) = c3
  generalize decide (wI birth ≤ 1073741824) = c4
  generalize decide (4 ≤ b) = c5
  generalize decide (b < n) = c6
  generalize decide (a ≠ b) = c7
  cases c1 <;> cases c2 <;> cases c3 <;> cases c4 <;> cases c5 <;> cases c6 <;> cases c7 <;> rfl
theorem right_one (a b n : Int) (birth : BitVec 32) (p : List (BitVec 8)) (a0 : 0 ≤ a) (a1 : a ≤ 60000) :
    right (of 3 a b birth p) n = (decide (4 ≤ a) && decide (a < n) && (decide (1 ≤ wI birth) && decide (wI birth ≤ 1073741824))) := by
  have hk : (of 3 a b birth p).kind = 3#8 := rfl
  have hn : node (of 3 a b birth p) = false := rfl
  have hb : (of 3 a b birth p).b = 0#16 := by show (if (3#8) = 3#8 then 0#16 else BitVec.ofInt 16 b) = _; rw [if_pos rfl]
  unfold right second wheres
  rw [if_pos hk, hn, if_neg (by decide), if_pos hk, born_of, hb]
  simp only [List.all_cons, List.all_nil, Bool.and_true, beq_self_eq_true]
  rw [show (of 3 a b birth p).a = BitVec.ofInt 16 a from rfl, place_int a n a0 a1]
  generalize decide (4 ≤ a) = c1
  generalize decide (a < n) = c2
  generalize decide (1 ≤ wI birth) = c3
  generalize decide (wI birth ≤ 1073741824) = c4
  cases c1 <;> cases c2 <;> cases c3 <;> cases c4 <;> rfl
end PtM
end Go.Proofs.YtnigflobmiiefaaDoor
