/- What layer 2 reckons: plain mathematics. No function of the program. -/
import Derived.Test.YtohidggifcnjgaaNum
namespace Go.Proofs.Ytohidggifcnjgaa
namespace PackM
/-- The width that a width counts as. -/
def wd (n : Int) : Nat := if n < 1 then 1 else if 8 < n then 8 else n.toNat
theorem wd_lo (n : Int) : 1 ≤ wd n := by unfold wd; split; omega; split <;> omega
theorem wd_hi (n : Int) : wd n ≤ 8 := by unfold wd; split; omega; split <;> omega
theorem wd_id (n : Int) (h1 : 1 ≤ n) (h2 : n ≤ 8) : (wd n : Int) = n := by unfold wd; rw [if_neg (by omega), if_neg (by omega)]; omega
/-- A number's bytes behind others. -/
def put (b : List (BitVec 8)) (n : BitVec 64) (w : Int) : List (BitVec 8) := b ++ Num.bytes n (wd w)
def takeN (b : List (BitVec 8)) (w : Int) : BitVec 64 := if b.length < wd w then 0#64 else Num.num (b.take (wd w))
def takeR (b : List (BitVec 8)) (w : Int) : List (BitVec 8) := if b.length < wd w then b else b.drop (wd w)
def takeE (b : List (BitVec 8)) (w : Int) : Int := if b.length < wd w then 20 else 0
/-- How many are put of s. -/
def putBytes (b s : List (BitVec 8)) : List (BitVec 8) := b ++ BitVec.ofNat 8 (min s.length 255) :: s.take 255
/-- How many bytes the first one says. -/
def many : List (BitVec 8) → Nat
  | [] => 0
  | x :: _ => x.toNat
def tbE (b : List (BitVec 8)) (most : Int) : Int := if b.length = 0 ∨ b.length - 1 < many b then 20 else if most < many b then 21 else 0
def tbS (b : List (BitVec 8)) (most : Int) : List (BitVec 8) := if tbE b most = 0 then (b.drop 1).take (many b) else []
def tbR (b : List (BitVec 8)) (most : Int) : List (BitVec 8) := if tbE b most = 0 then b.drop (1 + many b) else b
theorem many_lt (b : List (BitVec 8)) : many b < 256 := by cases b with | nil => exact Nat.zero_lt_succ _ | cons x l => exact x.isLt
/-- A page of bytes, noughts behind. -/
def fill (b : List (BitVec 8)) : List (BitVec 8) := if 256 < b.length then List.replicate 256 0#8 else b ++ List.replicate (256 - b.length) 0#8
def fillE (b : List (BitVec 8)) : Int := if 256 < b.length then 21 else 0
theorem fill_length (b : List (BitVec 8)) : (fill b).length = 256 := by
  unfold fill
  split
  · exact List.length_replicate
  · rw [List.length_append, List.length_replicate]; omega
def clean (b : List (BitVec 8)) : Bool := b.all (· == 0#8)
def halves (old now : List (BitVec 8)) : List (BitVec 8) := now.take 128 ++ old.drop 128
theorem halves_length (old now : List (BitVec 8)) (h1 : old.length = 256) (h2 : now.length = 256) : (halves old now).length = 256 := by unfold halves; rw [List.length_append, List.length_take, List.length_drop]; omega
end PackM
end Go.Proofs.Ytohidggifcnjgaa
