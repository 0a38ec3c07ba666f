/- CrcMath CrcWalk CrcTable CrcBytes -/
import Derived.Test.YtjcommodiihcdaaDoorRows
import Derived.Test.YtjcommodiihcdaaDoorBaseA
import Derived.ProofKit
import Derived.OpenShut
import Derived.Lib.Hide
import Derived.RangeFuncNested
import Derived.RangeFuncBound
import Derived.RangeFuncCalls
import Derived.RangeFuncLeaves
import Derived.OwnWalkIn
import Derived.TacticsInMore
import Derived.LoopNIn
import Derived.LoopIn
/- Plain mathematics of the sums: a step of the state by a byte as a linear map on rows of 64 bits. No program. -/
namespace Go.Proofs.YtjcommodiihcdaaDoor.CrcM
abbrev U := BitVec 64
def poly : U := 0xC96C5795D7870F42#64
def sh (c : U) : U := if c &&& 1#64 = 1#64 then (c >>> 1) ^^^ poly else c >>> 1
def S (c : U) : U := sh (sh (sh (sh (sh (sh (sh (sh c)))))))
def step (c : U) (b : BitVec 8) : U := S (c ^^^ b.setWidth 64)

theorem and1 (c : U) : c &&& 1#64 = if c.getLsbD 0 then 1#64 else 0#64 := by
  ext i hi
  by_cases h0 : i = 0
  · subst h0; cases h : c.getLsbD 0 <;> simp_all
  · simp [BitVec.getElem_one, h0]; split <;> simp [BitVec.getElem_one, h0]

theorem sh_eq (c : U) : sh c = (c >>> 1) ^^^ (if c.getLsbD 0 then poly else 0#64) := by
  unfold sh; rw [and1]
  cases h : c.getLsbD 0 <;> simp

theorem xor4 (a b c d : U) : (a ^^^ b) ^^^ (c ^^^ d) = (a ^^^ c) ^^^ (b ^^^ d) := by ac_rfl
theorem xor_cancel (a b c : U) (h : a ^^^ b = a ^^^ c) : b = c := by
  have : a ^^^ (a ^^^ b) = a ^^^ (a ^^^ c) := by rw [h]
  simpa [← BitVec.xor_assoc] using this

theorem sh_xor (x y : U) : sh (x ^^^ y) = sh x ^^^ sh y := by
  rw [sh_eq, sh_eq, sh_eq, BitVec.ushiftRight_xor_distrib, BitVec.getLsbD_xor, xor4]
  cases x.getLsbD 0 <;> cases y.getLsbD 0 <;> simp

theorem sh_zero : sh 0#64 = 0#64 := by decide
theorem S_xor (x y : U) : S (x ^^^ y) = S x ^^^ S y := by unfold S; simp only [sh_xor]
theorem S_zero : S 0#64 = 0#64 := by decide

theorem sh_inj0 (c : U) (h : sh c = 0#64) : c = 0#64 := by
  rw [sh_eq] at h
  cases h0 : c.getLsbD 0 with
  | true =>
    rw [h0] at h
    have h1 : c >>> 1 = poly := by
      have := BitVec.xor_eq_zero_iff.1 h
      simpa using this
    have h2 : (c >>> 1).getLsbD 63 = poly.getLsbD 63 := by rw [h1]
    simp [poly] at h2
  | false =>
    rw [h0] at h
    have h1 : c >>> 1 = 0#64 := by simpa using h
    ext i hi
    cases i with
    | zero => simpa using h0
    | succ i =>
      have h2 : (c >>> 1).getLsbD i = (0#64).getLsbD i := by rw [h1]
      simp at h2
      simp
      rw [Nat.add_comm] at h2
      simpa [BitVec.getLsbD_eq_getElem hi] using h2

theorem S_inj0 (c : U) (h : S c = 0#64) : c = 0#64 := by
  unfold S at h
  exact sh_inj0 _ (sh_inj0 _ (sh_inj0 _ (sh_inj0 _ (sh_inj0 _ (sh_inj0 _ (sh_inj0 _ (sh_inj0 _ h)))))))

theorem S_inj (c d : U) (h : S c = S d) : c = d := by
  have h1 : S (c ^^^ d) = 0#64 := by rw [S_xor, h]; simp
  exact BitVec.xor_eq_zero_iff.1 (S_inj0 _ h1)

theorem ext_xor (a b : BitVec 8) : (a ^^^ b).setWidth 64 = a.setWidth 64 ^^^ b.setWidth 64 := by
  ext i hi; simp
theorem ext_inj (a b : BitVec 8) (h : a.setWidth 64 = b.setWidth 64) : a = b := by
  have := congrArg (fun x : U => x.setWidth 8) h
  simpa using this

theorem step_xor (c d : U) (a b : BitVec 8) : step (c ^^^ d) (a ^^^ b) = step c a ^^^ step d b := by
  unfold step; rw [ext_xor, ← S_xor, xor4]
theorem step_inj_state (c d : U) (a : BitVec 8) : step c a = step d a ↔ c = d := by
  constructor
  · intro h
    have := S_inj _ _ h
    exact xor_cancel (a.setWidth 64) c d (by rw [BitVec.xor_comm, this, BitVec.xor_comm])
  · rintro rfl; rfl
theorem step_inj_byte (c : U) (a b : BitVec 8) : step c a = step c b ↔ a = b := by
  constructor
  · intro h
    exact ext_inj _ _ (xor_cancel c _ _ (S_inj _ _ h))
  · rintro rfl; rfl

/-! A state whose low byte is nought is only shifted. -/
theorem sh_even (c : U) (k : Nat) (hk : k < 8) : sh ((c >>> 8) <<< (k + 1)) = (c >>> 8) <<< k := by
  rw [sh_eq]
  have h0 : ((c >>> 8) <<< (k + 1)).getLsbD 0 = false := by simp
  rw [h0]
  ext i hi
  simp
  by_cases h : i < k
  · simp [h, show 1 + i < k + 1 by omega]
  · have e1 : 1 + i - (k + 1) = i - k := by omega
    simp [h, e1, show ¬ 1 + i < k + 1 by omega]
    by_cases h64 : 1 + i < 64
    · simp [h64]
    · have : i = 63 := by omega
      subst this
      simp
      exact BitVec.getLsbD_of_ge c _ (by omega)

theorem S_shl (c : U) : S ((c >>> 8) <<< 8) = c >>> 8 := by
  unfold S
  rw [sh_even c 7 (by omega), sh_even c 6 (by omega), sh_even c 5 (by omega), sh_even c 4 (by omega), sh_even c 3 (by omega), sh_even c 2 (by omega), sh_even c 1 (by omega), sh_even c 0 (by omega)]
  simp

theorem split8 (c : U) : c = (c >>> 8) <<< 8 ^^^ (c.setWidth 8).setWidth 64 := by
  ext i hi
  simp
  by_cases h : i < 8
  · simp [h, BitVec.getLsbD_eq_getElem hi]
  · simp [h, show 8 + (i - 8) = i by omega, BitVec.getLsbD_eq_getElem hi]

/-- The table's place for a byte. -/
def T (b : BitVec 8) : U := step 0#64 b
theorem step_table (c : U) (b : BitVec 8) : step c b = T (c.setWidth 8 ^^^ b) ^^^ (c >>> 8) := by
  have h : c ^^^ b.setWidth 64 = ((c >>> 8) <<< 8) ^^^ ((c.setWidth 8 ^^^ b).setWidth 64) := by
    rw [ext_xor, ← BitVec.xor_assoc, ← split8]
  unfold T step
  rw [h, S_xor, S_shl, BitVec.zero_xor, BitVec.xor_comm]
theorem T_xor (a b : BitVec 8) : T (a ^^^ b) = T a ^^^ T b := by
  unfold T
  rw [← step_xor]; simp

/-! ### Sums over rows of bytes -/
def run (c : U) (l : List (BitVec 8)) : U := l.foldl step c
def sum (l : List (BitVec 8)) : U := ~~~ run (BitVec.allOnes 64) l
theorem run_append (c : U) (l m : List (BitVec 8)) : run c (l ++ m) = run (run c l) m := List.foldl_append
theorem run_cons (c : U) (b : BitVec 8) (l : List (BitVec 8)) : run c (b :: l) = run (step c b) l := rfl
theorem run_nil (c : U) : run c [] = c := rfl
theorem run_snoc (c : U) (l : List (BitVec 8)) (b : BitVec 8) : run c (l ++ [b]) = step (run c l) b := by rw [run_append]; rfl

/-- Two rows of one length: the difference of the states is that of the differences. -/
theorem run_xor : ∀ (l m : List (BitVec 8)) (c d : U), l.length = m.length → run (c ^^^ d) (List.zipWith (· ^^^ ·) l m) = run c l ^^^ run d m
  | [], [], c, d, _ => rfl
  | a :: l, b :: m, c, d, h => by
    simp only [List.zipWith_cons_cons, run_cons]
    rw [step_xor]
    exact run_xor l m _ _ (by simpa using h)
  | [], _ :: _, _, _, h => by simp at h
  | _ :: _, [], _, _, h => by simp at h

theorem run_inj_state : ∀ (l : List (BitVec 8)) (c d : U), run c l = run d l → c = d
  | [], _, _, h => h
  | b :: l, c, d, h => (step_inj_state c d b).1 (run_inj_state l _ _ h)
theorem not_xor3 (x y z : U) : ~~~(x ^^^ y ^^^ z) = ~~~x ^^^ ~~~y ^^^ ~~~z := by
  ext i hi
  simp
theorem sum_three (a b c : List (BitVec 8)) (h1 : a.length = b.length) (h2 : a.length = c.length) : sum (List.zipWith (· ^^^ ·) (List.zipWith (· ^^^ ·) a b) c) = sum a ^^^ sum b ^^^ sum c := by
  unfold sum
  rw [← not_xor3, ← run_xor a b _ _ h1, ← run_xor _ c _ _ (by simp; omega)]
  congr 2
end Go.Proofs.YtjcommodiihcdaaDoor.CrcM
/- The walks of package crc's functions. -/
namespace Go.Proofs.YtjcommodiihcdaaDoor
open Go.ChangeShapes Go.WideShapes Go.ChangeAt Go.RowKit
attribute [local go_sem] bits_xor_u bits_and_u wrap_u64_bI wrap_u8_uI uI_shr1 uI_shr8
def shn : Nat → CrcM.U → CrcM.U
  | 0, c => c
  | k + 1, c => CrcM.sh (shn k c)
theorem bits_and_1 (x : BitVec 64) : bits .and .u64 (uI x) 1 = uI (x &&& 1#64) := bits_and_u x 1#64
theorem bits_xor_poly (x : BitVec 64) : bits .xor .u64 (uI x) 14514072000185962306 = uI (x ^^^ CrcM.poly) := bits_xor_u x CrcM.poly
theorem uI_eq_1 (x : BitVec 64) : (uI x == 1) = (x == 1#64) := uI_beq x 1#64
attribute [local go_sem] bits_and_1 bits_xor_poly uI_eq_1
end Go.Proofs.YtjcommodiihcdaaDoor
/- The walk of crc.Table. -/
namespace Go.Proofs.YtjcommodiihcdaaDoor
open Go.ChangeShapes Go.WideShapes Go.ChangeAt Go.RowKit
attribute [local go_sem] bits_xor_u bits_and_u wrap_u64_bI wrap_u8_uI uI_shr1 uI_shr8
def tz : Array Value := Array.replicate 256 (.int .u64 0)
def tv (k i : Nat) : Value := .int .u64 (uI (if i < k then CrcM.T (BitVec.ofNat 8 i) else 0#64))
def tarr (k : Nat) : Array Value := tab 256 (tv k)
theorem tarr_get (k j : Nat) (hj : j < 256) : (tarr k)[j]? = some (tv k j) := tab_get _ _ _ hj
theorem tarr_one : tarr 1 = tz := by
  unfold tarr tz
  rw [tab_const]
  refine tab_ext _ _ _ fun i _ => ?_
  unfold tv
  split
  · obtain rfl : i = 0 := by omega
    simp [CrcM.T, CrcM.step, CrcM.S_zero, uI]
  · simp [uI]
theorem tarr_set (k : Nat) : (tarr k).setIfInBounds k (.int .u64 (uI (CrcM.T (BitVec.ofNat 8 k)))) = tarr (k + 1) := by
  unfold tarr
  rw [tab_set]
  refine tab_ext _ _ _ fun i _ => ?_
  unfold tv
  by_cases h : i = k
  · subst h; simp
  · have : (i < k + 1) ↔ (i < k) := by omega
    simp [h, this]
/-- A byte without its lowest bit, and that bit. -/
theorem low_bit : ∀ k : Fin 256, 1 ≤ k.val → k.val &&& (k.val - 1) < k.val ∧ (k.val &&& (k.val - 1) ≠ 0 → k.val ^^^ (k.val &&& (k.val - 1)) < k.val ∧
    BitVec.ofNat 8 (k.val &&& (k.val - 1)) ^^^ BitVec.ofNat 8 (k.val ^^^ (k.val &&& (k.val - 1))) = BitVec.ofNat 8 k.val) := by decide +kernel
end Go.Proofs.YtjcommodiihcdaaDoor
/- The sum over parts: the iterator over their bytes, and its caller. -/
namespace Go.Proofs.YtjcommodiihcdaaDoor
open Go.RowKit
set_option linter.unusedVariables false
attribute [local go_sem] Oper.semAt_some
theorem flat_succ (ls : List (List (BitVec 8))) (i : Nat) (l : List (BitVec 8)) (h : ls[i]? = some l) : (ls.take (i + 1)).flatten = (ls.take i).flatten ++ l := by
  rw [List.take_add_one, h]; simp
theorem take_snoc' (l : List (BitVec 8)) (k : Nat) (b : BitVec 8) (h : l[k]? = some b) : l.take (k + 1) = l.take k ++ [b] := by
  rw [List.take_add_one, h]; simp
theorem pre_of (ls : List (List (BitVec 8))) (i k : Nat) (l : List (BitVec 8)) (h : ls[i]? = some l) : (ls.take i).flatten ++ l.take k <+: ls.flatten := by
  have e : ls.flatten = (ls.take i).flatten ++ (l ++ (ls.drop (i + 1)).flatten) := by
    conv => lhs; rw [← List.take_append_drop (i + 1) ls, List.flatten_append, flat_succ ls i l h]
    simp
  rw [e]
  refine List.prefix_append_right_inj _ |>.2 ?_
  exact (List.take_prefix k l).trans (List.prefix_append _ _)

end Go.Proofs.YtjcommodiihcdaaDoor
