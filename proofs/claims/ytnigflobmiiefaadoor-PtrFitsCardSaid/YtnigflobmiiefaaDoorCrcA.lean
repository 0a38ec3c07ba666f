/- CrcMath CrcWalk CrcTable CrcBytes -/
import Derived.Test.YtnigflobmiiefaaDoorRows
import Derived.Test.YtnigflobmiiefaaDoorBaseA
import Derived.ProofKit
import Derived.OpenShut
import Derived.Lib.Hide
import Derived.RangeFuncNested
import Derived.RangeFuncBound
import Derived.RangeFuncCalls
import Derived.RangeFuncLeaves
import Derived.OwnWalkIn
import Derived.TacticsInMore
import Derived.LoopNIn
import Derived.LoopIn
/- Plain mathematics of the sums: a step of the state by a byte as a linear map on rows of 64 bits. No program. -/
namespace Go.Proofs.YtnigflobmiiefaaDoor.CrcM
abbrev U := BitVec 64
def poly : U := 0xC96C5795D7870F42#64
def sh (c : U) : U := if c &&& 1#64 = 1#64 then (c >>> 1) ^^^ poly else c >>> 1
def S (c : U) : U := sh (sh (sh (sh (sh (sh (sh (sh c)))))))
def step (c : U) (b : BitVec 8) : U := S (c ^^^ b.setWidth 64)

theorem and1 (c : U) : c &&& 1#64 = if c.getLsbD 0 then 1#64 else 0#64 := by
  ext i hi
  by_cases h0 : i = 0
  · subst h0; cases h : c.getLsbD 0 <;> simp_all
  · simp [BitVec.getElem_one, h0]; split <;> simp [BitVec.getElem_one, h0]

theorem sh_eq (c : U) : sh c = (c >>> 1) ^^^ (if c.getLsbD 0 then poly else 0#64) := by
  unfold sh; rw [and1]
  cases h : c.getLsbD 0 <;> simp

theorem xor4 (a b c d : U) : (a ^^^ b) ^^^ (c ^^^ d) = (a ^^^ c) ^^^ (b ^^^ d) := by ac_rfl
theorem xor_cancel (a b c : U) (h : a ^^^ b = a ^^^ c) : b = c := by
  have : a ^^^ (a ^^^ b) = a ^^^ (a ^^^ c) := by rw [h]
  simpa [← BitVec.xor_assoc] using this

theorem sh_xor (x y : U) : sh (x ^^^ y) = sh x ^^^ sh y := by
  rw [sh_eq, sh_eq, sh_eq, BitVec.ushiftRight_xor_distrib, BitVec.getLsbD_xor, xor4]
  cases x.getLsbD 0 <;> cases y.getLsbD 0 <;> simp

theorem sh_zero : sh 0#64 = 0#64 := by decide
theorem S_xor (x y : U) : S (x ^^^ y) = S x ^^^ S y := by unfold S; simp only [sh_xor]
theorem S_zero : S 0#64 = 0#64 := by decide

theorem sh_inj0 (c : U) (h : sh c = 0#64) : c = 0#64 := by
  rw [sh_eq] at h
  cases h0 : c.getLsbD 0 with
  | true =>
    rw [h0] at h
    have h1 : c >>> 1 = poly := by
      have := BitVec.xor_eq_zero_iff.1 h
      simpa using this
    have h2 : (c >>> 1).getLsbD 63 = poly.getLsbD 63 := by rw [h1]
    simp [poly] at h2
  | false =>
    rw [h0] at h
    have h1 : c >>> 1 = 0#64 := by simpa using h
    ext i hi
    cases i with
    | zero => simpa using h0
    | succ i =>
      have h2 : (c >>> 1).getLsbD i = (0#64).getLsbD i := by rw [h1]
      simp at h2
      simp
      rw [Nat.add_comm] at h2
      simpa [BitVec.getLsbD_eq_getElem hi] using h2

theorem S_inj0 (c : U) (h : S c = 0#64) : c = 0#64 := by
  unfold S at h
  exact sh_inj0 _ (sh_inj0 _ (sh_inj0 _ (sh_inj0 _ (sh_inj0 _ (sh_inj0 _ (sh_inj0 _ (sh_inj0 _ h)))))))

theorem S_inj (c d : U) (h : S c = S d) : c = d := by
  have h1 : S (c ^^^ d) = 0#64 := by rw [S_xor, h]; simp
  exact BitVec.xor_eq_zero_iff.1 (S_inj0 _ h1)

theorem ext_xor (a b : BitVec 8) : (a ^^^ b).setWidth 64 = a.setWidth 64 ^^^ b.setWidth 64 := by
  ext i hi; simp
theorem ext_inj (a b : BitVec 8) (h : a.setWidth 64 = b.setWidth 64) : a = b := by
  have := congrArg (fun x : U => x.setWidth 8) h
  simpa using this

theorem step_xor (c d : U) (a b : BitVec 8) : step (c ^^^ d) (a ^^^ b) = step c a ^^^ step d b := by
  unfold step; rw [ext_xor, ← S_xor, xor4]
theorem step_inj_state (c d : U) (a : BitVec 8) : step c a = step d a ↔ c = d := by
  constructor
  · intro h
    have := S_inj _ _ h
    exact xor_cancel (a.setWidth 64) c d (by rw [BitVec.xor_comm, this, BitVec.xor_comm])
  · rintro rfl; rfl
theorem step_inj_byte (c : U) (a b : BitVec 8) : step c a = step c b ↔ a = b := by
  constructor
  · intro h
    exact ext_inj _ _ (xor_cancel c _ _ (S_inj _ _ h))
  · rintro rfl; rfl

/-! A state whose low byte is nought is only shifted. -/
theorem sh_even (c : U) (k : Nat) (hk : k < 8) : sh ((c >>> 8) <<< (k + 1)) = (c >>> 8) <<< k := by
  rw [sh_eq]
  have h0 : ((c >>> 8) <<< (k + 1)).getLsbD 0 = false := by simp
  rw [h0]
  ext i hi
  simp
  by_cases h : i < k
  · simp [h, show 1 + i < k + 1 by omega]
  · have e1 : 1 + i - (k + 1) = i - k := by omega
    simp [h, e1, show ¬ 1 + i < k + 1 by omega]
    by_cases h64 : 1 + i < 64
    · simp [h64]
    · have : i = 63 := by omega
      subst this
      simp
      exact BitVec.getLsbD_of_ge c _ (by omega)

theorem S_shl (c : U) : S ((c >>> 8) <<< 8) = c >>> 8 := by
  unfold S
  rw [sh_even c 7 (by omega), sh_even c 6 (by omega), sh_even c 5 (by omega), sh_even c 4 (by omega), sh_even c 3 (by omega), sh_even c 2 (by omega), sh_even c 1 (by omega), sh_even c 0 (by omega)]
  simp

theorem split8 (c : U) : c = (c >>> 8) <<< 8 ^^^ (c.setWidth 8).setWidth 64 := by
  ext i hi
  simp
  by_cases h : i < 8
  · simp [h, BitVec.getLsbD_eq_getElem hi]
  · simp [h, show 8 + (i - 8) = i by omega, BitVec.getLsbD_eq_getElem hi]

/-- The table's place for a byte. -/
def T (b : BitVec 8) : U := step 0#64 b
theorem step_table (c : U) (b : BitVec 8) : step c b = T (c.setWidth 8 ^^^ b) ^^^ (c >>> 8) := by
  have h : c ^^^ b.setWidth 64 = ((c >>> 8) <<< 8) ^^^ ((c.setWidth 8 ^^^ b).setWidth 64) := by
    rw [ext_xor, ← BitVec.xor_assoc, ← split8]
  unfold T step
  rw [h, S_xor, S_shl, BitVec.zero_xor, BitVec.xor_comm]
theorem T_xor (a b : BitVec 8) : T (a ^^^ b) = T a ^^^ T b := by
  unfold T
  rw [← step_xor]; simp

/-! ### Sums over rows of bytes -/
def run (c : U) (l : List (BitVec 8)) : U := l.foldl step c
def sum (l : List (BitVec 8)) : U := ~~~ run (BitVec.allOnes 64) l
theorem run_append (c : U) (l m : List (BitVec 8)) : run c (l ++ m) = run (run c l) m := List.foldl_append
theorem run_cons (c : U) (b : BitVec 8) (l : List (BitVec 8)) : run c (b :: l) = run (step c b) l := rfl
theorem run_nil (c : U) : run c [] = c := rfl
theorem run_snoc (c : U) (l : List (BitVec 8)) (b : BitVec 8) : run c (l ++ [b]) = step (run c l) b := by rw [run_append]; rfl

/-- Two rows of one length: the difference of the states is that of the differences. -/
theorem run_xor : ∀ (l m : List (BitVec 8)) (c d : U), l.length = m.length → run (c ^^^ d) (List.zipWith (· ^^^ ·) l m) = run c l ^^^ run d m
  | [], [], c, d, _ => rfl
  | a :: l, b :: m, c, d, h => by
    simp only [List.zipWith_cons_cons, run_cons]
    rw [step_xor]
    exact run_xor l m _ _ (by simpa using h)
  | [], _ :: _, _, _, h => by simp at h
  | _ :: _, [], _, _, h => by simp at h

theorem run_inj_state : ∀ (l : List (BitVec 8)) (c d : U), run c l = run d l → c = d
  | [], _, _, h => h
  | b :: l, c, d, h => (step_inj_state c d b).1 (run_inj_state l _ _ h)
theorem not_xor3 (x y z : U) : ~~~(x ^^^ y ^^^ z) = ~~~x ^^^ ~~~y ^^^ ~~~z := by
  ext i hi
  simp
theorem sum_three (a b c : List (BitVec 8)) (h1 : a.length = b.length) (h2 : a.length = c.length) : sum (List.zipWith (· ^^^ ·) (List.zipWith (· ^^^ ·) a b) c) = sum a ^^^ sum b ^^^ sum c := by
  unfold sum
  rw [← not_xor3, ← run_xor a b _ _ h1, ← run_xor _ c _ _ (by simp; omega)]
  congr 2
end Go.Proofs.YtnigflobmiiefaaDoor.CrcM
/- The walks of package crc's functions. -/
namespace Go.Proofs.YtnigflobmiiefaaDoor
open Go.ChangeShapes Go.WideShapes Go.ChangeAt Go.RowKit
attribute [local go_sem] bits_xor_u bits_and_u wrap_u64_bI wrap_u8_uI uI_shr1 uI_shr8
def shn : Nat → CrcM.U → CrcM.U
  | 0, c => c
  | k + 1, c => CrcM.sh (shn k c)
theorem bits_and_1 (x : BitVec 64) : bits .and .u64 (uI x) 1 = uI (x &&& 1#64) := bits_and_u x 1#64
theorem bits_xor_poly (x : BitVec 64) : bits .xor .u64 (uI x) 14514072000185962306 = uI (x ^^^ CrcM.poly) := bits_xor_u x CrcM.poly
theorem uI_eq_1 (x : BitVec 64) : (uI x == 1) = (x == 1#64) := uI_beq x 1#64
attribute [local go_sem] bits_and_1 bits_xor_poly uI_eq_1
/-- 'Step': the document's step, in every world. -/
theorem step_any (c : BitVec 64) (b : BitVec 8) (w : World) :
    Calls Tryd.prog 53 #[.int .u64 (uI c), .int .u8 (bI b)] w fun e w' => e = .returned (.int .u64 (uI (CrcM.step c b))) ∧ w = w' := by
  go_enter Tryd.func53, Tryd.ntmps53
  go_wp2
  go_loop [0, 10] (fun v i => ∃ k : Nat, k ≤ 8 ∧ i = .int .i64 k ∧ v = .int .u64 (uI (shn k (c ^^^ b.setWidth 64)))) (fun _ i => 8 - (intOf i).toNat)
  case atStart => exact ⟨0, Nat.zero_le _, rfl, rfl⟩
  case round =>
    obtain ⟨k, hk, rfl, rfl⟩ := hrel
    generalize hx : shn k (c ^^^ b.setWidth 64) = x
    have HX := Lib.hid hx; clear hx
    by_cases hlt : k < 8
    · by_cases ho : (x &&& 1#64 == 1#64) = true
      all_goals
        go_wp2
        go_round
        case rel => refine ⟨k + 1, by omega, by go_num, ?_⟩; rw [shn, HX.out, CrcM.sh]; simp_all
        case measure => simp [intOf]; omega
    · have hk8 : k = 8 := by omega
      go_wp2
      go_ret
      refine ⟨?_, rfl⟩
      rw [← HX.out, hk8]; rfl
/-- 'Step' of the document's own answer. -/
theorem rstep_any (c : BitVec 64) (b : BitVec 8) (w : World) :
    Calls Tryd.prog 48 #[.int .u64 (uI c), .int .u8 (bI b)] w fun e w' => e = .returned (.int .u64 (uI (CrcM.step c b))) ∧ w = w' := by
  go_enter Tryd.func48, Tryd.ntmps48
  go_wp2
  go_loop [0, 5] (fun v i => ∃ k : Nat, k ≤ 8 ∧ i = .int .i64 k ∧ v = .int .u64 (uI (shn k (c ^^^ b.setWidth 64)))) (fun _ i => 8 - (intOf i).toNat)
  case atStart => exact ⟨0, Nat.zero_le _, rfl, rfl⟩
  case round =>
    obtain ⟨k, hk, rfl, rfl⟩ := hrel
    generalize hx : shn k (c ^^^ b.setWidth 64) = x
    have HX := Lib.hid hx; clear hx
    by_cases hlt : k < 8
    · by_cases ho : (x &&& 1#64 == 1#64) = true
      all_goals
        go_wp2
        go_round
        case rel => refine ⟨k + 1, by omega, by go_num, ?_⟩; rw [shn, HX.out, CrcM.sh]; simp_all
        case measure => simp [intOf]; omega
    · have hk8 : k = 8 := by omega
      go_wp2
      go_ret
      refine ⟨?_, rfl⟩
      rw [← HX.out, hk8]; rfl
end Go.Proofs.YtnigflobmiiefaaDoor
/- The walk of crc.Table. -/
namespace Go.Proofs.YtnigflobmiiefaaDoor
open Go.ChangeShapes Go.WideShapes Go.ChangeAt Go.RowKit
attribute [local go_sem] bits_xor_u bits_and_u wrap_u64_bI wrap_u8_uI uI_shr1 uI_shr8
theorem step_at (c b : Int) (x : BitVec 64) (y : BitVec 8) (hx : c = uI x) (hy : b = bI y) (w : World) :
    Calls Tryd.prog 53 #[.int .u64 c, .int .u8 b] w fun e w' => e = .returned (.int .u64 (uI (CrcM.step x y))) ∧ w = w' := by
  subst hx hy; exact step_any x y w
def tz : Array Value := Array.replicate 256 (.int .u64 0)
theorem zero_tab (w : World) : (zeroValue 74).run Tryd.prog w = .ok (.agg tz) w := by kernel_rfl
def tv (k i : Nat) : Value := .int .u64 (uI (if i < k then CrcM.T (BitVec.ofNat 8 i) else 0#64))
def tarr (k : Nat) : Array Value := tab 256 (tv k)
theorem tarr_get (k j : Nat) (hj : j < 256) : (tarr k)[j]? = some (tv k j) := tab_get _ _ _ hj
theorem tarr_one : tarr 1 = tz := by
  unfold tarr tz
  rw [tab_const]
  refine tab_ext _ _ _ fun i _ => ?_
  unfold tv
  split
  · obtain rfl : i = 0 := by omega
    simp [CrcM.T, CrcM.step, CrcM.S_zero, uI]
  · simp [uI]
theorem tarr_set (k : Nat) : (tarr k).setIfInBounds k (.int .u64 (uI (CrcM.T (BitVec.ofNat 8 k)))) = tarr (k + 1) := by
  unfold tarr
  rw [tab_set]
  refine tab_ext _ _ _ fun i _ => ?_
  unfold tv
  by_cases h : i = k
  · subst h; simp
  · have : (i < k + 1) ↔ (i < k) := by omega
    simp [h, this]
/-- A byte without its lowest bit, and that bit. -/
theorem low_bit : ∀ k : Fin 256, 1 ≤ k.val → k.val &&& (k.val - 1) < k.val ∧ (k.val &&& (k.val - 1) ≠ 0 → k.val ^^^ (k.val &&& (k.val - 1)) < k.val ∧
    BitVec.ofNat 8 (k.val &&& (k.val - 1)) ^^^ BitVec.ofNat 8 (k.val ^^^ (k.val &&& (k.val - 1))) = BitVec.ofNat 8 k.val) := by decide +kernel
set_option maxHeartbeats 20000000 in
set_option maxRecDepth 10000 in
theorem table_any (w : World) :
    Calls Tryd.prog 49 #[] w fun e w' => e = .returned (.agg (tarr 256)) ∧ Below w.heap.size w w' := by
  have hz := fun w => zero_tab w
  go_enter Tryd.func49, Tryd.ntmps49
  go_wp2
  go_loopw [2] (fun i wr => ∃ k : Nat, 1 ≤ k ∧ k ≤ 256 ∧ i = .int .i64 k ∧ Row wr (w.heap.size + 1) 74 (tarr k) ∧ Row wr w.heap.size 74 tz ∧ Below w.heap.size w wr) (fun i _ => 256 - (intOf i).toNat)
  case atStart =>
    refine ⟨1, by omega, by omega, rfl, ?_, ?_, ?_⟩
    · rw [tarr_one]; have := Row.new (w.alloc (.cells tz 74)) 74 tz; simpa using this
    · exact (Row.new w 74 tz).alloc _
    · exact ((Below.refl _ w).alloc (Nat.le_refl _) _).alloc (by simp) _
  case round =>
    obtain ⟨k, hk1, hk, rfl, hr, hr0, hb⟩ := hrel
    by_cases hlt : k < 256
    · have hf := hr.frozen k
      have hck : wr.cell? ⟨w.heap.size + 1, k, none⟩ = some (tv k k) := by rw [hr.cell, tarr_get _ _ hlt]
      have hlb := low_bit ⟨k, hlt⟩ hk1
      simp only at hlb
      have hand : bits .and .i64 (k : Int) ((k : Int) - 1) = ((k &&& (k - 1) : Nat) : Int) := by
        rw [← i64_and_nat k (k - 1) (by omega) (by omega), show ((k - 1 : Nat) : Int) = (k : Int) - 1 by omega]
      have hxor : bits .xor .i64 (k : Int) ((k &&& (k - 1) : Nat) : Int) = ((k ^^^ (k &&& (k - 1)) : Nat) : Int) := by
        rw [← i64_xor_nat k _ (by omega) (by omega)]
      generalize hrr : k &&& (k - 1) = r at hlb hand hxor
      generalize hqq : k ^^^ r = q at hlb hxor
      have hT := tarr_set k
      have HH := Lib.hid (And.intro hrr (And.intro hqq (And.intro hT (And.intro hr (And.intro hr0 hlb.2))))); clear hrr hqq hT hr hr0
      obtain ⟨hlb1, hlb⟩ := hlb
      have HB := Lib.hid hlb; clear hlb
      by_cases hz0 : r = 0
      · have hz1 : ((r : Int) == 0) = true := by simp [hz0]
        have hT0 : Hid (CrcM.step 0#64 (BitVec.ofNat 8 k) = CrcM.T (BitVec.ofNat 8 k)) := rfl
        go_wp2_with (go_at_call 53; refine (step_at _ _ 0#64 (BitVec.ofNat 8 k) rfl (bI_ofNat k (by omega)).symm _).mono ?_; rintro e w' ⟨rfl, rfl⟩)
        go_roundw
        case rel =>
          obtain ⟨_, _, hT, hr, hr0, _⟩ := HH.out
          refine ⟨k + 1, by omega, by omega, by go_num, ?_, ?_, ?_⟩
          · rw [← hT, ← hT0.out]; exact hr.set k _
          · exact hr0.far (by simp) _
          · exact hb.setCell (by simp) _
        case measure => simp [intOf]; omega
      · have hz1 : ((r : Int) == 0) = false := by simp [hz0]
        obtain ⟨hq, hX⟩ := HB.out hz0
        obtain ⟨_, _, hT, hr, hr0, _⟩ := HH.out
        have hcr : wr.cell? ⟨w.heap.size + 1, r, none⟩ = some (.int .u64 (uI (CrcM.T (BitVec.ofNat 8 r)))) := by rw [hr.cell, tarr_get _ _ (by omega)]; simp [tv, hlb1]
        have hcq : wr.cell? ⟨w.heap.size + 1, q, none⟩ = some (.int .u64 (uI (CrcM.T (BitVec.ofNat 8 q)))) := by rw [hr.cell, tarr_get _ _ (by omega)]; simp [tv, hq]
        have HX : Hid (uI (CrcM.T (BitVec.ofNat 8 r) ^^^ CrcM.T (BitVec.ofNat 8 q)) = uI (CrcM.T (BitVec.ofNat 8 k))) := by rw [← CrcM.T_xor, hX]; exact rfl
        clear hX hT hr hr0 HB
        go_wp2
        go_region
        all_goals go_wp2
        all_goals go_roundw
        case rel =>
          obtain ⟨_, _, hT, hr, hr0, _⟩ := HH.out
          refine ⟨k + 1, by omega, by omega, by go_num, ?_, ?_, ?_⟩
          · rw [← hT, ← HX.out]; exact hr.set k _
          · exact hr0.far (by simp) _
          · exact (hb.setCell (by simp) _).drew
        case measure => simp [intOf]; omega
    · obtain rfl : k = 256 := by omega
      have hr' := hr
      unfold Row at hr'
      have hR := Lib.hid hr'; clear hr'
      go_wp2_with (first | (refine wpList_load_row rfl 74 (.tmp 1) rfl (w.heap.size + 1) (by exact rfl) 74 (tarr 256) (0, 0) _ (by exact hR.out) Tryd.underlying74 rfl (by kernel_rfl) ?_) | (refine wpList_store_row rfl 74 (.tmp 0) (.tmp 30) rfl w.heap.size (tarr 256) (by exact rfl) (by exact rfl) 74 tz (by exact hr0) (by kernel_rfl) rfl (tab_one _ _ fun _ _ => rfl) ?_) | (refine bodyPost_ret (results_cell_row (p := 0) (ty := 74) (by exact rfl) _ _ w.heap.size 74 (tarr 256) (0, 0) _ (by exact rfl) (by exact hr0.setRow _) Tryd.underlying74 rfl (by kernel_rfl)) rfl ?_; exact ⟨rfl, below_setRow hb (Nat.le_refl _) _⟩))
end Go.Proofs.YtnigflobmiiefaaDoor
/- The sum over parts: the iterator over their bytes, and its caller. -/
namespace Go.Proofs.YtnigflobmiiefaaDoor
open Go.RowKit
set_option linter.unusedVariables false
attribute [local go_sem] Oper.semAt_some
theorem flat_succ (ls : List (List (BitVec 8))) (i : Nat) (l : List (BitVec 8)) (h : ls[i]? = some l) : (ls.take (i + 1)).flatten = (ls.take i).flatten ++ l := by
  rw [List.take_add_one, h]; simp
theorem take_snoc' (l : List (BitVec 8)) (k : Nat) (b : BitVec 8) (h : l[k]? = some b) : l.take (k + 1) = l.take k ++ [b] := by
  rw [List.take_add_one, h]; simp
theorem pre_of (ls : List (List (BitVec 8))) (i k : Nat) (l : List (BitVec 8)) (h : ls[i]? = some l) : (ls.take i).flatten ++ l.take k <+: ls.flatten := by
  have e : ls.flatten = (ls.take i).flatten ++ (l ++ (ls.drop (i + 1)).flatten) := by
    conv => lhs; rw [← List.take_append_drop (i + 1) ls, List.flatten_append, flat_succ ls i l h]
    simp
  rw [e]
  refine List.prefix_append_right_inj _ |>.2 ?_
  exact (List.take_prefix k l).trans (List.prefix_append _ _)

set_option maxRecDepth 100000 in
set_option maxHeartbeats 2000000 in
theorem bytesOf1_in (n : Nat) (hn : 1 ≤ n) (l Bs n₀ : Nat) (pv : Value) (ls : List (List (BitVec 8))) (J Jx : List (BitVec 8) → World → Prop)
    (hY : ∀ pre x W, J pre W → pre.length < ls.flatten.length → YieldAt Fence.wide (n - 1) Tryd.prog l #[.int .u8 (bI x)] W fun e W' =>
      (e = .returned (.bool true) ∧ J (pre ++ [x]) W' ∧ Below n₀ W W') ∨ (e = .returned (.bool false) ∧ Jx (pre ++ [x]) W'))
    (W : World) (hBs : W.cell? ⟨Bs, 0, none⟩ = some pv) (hp : Parts n₀ W pv ls) (h0 : J [] W) :
    CallsIn Fence.wide n Tryd.prog 54 #[.func (.yield l) #[] #[], .pointer (some ⟨Bs, 0, none⟩)] W fun e W' => (∃ v, e = .returned v) ∧
      (J ls.flatten W' ∨ (∃ pre, pre <+: ls.flatten ∧ Jx pre W')) := by
  obtain ⟨vs, hvl, ⟨A, cap, rfl, hl1, hl2, hcs⟩, hbs⟩ := hp
  unfold maxLen at hl2
  have HN := Lib.hid hvl
  have hvi0 : ∀ i, i < vs.length → ∃ li, ls[i]? = some li := fun i h => ⟨_, List.getElem?_eq_getElem (by omega)⟩
  have HLI := Lib.hid hvi0
  clear hvl hvi0
  refine callsIn_of_wp Tryd.func54 rfl trivial ?_ rfl
  simp only [Tryd.ntmps54, List.size_toArray, List.length_cons, List.length_nil, Nat.reduceAdd, Nat.reduceSub, Array.replicate_succ, Array.replicate_zero, List.push_toArray, List.append_toArray, List.nil_append, List.cons_append]
  gi_wp2
  gi_loopw [9] (fun i wr => ∃ k : Nat, k ≤ vs.length ∧ i = .int .i64 k ∧ J (ls.take k).flatten wr ∧ Below n₀ W wr)
    (fun i _ => vs.length - (intOf i).toNat)
  case atStart => exact ⟨0, Nat.zero_le _, rfl, h0, Below.refl _ _⟩
  case round =>
    obtain ⟨i, hi, rfl, hJs, hnx⟩ := hrel
    by_cases hlt : i < vs.length
    · obtain ⟨b, o, rfl, hb, hcell⟩ := hcs (by omega)
      have hvi : vs[i]? = some vs[i] := List.getElem?_eq_getElem hlt
      obtain ⟨li, hli⟩ := HLI.out i hlt
      have hcx : wr.cell? ⟨b, o + i, none⟩ = some vs[i] := (hnx.cell (p := ⟨b, o + i, none⟩) hb).trans (hcell i _ hvi)
      obtain ⟨A', cap', hv', hl1', hl2', hcs'⟩ := hbs i _ _ hvi hli
      unfold maxLen at hl2'
      rw [hv'] at hcx
      have HV := Lib.hid hv'; clear hv'
      have HF := flat_succ ls i _ hli
      have HP := fun k => pre_of ls i k _ hli
      have HLen := fun k => (HP k).length_le
      clear hli hvi
      have hd : decide (i < vs.length) = true := by simpa using hlt
      simp only [List.length_map] at hcx hl1' hcs'
      have HF := Lib.hid HF
      have HP := Lib.hid HP
      have HLen := Lib.hid HLen
      have HC := Lib.hid hcs'
      rename_i HF0 HP0 HLen0
      clear HF0 HP0 HLen0 hcs' hbs hcell hcs
      gi_wp2
      gi_loopw [15] (fun i' wr => ∃ k : Nat, k ≤ li.length ∧ i' = .int .i64 k ∧ J ((ls.take i).flatten ++ li.take k) wr ∧ Below n₀ W wr)
        (fun i' _ => li.length - (intOf i').toNat)
      case atStart => exact ⟨0, Nat.zero_le _, rfl, by simpa using hJs, hnx⟩
      case round =>
        obtain ⟨k, hk, rfl, hJk, hnk⟩ := hrel
        by_cases hlk : k < li.length
        · obtain ⟨b', o', rfl, hb', hcell'⟩ := HC.out (by omega)
          have hck := (hnk.cell (p := ⟨b', o' + k, none⟩) hb').trans (hcell' k (byteV li[k]) (by simp [hlk]))
          have HT := Lib.hid (take_snoc' li k li[k] (List.getElem?_eq_getElem hlk))
          obtain ⟨fn, tmps, assign, body, hy, hR⟩ := hY _ li[k] _ hJk (by have := HLen.out (k + 1); simp at this ⊢; omega)
          generalize li[k] = x at *
          unfold byteV at hck
          clear hcell'
          gi_wp2
          refine hR.mono ?_
          rintro e W3 (⟨rfl, hJ3, hk3⟩ | ⟨rfl, hJx3⟩)
          · gi_wp2
            go_roundw
            case rel => exact ⟨k + 1, by omega, by simp, by rw [HT.out, ← List.append_assoc]; exact hJ3, hnk.trans hk3⟩
            case measure => simp [intOf]; omega
          · gi_wp2
            refine bodyPost_ret (results_none rfl _ _ _) rfl ?_
            exact ⟨⟨_, rfl⟩, .inr ⟨_, by have := HP.out (k + 1); rw [HT.out, ← List.append_assoc] at this; exact this, hJx3⟩⟩
        · obtain rfl : k = li.length := by omega
          gi_wp2
          go_roundw
          case rel => exact ⟨i + 1, by omega, by simp, by rw [HF.out]; simpa using hJk, hnk⟩
          case measure => simp [intOf]; omega
    · obtain rfl : i = vs.length := by omega
      gi_wp2
      go_end0
      exact ⟨⟨_, rfl⟩, .inl (by rw [HN.out, List.take_length] at hJs; exact hJs)⟩

/-- 'bytesOf': the parts lie in a box of their own; the function value has captured it. -/
theorem bytesOf_any (A : Option Addr) (len cap : Nat) (w : World) :
    Calls Tryd.prog 50 #[.slice A len cap] w fun e w' => e = .returned (.func (.func 54) #[] #[.pointer (some ⟨w.heap.size, 0, none⟩)]) ∧ w.alloc (.cells #[.slice A len cap] 72) = w' := by
  go_enter Tryd.func50, Tryd.ntmps50
  go_wp2
  go_ret
  exact ⟨rfl, rfl⟩
/-- The bytes of all parts, in order, as long as the rounds keep what lies below n₀. -/
theorem bytesOf_stops (n : Nat) (hn : 1 ≤ n) (Bs n₀ : Nat) (pv : Value) (ls : List (List (BitVec 8))) (w : World) (hBs : Bs < w.heap.size) (hn₀ : n₀ ≤ w.heap.size)
    (hc : w.cell? ⟨Bs, 0, none⟩ = some pv) (hp : Parts n₀ w pv ls) :
    SeqStopsK Fence.wide n Tryd.prog 54 #[.pointer (some ⟨Bs, 0, none⟩)] (fun x : BitVec 8 => #[Value.int .u8 (bI x)]) (Below n₀) (fun ys => ys = ls.flatten) (fun pre => pre <+: ls.flatten) ls.flatten.length w := fun l J Jx W hW _ _ hY h0 => by
  have hc' := (hW.cell (p := ⟨Bs, 0, none⟩) hBs).trans hc
  refine (bytesOf1_in n hn l Bs n₀ pv ls J Jx hY W hc' (hp.below (hW.mono hn₀)) h0).mono ?_
  rintro e W' ⟨he, h | ⟨pre, hpre, hj⟩⟩
  · exact ⟨he, .inl ⟨_, rfl, h⟩⟩
  · exact ⟨he, .inr ⟨_, hpre, hj⟩⟩
end Go.Proofs.YtnigflobmiiefaaDoor
