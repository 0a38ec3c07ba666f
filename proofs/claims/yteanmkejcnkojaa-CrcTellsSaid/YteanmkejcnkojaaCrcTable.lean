/- The walk of crc.Table. -/
import Derived.Test.YteanmkejcnkojaaRows
import Derived.Test.YteanmkejcnkojaaWords
import Derived.Test.YteanmkejcnkojaaMem
import Derived.Test.YteanmkejcnkojaaCrcMath
import Derived.Test.YteanmkejcnkojaaCrcWalk
import Derived.ProofKit
import Derived.OpenShut
import Derived.Lib.Hide
namespace Go.Proofs.Yteanmkejcnkojaa
open Go.ChangeShapes Go.WideShapes Go.ChangeAt Go.RowKit
attribute [local go_sem] bits_xor_u bits_and_u wrap_u64_bI wrap_u8_uI uI_shr1 uI_shr8
theorem step_at (c b : Int) (x : BitVec 64) (y : BitVec 8) (hx : c = uI x) (hy : b = bI y) (w : World) :
    Calls Try.prog 10 #[.int .u64 c, .int .u8 b] w fun e w' => e = .returned (.int .u64 (uI (CrcM.step x y))) ∧ w = w' := by
  subst hx hy; exact step_any x y w
def tz : Array Value := Array.replicate 256 (.int .u64 0)
theorem zero_tab (w : World) : (zeroValue 29).run Try.prog w = .ok (.agg tz) w := by kernel_rfl
def tv (k i : Nat) : Value := .int .u64 (uI (if i < k then CrcM.T (BitVec.ofNat 8 i) else 0#64))
def tarr (k : Nat) : Array Value := tab 256 (tv k)
theorem tarr_get (k j : Nat) (hj : j < 256) : (tarr k)[j]? = some (tv k j) := tab_get _ _ _ hj
theorem tarr_one : tarr 1 = tz := by
  unfold tarr tz
  rw [tab_const]
  refine tab_ext _ _ _ fun i _ => ?_
  unfold tv
  split
  · obtain rfl : i = 0 := by omega
    simp [CrcM.T, CrcM.step, CrcM.S_zero, uI]
  · simp [uI]
theorem tarr_set (k : Nat) : (tarr k).setIfInBounds k (.int .u64 (uI (CrcM.T (BitVec.ofNat 8 k)))) = tarr (k + 1) := by
  unfold tarr
  rw [tab_set]
  refine tab_ext _ _ _ fun i _ => ?_
  unfold tv
  by_cases h : i = k
  · subst h; simp
  · have : (i < k + 1) ↔ (i < k) := by omega
    simp [h, this]
/-- A byte without its lowest bit, and that bit. -/
theorem low_bit : ∀ k : Fin 256, 1 ≤ k.val → k.val &&& (k.val - 1) < k.val ∧ (k.val &&& (k.val - 1) ≠ 0 → k.val ^^^ (k.val &&& (k.val - 1)) < k.val ∧
    BitVec.ofNat 8 (k.val &&& (k.val - 1)) ^^^ BitVec.ofNat 8 (k.val ^^^ (k.val &&& (k.val - 1))) = BitVec.ofNat 8 k.val) := by decide +kernel
set_option maxHeartbeats 20000000 in
set_option maxRecDepth 10000 in
theorem table_any (w : World) :
    Calls Try.prog 12 #[] w fun e w' => e = .returned (.agg (tarr 256)) ∧ Below w.heap.size w w' := by
  have hz := fun w => zero_tab w
  go_enter Try.func12, Try.ntmps12
  go_wp2
  go_loopw [2] (fun i wr => ∃ k : Nat, 1 ≤ k ∧ k ≤ 256 ∧ i = .int .i64 k ∧ Row wr (w.heap.size + 1) 29 (tarr k) ∧ Row wr w.heap.size 29 tz ∧ Below w.heap.size w wr) (fun i _ => 256 - (intOf i).toNat)
  case atStart =>
    refine ⟨1, by omega, by omega, rfl, ?_, ?_, ?_⟩
    · rw [tarr_one]; have := Row.new (w.alloc (.cells tz 29)) 29 tz; simpa using this
    · exact (Row.new w 29 tz).alloc _
    · exact ((Below.refl _ w).alloc (Nat.le_refl _) _).alloc (by simp) _
  case round =>
    obtain ⟨k, hk1, hk, rfl, hr, hr0, hb⟩ := hrel
    by_cases hlt : k < 256
    · have hf := hr.frozen k
      have hck : wr.cell? ⟨w.heap.size + 1, k, none⟩ = some (tv k k) := by rw [hr.cell, tarr_get _ _ hlt]
      have hlb := low_bit ⟨k, hlt⟩ hk1
      simp only at hlb
      have hand : bits .and .i64 (k : Int) ((k : Int) - 1) = ((k &&& (k - 1) : Nat) : Int) := by
        rw [← i64_and_nat k (k - 1) (by omega) (by omega), show ((k - 1 : Nat) : Int) = (k : Int) - 1 by omega]
      have hxor : bits .xor .i64 (k : Int) ((k &&& (k - 1) : Nat) : Int) = ((k ^^^ (k &&& (k - 1)) : Nat) : Int) := by
        rw [← i64_xor_nat k _ (by omega) (by omega)]
      generalize hrr : k &&& (k - 1) = r at hlb hand hxor
      generalize hqq : k ^^^ r = q at hlb hxor
      have hT := tarr_set k
      have HH := Lib.hid (And.intro hrr (And.intro hqq (And.intro hT (And.intro hr (And.intro hr0 hlb.2))))); clear hrr hqq hT hr hr0
      obtain ⟨hlb1, hlb⟩ := hlb
      have HB := Lib.hid hlb; clear hlb
      by_cases hz0 : r = 0
      · have hz1 : ((r : Int) == 0) = true := by simp [hz0]
        have hT0 : Hid (CrcM.step 0#64 (BitVec.ofNat 8 k) = CrcM.T (BitVec.ofNat 8 k)) := rfl
        go_wp2_with (go_at_call 10; refine (step_at _ _ 0#64 (BitVec.ofNat 8 k) rfl (bI_ofNat k (by omega)).symm _).mono ?_; rintro e w' ⟨rfl, rfl⟩)
        go_roundw
        case rel =>
          obtain ⟨_, _, hT, hr, hr0, _⟩ := HH.out
          refine ⟨k + 1, by omega, by omega, by go_num, ?_, ?_, ?_⟩
          · rw [← hT, ← hT0.out]; exact hr.set k _
          · exact hr0.far (by simp) _
          · exact hb.setCell (by simp) _
        case measure => simp [intOf]; omega
      · have hz1 : ((r : Int) == 0) = false := by simp [hz0]
        obtain ⟨hq, hX⟩ := HB.out hz0
        obtain ⟨_, _, hT, hr, hr0, _⟩ := HH.out
        have hcr : wr.cell? ⟨w.heap.size + 1, r, none⟩ = some (.int .u64 (uI (CrcM.T (BitVec.ofNat 8 r)))) := by rw [hr.cell, tarr_get _ _ (by omega)]; simp [tv, hlb1]
        have hcq : wr.cell? ⟨w.heap.size + 1, q, none⟩ = some (.int .u64 (uI (CrcM.T (BitVec.ofNat 8 q)))) := by rw [hr.cell, tarr_get _ _ (by omega)]; simp [tv, hq]
        have HX : Hid (uI (CrcM.T (BitVec.ofNat 8 r) ^^^ CrcM.T (BitVec.ofNat 8 q)) = uI (CrcM.T (BitVec.ofNat 8 k))) := by rw [← CrcM.T_xor, hX]; exact rfl
        clear hX hT hr hr0 HB
        go_wp2
        go_region
        all_goals go_wp2
        all_goals go_roundw
        case rel =>
          obtain ⟨_, _, hT, hr, hr0, _⟩ := HH.out
          refine ⟨k + 1, by omega, by omega, by go_num, ?_, ?_, ?_⟩
          · rw [← hT, ← HX.out]; exact hr.set k _
          · exact hr0.far (by simp) _
          · exact (hb.setCell (by simp) _).drew
        case measure => simp [intOf]; omega
    · obtain rfl : k = 256 := by omega
      have hr' := hr
      unfold Row at hr'
      have hR := Lib.hid hr'; clear hr'
      go_wp2_with (first | (refine wpList_load_row rfl 29 (.tmp 1) rfl (w.heap.size + 1) (by exact rfl) 29 (tarr 256) (0, 0) _ (by exact hR.out) Try.underlying29 rfl (by kernel_rfl) ?_) | (refine wpList_store_row rfl 29 (.tmp 0) (.tmp 30) rfl w.heap.size (tarr 256) (by exact rfl) (by exact rfl) 29 tz (by exact hr0) (by kernel_rfl) rfl (tab_one _ _ fun _ _ => rfl) ?_) | (refine bodyPost_ret (results_cell_row (p := 0) (ty := 29) (by exact rfl) _ _ w.heap.size 29 (tarr 256) (0, 0) _ (by exact rfl) (by exact hr0.setRow _) Try.underlying29 rfl (by kernel_rfl)) rfl ?_; exact ⟨rfl, below_setRow hb (Nat.le_refl _) _⟩))
end Go.Proofs.Yteanmkejcnkojaa
