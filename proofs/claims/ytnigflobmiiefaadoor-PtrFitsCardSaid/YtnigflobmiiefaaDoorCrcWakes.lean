/- CrcWakes -/
import Derived.Test.YtnigflobmiiefaaDoorCrcSum
import Derived.Lib.SlBytesConst
/- 'wakes': what the document says of nine digits, and of nothing. -/
namespace Go.Proofs.YtnigflobmiiefaaDoor
open Go.RowKit
set_option linter.unusedVariables false
def digits : List (BitVec 8) := [49#8, 50#8, 51#8, 52#8, 53#8, 54#8, 55#8, 56#8, 57#8]
theorem sum_of_digits : CrcM.sum ([digits] : List (List (BitVec 8))).flatten = 11051210869376104954#64 := by decide +kernel
theorem sum_of_none : CrcM.sum ([] : List (List (BitVec 8))).flatten = 0#64 := by decide +kernel
theorem step_of_none : CrcM.step 0#64 0#8 = 0#64 := by decide +kernel
theorem sum_digits (v : Value) (w : World) (hp : Parts w.heap.size w v [digits]) :
    Calls Tryd.prog 43 #[v] w fun e w' => e = .returned (.int .u64 11051210869376104954) ∧ Below w.heap.size w w' :=
  (sum_any v [digits] w hp).mono fun e w' ⟨he, hb⟩ => ⟨by rw [he, sum_of_digits]; rfl, hb⟩
theorem sum_nothing (w : World) :
    Calls Tryd.prog 43 #[.slice none 0 0] w fun e w' => e = .returned (.int .u64 0) ∧ Below w.heap.size w w' :=
  (sum_any _ [] w ⟨[], rfl, Sl.nil _ _, fun i x l h => by simp at h⟩).mono fun e w' ⟨he, hb⟩ => ⟨by rw [he, sum_of_none]; rfl, hb⟩
theorem step_zero (w : World) : Calls Tryd.prog 53 #[.int .u64 0, .int .u8 0] w fun e w' => e = .returned (.int .u64 0) ∧ w = w' :=
  (step_any 0#64 0#8 w).mono fun e w' ⟨he, hw⟩ => ⟨by rw [he, step_of_none]; rfl, hw⟩
theorem tab_index (k : IntKind) (j : Nat) (hj : j < 256) (w : World) : (Instr.index 74 (.agg (tarr 256)) (.int k j)).run Tryd.prog w = .ok (.int .u64 (uI (CrcM.T (BitVec.ofNat 8 j)))) w := by
  obtain ⟨i, hi, _, h1, _⟩ := info_parts (show (Tryd.prog.info? 25).map (fun i => (i.zero, i.size, i.bytes)) = some (some (.int .u64 0), 1, 8) by kernel_rfl)
  exact run_index_arr _ 25 256 i _ _ k j _ Tryd.underlying74 hi h1 rfl Tryd.underlying25 hj (by rw [tarr_get _ _ hj]; simp [tv, hj]) w
end Go.Proofs.YtnigflobmiiefaaDoor
