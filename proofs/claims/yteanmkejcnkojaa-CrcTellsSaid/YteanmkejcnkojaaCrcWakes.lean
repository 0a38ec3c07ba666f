/- 'wakes': what the document says of nine digits, and of nothing. -/
import Derived.Test.YteanmkejcnkojaaCrcSum
import Derived.Lib.SlBytesConst
namespace Go.Proofs.Yteanmkejcnkojaa
open Go.RowKit
set_option linter.unusedVariables false
def digits : List (BitVec 8) := [49#8, 50#8, 51#8, 52#8, 53#8, 54#8, 55#8, 56#8, 57#8]
theorem sum_of_digits : CrcM.sum ([digits] : List (List (BitVec 8))).flatten = 11051210869376104954#64 := by decide +kernel
theorem sum_of_none : CrcM.sum ([] : List (List (BitVec 8))).flatten = 0#64 := by decide +kernel
theorem step_of_none : CrcM.step 0#64 0#8 = 0#64 := by decide +kernel
theorem sum_digits (v : Value) (w : World) (hp : Parts w.heap.size w v [digits]) :
    Calls Try.prog 14 #[v] w fun e w' => e = .returned (.int .u64 11051210869376104954) ∧ Below w.heap.size w w' :=
  (sum_any v [digits] w hp).mono fun e w' ⟨he, hb⟩ => ⟨by rw [he, sum_of_digits]; rfl, hb⟩
theorem sum_nothing (w : World) :
    Calls Try.prog 14 #[.slice none 0 0] w fun e w' => e = .returned (.int .u64 0) ∧ Below w.heap.size w w' :=
  (sum_any _ [] w ⟨[], rfl, Sl.nil _ _, fun i x l h => by simp at h⟩).mono fun e w' ⟨he, hb⟩ => ⟨by rw [he, sum_of_none]; rfl, hb⟩
theorem step_zero (w : World) : Calls Try.prog 10 #[.int .u64 0, .int .u8 0] w fun e w' => e = .returned (.int .u64 0) ∧ w = w' :=
  (step_any 0#64 0#8 w).mono fun e w' ⟨he, hw⟩ => ⟨by rw [he, step_of_none]; rfl, hw⟩
theorem tab_index (k : IntKind) (j : Nat) (hj : j < 256) (w : World) : (Instr.index 29 (.agg (tarr 256)) (.int k j)).run Try.prog w = .ok (.int .u64 (uI (CrcM.T (BitVec.ofNat 8 j)))) w := by
  obtain ⟨i, hi, _, h1, _⟩ := info_parts (show (Try.prog.info? 22).map (fun i => (i.zero, i.size, i.bytes)) = some (some (.int .u64 0), 1, 8) by kernel_rfl)
  exact run_index_arr _ 22 256 i _ _ k j _ Try.underlying29 hi h1 rfl Try.underlying22 hj (by rw [tarr_get _ _ hj]; simp [tv, hj]) w
set_option maxRecDepth 100000 in
theorem wakes_any (w : World) :
    Calls Try.prog 9 #[] w fun e w' => e = .returned (.bool true) ∧ Below w.heap.size w w' := by
  go_enter Try.func9, Try.ntmps9
  have kc := fun (w : World) (C : Array Value) (n c : Nat) => Lib.run_convert_bytes_const (P := Try.prog) w 34 5 C n c Try.underlying34 Try.underlying5
  have htab : ∀ w, (Instr.index 29 (.agg (tarr 256)) (.int .i64 128)).run Try.prog w = .ok (.int .u64 14514072000185962306) w := fun w => by
    rw [show (128 : Int) = ((128 : Nat) : Int) from rfl, tab_index .i64 128 (by decide) w, show CrcM.T (BitVec.ofNat 8 128) = 14514072000185962306#64 from by decide +kernel]
    rfl
  have hd : digits.map byteV = #[Value.int IntKind.u8 49, Value.int IntKind.u8 50, Value.int IntKind.u8 51, Value.int IntKind.u8 52, Value.int IntKind.u8 53, Value.int IntKind.u8 54, Value.int IntKind.u8 55, Value.int IntKind.u8 56, Value.int IntKind.u8 57].toList := rfl
  have HD := Lib.hid hd; clear hd
  go_wp2_with fail
  clear kc
  generalize hcs : #[Value.int IntKind.u8 49, Value.int IntKind.u8 50, Value.int IntKind.u8 51, Value.int IntKind.u8 52, Value.int IntKind.u8 53, Value.int IntKind.u8 54, Value.int IntKind.u8 55, Value.int IntKind.u8 56, Value.int IntKind.u8 57] = cs at *
  have HC := Lib.hid hcs; clear hcs
  have hp : Parts ((w.alloc (.cells cs 5 (9, 10))).alloc (.cells #[Value.slice (some ⟨w.heap.size, 0, none⟩) 9 9] 34)).heap.size ((w.alloc (.cells cs 5 (9, 10))).alloc (.cells #[Value.slice (some ⟨w.heap.size, 0, none⟩) 9 9] 34))
      (.slice (some ⟨w.heap.size + 1, 0, none⟩) 1 1) [digits] := by
    have h3 := Sl.of_row (B := w.heap.size + 2) (heap_alloc2_old w (.cells cs 5 (9, 10)) (.cells #[Value.slice (some ⟨w.heap.size, 0, none⟩) 9 9] 34)) (by omega) 9 (digits.map byteV) (HD.out.trans (by rw [← HC.out])) (by decide) (by decide)
    rw [show ((w.alloc (.cells cs 5 (9, 10))).alloc (.cells #[Value.slice (some ⟨w.heap.size, 0, none⟩) 9 9] 34)).heap.size = w.heap.size + 2 by simp]
    exact Parts.one (v := .slice (some ⟨w.heap.size, 0, none⟩) 9 9) (by omega) (by simp) (Nat.le_refl _) (by decide) h3
  have hb0 : Below w.heap.size w ((w.alloc (.cells cs 5 (9, 10))).alloc (.cells #[Value.slice (some ⟨w.heap.size, 0, none⟩) 9 9] 34)) := ((Below.refl _ w).alloc (Nat.le_refl _) _).alloc (by simp) _
  refine (sum_digits _ _ hp).mono ?_
  rintro e w1 ⟨rfl, hb1⟩
  have hB1 := hb0.trans (hb1.mono hb0.size)
  clear hp hb0 hb1
  go_wp2_with (first
    | (go_at_call 14; refine (sum_nothing _).mono ?_; rintro e w2 ⟨rfl, hb2⟩)
    | (go_at_call 10; refine (step_zero _).mono ?_; rintro e w3 ⟨rfl, rfl⟩)
    | (go_at_call 12; refine (table_any _).mono ?_; rintro e w4 ⟨rfl, hb4⟩))
  go_ret
  exact ⟨rfl, hB1.trans ((hb2.mono hB1.size).trans (hb4.mono (Nat.le_trans hB1.size hb2.size)))⟩
end Go.Proofs.Yteanmkejcnkojaa
