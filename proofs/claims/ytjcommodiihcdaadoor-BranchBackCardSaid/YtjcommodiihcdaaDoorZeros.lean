/- Zeros -/
import Derived.Test.YtjcommodiihcdaaDoorApp
/- make of noughts, as a row of the call's own. No function of the program. -/
namespace Go.Proofs.YtjcommodiihcdaaDoor
open Go.RowKit
theorem madeCells_u8 (n : Nat) : (madeCells #[.int .u8 0] n).toList = (List.replicate n 0#8).map byteV := by
  rw [List.map_replicate]
  apply List.ext_getElem
  · simp [size_madeCells]
  · intro i h1 h2
    simp [madeCells, byteV, bI, Nat.mod_one]
theorem wpList_make_zeros {w : World} {ops : Array Oper} {rest : List Oper} {o : Oper} {a : Act} {Q : Exit → Act → World → Prop} (hgd : o.guard = none) (l c : Operand) (ho : o.op = Op.makeSlice 40 l c) (base m : Nat) (C : Int)
    (hl : a.eval l = .int .i64 C) (hc : a.eval c = .int .i64 C) (hC : C = (m : Int)) (hm : m ≤ 1000000) (hb : base ≤ w.heap.size)
    (h : ∀ w', Mine base w' (.slice (some ⟨w.heap.size, 0, none⟩) m m) (List.replicate m 0#8) → Grows w w' → wpList Tryd.prog ops Q rest (a.put o.dst (.slice (some ⟨w.heap.size, 0, none⟩) m m)) w') :
    wpList Tryd.prog ops Q (o :: rest) a w := by
  obtain ⟨i0, hi, hz0, hz1, hz2⟩ := info_u8
  refine wpList_make_full w hgd l c 40 ho base 5 i0 (.int .u8 0) 1 Tryd.underlying40 hi hz0 hz1 .i64 .i64 C C m hl hc hC hC (by rw [hz2]; omega) (by unfold maxLen; omega) hb fun w' h1 h2 => ?_
  refine h w' ?_ ((Below.refl _ w).grown h2 (Nat.le_refl _) (fun k e => by cases e))
  unfold Mine
  rw [List.length_replicate, ← madeCells_u8]
  rw [show m * 1 = m from Nat.mul_one m] at h1
  exact h1
/-- A word on a value that names no world. -/
theorem val_mono (V : Value) : ∀ v w w', v = V → Grows w w' → v = V := fun _ _ _ h _ => h
end Go.Proofs.YtjcommodiihcdaaDoor
