/- CrcPages -/
import Derived.Test.YtnigflobmiiefaaDoorCrcRef
import Derived.Test.YtnigflobmiiefaaDoorCrcThreeAny
/- 'great', and the sums of pages. -/
namespace Go.Proofs.YtnigflobmiiefaaDoor
open Go.RowKit
set_option linter.unusedVariables false
set_option linter.unusedSimpArgs false
def SomeBool (e : Ending) : Prop := ∃ b, e = .returned (.bool b)
/-- A page in its box, and a row of one part that is it. -/
theorem page_parts (l : List (BitVec 8)) (hl : l.length = 256) (w : World) (t u : TypeId) :
    Parts ((w.alloc (.cells (l.map byteV).toArray t)).alloc (.cells #[.slice (some ⟨w.heap.size, 0, none⟩) 256 256] u)).heap.size ((w.alloc (.cells (l.map byteV).toArray t)).alloc (.cells #[.slice (some ⟨w.heap.size, 0, none⟩) 256 256] u)) (.slice (some ⟨w.heap.size + 1, 0, none⟩) 1 1) [l] := by
  have h0 : Row ((w.alloc (.cells (l.map byteV).toArray t)).alloc (.cells #[.slice (some ⟨w.heap.size, 0, none⟩) 256 256] u)) (w.heap.size + 1) u #[.slice (some ⟨w.heap.size, 0, none⟩) 256 256] := by
    have := Row.new (w.alloc (.cells (l.map byteV).toArray t)) u #[.slice (some ⟨w.heap.size, 0, none⟩) 256 256]
    simpa using this
  refine Parts.of_row (cs := #[.slice (some ⟨w.heap.size, 0, none⟩) 256 256]) [l] h0 h0.lt rfl rfl (by unfold maxLen; omega) ?_
  intro i x l' hx hl'
  obtain rfl : i = 0 := by
    have := (List.getElem?_eq_some_iff.1 hx).1
    simp at this
    exact this
  simp only [List.getElem?_cons_zero, Option.some.injEq] at hx hl'
  subst hx hl'
  have hr := (Row.new w t (l.map byteV).toArray).alloc (.cells #[.slice (some ⟨w.heap.size, 0, none⟩) 256 256] u)
  have := Sl.of_row hr hr.lt 256 (l.map byteV) rfl (by simp [hl]) (by unfold maxLen; omega)
  rw [List.length_map, hl] at this
  exact this
set_option maxRecDepth 10000 in
set_option maxHeartbeats 1000000 in
/-- 'Page' of the program: the sum of its bytes. -/
theorem page_any (l : List (BitVec 8)) (hl : l.length = 256) (w : World) :
    Calls Tryd.prog 33 #[.agg (l.map byteV).toArray] w fun e w' => e = .returned (.int .u64 (uI (CrcM.sum l))) ∧ Grows w w' := by
  have hs : (l.map byteV).toArray.size = 256 := by simpa using hl
  have HL := Lib.hid hl
  have HSZ := Lib.hid hs
  clear hl hs
  have HP := Lib.hid (fun w => page_parts l HL.out w 29 30)
  go_enter Tryd.func33, Tryd.ntmps33
  go_wp2_with (go_at_call 43; refine (sum1 (HP.out _)).mono ?_; rintro e w2 ⟨rfl, hb2⟩)
  go_ret
  exact ⟨rfl, (Grows.alloc _ _).trans ((Grows.alloc _ _).trans hb2)⟩
theorem rsum1 {w : World} {v : Value} {l : List (BitVec 8)} (hp : Parts w.heap.size w v [l]) :
    Calls Tryd.prog 41 #[v] w fun e w' => e = .returned (.int .u64 (uI (CrcM.sum l))) ∧ Grows w w' :=
  (rsum_any v [l] w hp).mono fun e w' ⟨he, hb⟩ => ⟨by rw [he]; simp, hb ▸ Grows.refl _⟩
set_option maxRecDepth 10000 in
set_option maxHeartbeats 1000000 in
/-- The document's 'Page'. -/
theorem rpage_any (l : List (BitVec 8)) (hl : l.length = 256) (w : World) :
    Calls Tryd.prog 28 #[.agg (l.map byteV).toArray] w fun e w' => e = .returned (.int .u64 (uI (CrcM.sum l))) ∧ Grows w w' := by
  have hs : (l.map byteV).toArray.size = 256 := by simpa using hl
  have HL := Lib.hid hl
  have HSZ := Lib.hid hs
  clear hl hs
  have HP := Lib.hid (fun w => page_parts l HL.out w 29 30)
  go_enter Tryd.func28, Tryd.ntmps28
  go_wp2_with (go_at_call 41; refine (rsum1 (HP.out _)).mono ?_; rintro e w2 ⟨rfl, hb2⟩)
  go_ret
  exact ⟨rfl, (Grows.alloc _ _).trans ((Grows.alloc _ _).trans hb2)⟩
end Go.Proofs.YtnigflobmiiefaaDoor
