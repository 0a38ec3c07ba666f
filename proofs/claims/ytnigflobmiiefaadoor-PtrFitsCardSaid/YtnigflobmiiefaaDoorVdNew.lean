/- VdNew -/
import Derived.Test.YtnigflobmiiefaaDoorVdWrite
/- The document's New. -/
namespace Go.Proofs.YtnigflobmiiefaaDoor
open Go.RowKit
set_option linter.unusedVariables false
set_option linter.unusedSimpArgs false
theorem pageE_blank : pageE VdM.blank = List.replicate 256 (.int .u8 0) := by
  unfold pageE VdM.blank
  rw [List.map_replicate]; rfl
theorem madeCells_pages (m : Nat) : (madeCells (pgA VdM.blank) (m * 256)).toList = (List.replicate m VdM.blank).flatMap pageE := by
  have hb : (pgA VdM.blank) = Array.replicate 256 (.int .u8 0) := by unfold pgA; rw [pageE_blank, List.toArray_replicate]
  have h2 : ∀ m, (List.replicate m VdM.blank).flatMap pageE = List.replicate (m * 256) (.int .u8 0) := by
    intro m
    induction m with
    | zero => rw [Nat.zero_mul]; rfl
    | succ m ih => rw [List.replicate_succ, List.flatMap_cons, ih, Nat.add_mul, Nat.one_mul, Nat.add_comm (m * 256) 256, ← List.replicate_append_replicate, pageE_blank]
  rw [h2, hb]
  apply List.ext_getElem
  · rw [Array.length_toList, size_madeCells, List.length_replicate]
  · intro i h1 h2
    have : i % 256 < 256 := Nat.mod_lt _ (by omega)
    simp [madeCells, this]
theorem Own'.nil {α : Type} (e : TypeId) (s : Nat) (f : α → List Value) (base : Nat) (w : World) : Own' e s f base w (.slice none 0 0) ([] : List α) := ⟨fun _ h => by simp at h, by simp, .inl ⟨rfl, rfl⟩⟩
def newD (n : Int) : Dk := if n < 32 ∨ 256 < n then ⟨[], [], [], false⟩ else ⟨List.replicate n.toNat VdM.blank, [], [], false⟩
def newE (n : Int) : Int := if n < 32 ∨ 256 < n then 2 else 0
end Go.Proofs.YtnigflobmiiefaaDoor
