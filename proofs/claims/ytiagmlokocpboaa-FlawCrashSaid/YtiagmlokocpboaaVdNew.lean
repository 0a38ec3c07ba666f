/- VdNew -/
import Derived.Test.YtiagmlokocpboaaVdWrite
/- The document's New. -/
namespace Go.Proofs.Ytiagmlokocpboaa
open Go.RowKit
set_option linter.unusedVariables false
set_option linter.unusedSimpArgs false
theorem pageE_blank : pageE VdM.blank = List.replicate 256 (.int .u8 0) := by
  unfold pageE VdM.blank
  rw [List.map_replicate]; rfl
theorem madeCells_pages (m : Nat) : (madeCells (pgA VdM.blank) (m * 256)).toList = (List.replicate m VdM.blank).flatMap pageE := by
  have hb : (pgA VdM.blank) = Array.replicate 256 (.int .u8 0) := by unfold pgA; rw [pageE_blank, List.toArray_replicate]
  have h2 : ∀ m, (List.replicate m VdM.blank).flatMap pageE = List.replicate (m * 256) (.int .u8 0) := by
    intro m
    induction m with
    | zero => rw [Nat.zero_mul]; rfl
    | succ m ih => rw [List.replicate_succ, List.flatMap_cons, ih, Nat.add_mul, Nat.one_mul, Nat.add_comm (m * 256) 256, ← List.replicate_append_replicate, pageE_blank]
  rw [h2, hb]
  apply List.ext_getElem
  · rw [Array.length_toList, size_madeCells, List.length_replicate]
  · intro i h1 h2
    have : i % 256 < 256 := Nat.mod_lt _ (by omega)
    simp [madeCells, this]
theorem Own'.nil {α : Type} (e : TypeId) (s : Nat) (f : α → List Value) (base : Nat) (w : World) : Own' e s f base w (.slice none 0 0) ([] : List α) := ⟨fun _ h => by simp at h, by simp, .inl ⟨rfl, rfl⟩⟩
theorem wpList_make_pages {w : World} {ops : Array Oper} {rest : List Oper} {o : Oper} {a : Act} {Q : Exit → Act → World → Prop} (hgd : o.guard = none) (l c : Operand) (ho : o.op = Op.makeSlice 22 l c) (base m : Nat) (C : Int)
    (hl : a.eval l = .int .i64 C) (hc : a.eval c = .int .i64 C) (hC : C = (m : Int)) (hm : m ≤ 1000000) (hb : base ≤ w.heap.size)
    (h : ∀ w', Own' 40 256 pageE base w' (.slice (some ⟨w.heap.size, 0, none⟩) m m) (List.replicate m VdM.blank) → Grows w w' → wpList Try.prog ops Q rest (a.put o.dst (.slice (some ⟨w.heap.size, 0, none⟩) m m)) w') :
    wpList Try.prog ops Q (o :: rest) a w := by
  have hi : (Try.prog.info? 40).bind (fun i => if i.size = 256 ∧ i.bytes = 256 then i.zero.map (·.cells) else none) = some (pgA VdM.blank) := by kernel_rfl
  obtain ⟨i0, hi0, hz⟩ := Option.bind_eq_some_iff.1 hi
  split at hz
  · rename_i hs
    obtain ⟨z, hz, hzc⟩ := Option.map_eq_some_iff.1 hz
    refine wpList_make_full w hgd l c 22 ho base 40 i0 z 256 Try.underlying22 hi0 hz hs.1 .i64 .i64 C C m hl hc hC hC (by rw [hs.2]; omega) (by unfold maxLen; omega) hb fun w' h1 h2 => ?_
    refine h w' ⟨fun x hx => by rw [List.eq_of_mem_replicate hx, pageE_len, blank_len], ?_⟩ ((Below.refl _ w).grown h2 (Nat.le_refl _) (fun k e => by cases e))
    rw [hzc, madeCells_pages] at h1
    rwa [List.length_replicate]
  · cases hz
def newD (n : Int) : Dk := if n < 32 ∨ 256 < n then ⟨[], [], [], false⟩ else ⟨List.replicate n.toNat VdM.blank, [], [], false⟩
def newE (n : Int) : Int := if n < 32 ∨ 256 < n then 2 else 0
end Go.Proofs.Ytiagmlokocpboaa
