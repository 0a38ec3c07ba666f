/- Bools -/
import Derived.Test.YtiagmlokocpboaaCellSt
import Derived.OwnWalk
/- Rows of bools of the call's own: made, read, written. No function of the program. -/
namespace Go.Proofs.Ytiagmlokocpboaa
open Go.RowKit Go.Deep
def boolsA (l : List Bool) : Array Value := (l.map Value.bool).toArray
theorem boolsA_size (l : List Bool) : (boolsA l).size = l.length := by simp [boolsA]
theorem boolsA_get (l : List Bool) (i : Nat) (b : Bool) (h : l[i]? = some b) : (boolsA l)[i]? = some (.bool b) := by simp [boolsA, h]
theorem boolsA_set (l : List Bool) (i : Nat) (b : Bool) : (boolsA l).setIfInBounds i (.bool b) = boolsA (l.set i b) := by
  apply Array.ext'
  simp [boolsA, List.map_set]
theorem bools_info : ∃ i, Try.prog.info? 4 = some i ∧ i.zero = some (.bool false) ∧ i.size = 1 ∧ i.bytes = 1 := by
  have h : (Try.prog.info? 4).map (fun i => (i.zero, i.size, i.bytes)) = some (some (.bool false), 1, 1) := by kernel_rfl
  obtain ⟨i, hi, hz⟩ := Option.map_eq_some_iff.1 h
  simp only [Prod.mk.injEq] at hz
  exact ⟨i, hi, hz.1, hz.2.1, hz.2.2⟩
theorem does_make_bools {ρ : Operand → Value} {w : World} {o : Oper} {R : Value → World → Prop} (l c : Operand) (ho : o.op = Op.makeSlice 38 l c) (n : Nat) (hl : ρ l = .int .i64 n) (hc : ρ c = .int .i64 n) (hn : n ≤ 1000000)
    (h : ∀ w', Row w' w.heap.size 4 (boolsA (List.replicate n false)) → Grows w w' → R (.slice (some ⟨w.heap.size, 0, none⟩) n n) w') : Does Try.prog o ρ w R := by
  obtain ⟨i, hi, hz, hs, hb⟩ := bools_info
  obtain ⟨w', hrun, r1, r2⟩ := run_make_full (P := Try.prog) w w.heap.size 38 4 i (.bool false) 1 Try.underlying38 hi hz hs .i64 .i64 n (by rw [hb]; omega) (by unfold maxLen; omega) (Nat.le_refl _)
  unfold Does execOp
  simp only [ho, hl, hc, Sem.run_bind, hrun, Result.andThen_ok, Sem.run_pure]
  refine h w' ?_ ((Below.refl _ w).grown r2 (Nat.le_refl _) (fun k e => by cases e))
  rcases r1.2 with ⟨h1, _⟩ | ⟨g, cap, cur, h1, _, hh, h2, h3, h4, h5⟩
  · cases h1
  · simp only [Value.slice.injEq, Option.some.injEq, Addr.mk.injEq, and_true, true_and] at h1
    obtain ⟨rfl, rfl⟩ := h1
    rw [Nat.mul_one] at h4 h5
    have e : cur = boolsA (List.replicate n false) := by
      apply Array.ext'
      rw [List.take_of_length_le (by rw [Array.length_toList]; omega)] at h5
      rw [h5]
      apply List.ext_getElem
      · simp [size_madeCells, boolsA]
      · intro i h1 h2
        simp [madeCells, boolsA, Nat.mod_one, Value.cells]
    rw [← e]
    exact hh
section
variable {w : World} {ops : Array Oper} {rest : List Oper} {o : Oper} {a : Act} {Q : Exit → Act → World → Prop}
theorem wpListIn_make_bools {F : Fence} {nn : Nat} (hF : WideF F) (hgd : o.guard = none) (l c : Operand) (ho : o.op = Op.makeSlice 38 l c) (n : Nat) (hl : a.eval l = .int .i64 n) (hc : a.eval c = .int .i64 n) (hn : n ≤ 1000000)
    (h : ∀ w', Row w' w.heap.size 4 (boolsA (List.replicate n false)) → Grows w w' → wpListIn F nn Try.prog ops Q rest (a.put o.dst (.slice (some ⟨w.heap.size, 0, none⟩) n n)) w') : wpListIn F nn Try.prog ops Q (o :: rest) a w :=
  wpListIn_does hF hgd (by intro c; rw [ho]; simp) (R := fun v w' => v = .slice (some ⟨w.heap.size, 0, none⟩) n n ∧ Row w' w.heap.size 4 (boolsA (List.replicate n false)) ∧ Grows w w')
    (does_make_bools l c ho n hl hc hn fun w' h1 h2 => ⟨rfl, h1, h2⟩) (by rintro v w' ⟨rfl, h1, h2⟩; exact h w' h1 h2)
theorem wpList_make_bools (hgd : o.guard = none) (l c : Operand) (ho : o.op = Op.makeSlice 38 l c) (n : Nat) (hl : a.eval l = .int .i64 n) (hc : a.eval c = .int .i64 n) (hn : n ≤ 1000000)
    (h : ∀ w', Row w' w.heap.size 4 (boolsA (List.replicate n false)) → Grows w w' → wpList Try.prog ops Q rest (a.put o.dst (.slice (some ⟨w.heap.size, 0, none⟩) n n)) w') : wpList Try.prog ops Q (o :: rest) a w := by
  refine wpList_plain hgd fun K hK => ?_
  have hd := does_make_bools (R := fun v w' => v = .slice (some ⟨w.heap.size, 0, none⟩) n n ∧ Row w' w.heap.size 4 (boolsA (List.replicate n false)) ∧ Grows w w') (ρ := a.eval) l c ho n hl hc hn fun w' h1 h2 => ⟨rfl, h1, h2⟩
  refine Does.wp hd fun v w' ⟨e, h1, h2⟩ => ?_
  subst e
  exact hK _ _ (h w' h1 h2)
end
end Go.Proofs.Ytiagmlokocpboaa
