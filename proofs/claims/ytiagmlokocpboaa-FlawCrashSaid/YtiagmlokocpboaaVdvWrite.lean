/- VdvWrite -/
import Derived.Test.YtiagmlokocpboaaVdvCopy
import Derived.Test.YtiagmlokocpboaaVdNew
import Derived.Test.YtiagmlokocpboaaVdvMay
/- vdev.Write. -/
namespace Go.Proofs.Ytiagmlokocpboaa
open Go.RowKit
set_option linter.unusedVariables false
set_option linter.unusedSimpArgs false
theorem does_build_wr {ρ : Operand → Value} {o : Oper} {w : World} {R : Value → World → Prop} (x y : Operand) (ho : o.op = .build 42 #[(0, x), (1, y)]) (n : Int) (p : Pg) (hx : ρ x = .int .i64 n) (hy : ρ y = .agg (pgA p)) (hl : p.length = 256)
    (hR : R (.agg (wrA (n, p))) w) : Does Try.prog o ρ w R := by
  have hc : Try.prog.built 42 ((#[(0, x), (1, y)] : Array (Nat × Operand)).map fun (i, x) => (i, ρ x)).toList = some (wrA (n, p)) := by
    simp only [List.map_toArray, List.map_cons, List.map_nil, hx, hy]
    exact built_write n p hl
  unfold Does execOp
  simp only [ho, Sem.run_bind, run_build w 42 _ _ hc, Result.andThen_ok]
  exact hR
theorem does_slice_wr {ρ : Operand → Value} {o : Oper} {w : World} {R : Value → World → Prop} (x : Operand) (ho : o.op = .buildSlice 23 1 #[(0, x)]) (q : Int × Pg) (hx : ρ x = .agg (wrA q)) (hl : q.2.length = 256)
    (hR : R (.slice (some ⟨w.heap.size, 0, none⟩) 1 1) (w.alloc (.cells (wrA q) 42))) : Does Try.prog o ρ w R := by
  have hf : Try.prog.builtSlice 42 1 ((#[(0, x)] : Array (Nat × Operand)).map fun (i, x) => (i, ρ x)).toList = some (wrA q) := by
    simp only [List.map_toArray, List.map_cons, List.map_nil, hx]
    exact builtSlice_write q hl
  have hr : (Instr.buildSlice 23 1 ((#[(0, x)] : Array (Nat × Operand)).map fun (i, x) => (i, ρ x))).run Try.prog w = .ok (.slice (some ⟨w.heap.size, 0, none⟩) 1 1) (w.alloc (.cells (wrA q) 42)) := by
    unfold Program.builtSlice at hf
    cases hie : Try.prog.info? 42 with
    | none => simp [hie] at hf
    | some ie =>
      simp only [hie] at hf
      cases hz : ie.zero with
      | none => simp [hz] at hf
      | some z =>
        simp only [hz] at hf
        by_cases hc : 1 * ie.size > 2 ^ 24 ∨ 1 * ie.size = 0
        · rw [if_pos hc] at hf; cases hf
        · rw [if_neg hc] at hf
          exact run_buildSlice w _ _ 1 _ _ ie z Try.underlying23 hie hz (fun h' => hc (Or.inl h')) (fun h' => hc (Or.inr h')) hf
  unfold Does execOp
  simp only [ho, Sem.run_bind, hr, Result.andThen_ok]
  exact hR
theorem pg_run_load_row {w : World} {g : Nat} {p : Pg} (hl : p.length = 256) (hr : Row w g 40 (pgA p)) : (loadVar 40 ⟨g, 0, none⟩).run Try.prog w = .ok (.agg (pgA p)) w :=
  run_loadVar_row w g 40 40 (pgA p) (0, 0) _ hr Try.underlying40 rfl (by rw [pgA_size, hl]; kernel_rfl)
/-- A list that grows with the heap. -/
def ElsAt {α : Type} (s : Nat) (f : α → List Value) (l : List α) (v : Value) (w : World) : Prop := Els s f w.heap.size w v l
theorem ElsAt.mono {α : Type} {s : Nat} {f : α → List Value} (l : List α) : ∀ v w w', ElsAt s f l v w → Grows w w' → ElsAt s f l v w' := fun v w w' h hg => h.grows hg
end Go.Proofs.Ytiagmlokocpboaa
