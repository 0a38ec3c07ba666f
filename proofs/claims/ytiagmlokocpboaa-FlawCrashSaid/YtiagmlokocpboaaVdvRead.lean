/- VdvRead -/
import Derived.Test.YtiagmlokocpboaaVdIn
import Derived.Test.YtiagmlokocpboaaShelf
import Derived.Test.YtiagmlokocpboaaFreeG
/- vdev.Read. -/
namespace Go.Proofs.Ytiagmlokocpboaa
open Go.RowKit Go.Shelf
set_option linter.unusedVariables false
set_option linter.unusedSimpArgs false
attribute [local go_sem] Oper.semAt_some
theorem errno_run_load {w : World} {g : Nat} {x : Int} (hr : Row w g 30 #[.int .i64 x]) : (loadVar 30 ⟨g, 0, none⟩).run Try.prog w = .ok (.int .i64 x) w := by
  have hc : w.cell? ⟨g, 0, none⟩ = some (.int .i64 x) := hr.cell 0
  have hagg : (isAgg 30).run Try.prog w = .ok false w := by
    unfold isAgg
    rw [Sem.run_bind, run_underlying Try.underlying30 w]
    rfl
  simp [loadVar, hagg, go_sem, hc]
theorem Grows.put_mark {w w' : World} (h : Grows w w') {D : Nat} {ds : Option (List Deferred)} {o : Obj} (hk : w'.heap[D]? = some (.deferred ds)) (hD : w.heap.size ≤ D) : Below w.heap.size w' (w'.putObj D o) :=
  belowK_b (w := w) (Nat.le_refl _) w' D _ _ hD hk rfl rfl
theorem does_store_errno {ρ : Operand → Value} {o : Oper} {w : World} {R : Value → World → Prop} (x y : Operand) (ho : o.op = .store 30 x y) (g : Nat) (k old : Int) (hx : ρ x = .pointer (some ⟨g, 0, none⟩)) (hy : ρ y = .int .i64 k)
    (hr : Row w g 30 #[.int .i64 old]) (hR : ∀ w', Row w' g 30 #[.int .i64 k] → w.grownBy w' (some g) → R undef w') : Does Try.prog o ρ w R := by
  have hc : w.cell? ⟨g, 0, none⟩ = some (.int .i64 old) := hr.cell 0
  have hf := hr.frozen 0
  obtain ⟨i0, hi, hs⟩ : ∃ i, Try.prog.info? 30 = some i ∧ i.size = 1 := Option.map_eq_some_iff.1 (show (Try.prog.info? 30).map (·.size) = some 1 by kernel_rfl)
  have hrun : (storeVar 30 ⟨g, 0, none⟩ (.int .i64 k)).run Try.prog w = .ok () (w.setCell ⟨g, 0, none⟩ (.int .i64 k)) := by
    simp [storeVar, sizeOf, typeInfo, hi, hs, go_sem, hc, hf]
  unfold Does execOp
  simp only [ho, hx, hy, Instr.storeAt, Instr.sureAddr, Sem.run_bind, Sem.run_pure, Result.andThen_ok, hrun]
  exact hR _ (hr.set 0 _) (setCell_grown _ _ _ _)
theorem wpListIn_store_errno {F : Fence} {nn : Nat} {w : World} {ops : Array Oper} {rest : List Oper} {o : Oper} {a : Act} {Q : Exit → Act → World → Prop} (hF : WideF F) (hgd : o.guard = none) (x y : Operand) (ho : o.op = .store 30 x y) (g : Nat) (k old : Int) (hx : a.eval x = .pointer (some ⟨g, 0, none⟩)) (hy : a.eval y = .int .i64 k)
    (hr : Row w g 30 #[.int .i64 old]) (h : ∀ w', Row w' g 30 #[.int .i64 k] → w.grownBy w' (some g) → wpListIn F nn Try.prog ops Q rest (a.put o.dst undef) w') : wpListIn F nn Try.prog ops Q (o :: rest) a w :=
  wpListIn_does hF hgd (by intro c; rw [ho]; simp) (R := fun v w' => v = undef ∧ Row w' g 30 #[.int .i64 k] ∧ w.grownBy w' (some g))
    (does_store_errno x y ho g k old hx hy hr fun w' h1 h2 => ⟨rfl, h1, h2⟩) (by rintro v w' ⟨rfl, h1, h2⟩; exact h w' h1 h2)
/-- How the search goes on, and how it ends. -/
def InvR (w w1 : World) (Bs : Nat) (C : Value) (c : List (Int × Pg)) (n e0 : Int) (p0 : Pg) (pre : List (Fin c.length)) (W : World) : Prop :=
  (∀ j ∈ pre, (c[j.val]).1 ≠ n) ∧ Row W (w.heap.size + 1) 3 #[.int .i64 n] ∧ Row W (w.heap.size + 1 + 1) 40 (pgA VdM.blank) ∧
  Row W w1.heap.size 30 #[.int .i64 e0] ∧ Row W (w1.heap.size + 1) 40 (pgA p0) ∧ Row W Bs 23 #[C] ∧ Below w.heap.size w W
def LeftR (w w1 : World) (c : List (Int × Pg)) (n : Int) (cd : Code) (pre : List (Fin c.length)) (W : World) : Prop :=
  ∃ ini last, (cd = .exit 0 ∧ pre = ini ++ [last] ∧ (c[last.val]).1 = n ∧ (∀ j ∈ ini, (c[j.val]).1 ≠ n)) ∧ Row W (w.heap.size + 1 + 1) 40 (pgA VdM.blank) ∧
  Row W w1.heap.size 30 #[.int .i64 0] ∧ Row W (w1.heap.size + 1) 40 (pgA (c[last.val]).2) ∧ Below w.heap.size w W
theorem prefix_last {n : Nat} {ini : List (Fin n)} {last : Fin n} (hp : ini ++ [last] <+: (List.finRange n).reverse) : ini = backs n (last.val + 1) := by
  have e := prefix_backs hp
  have hlen : (ini ++ [last]).length ≤ n := by have := hp.length_le; simpa using this
  rw [List.length_append, List.length_singleton] at hlen
  have hk : n - (ini ++ [last]).length < n := by rw [List.length_append, List.length_singleton]; omega
  rw [backs_step hk] at e
  obtain ⟨e1, e2⟩ := List.append_inj' e rfl
  have e3 : last = ⟨n - (ini ++ [last]).length, hk⟩ := by simpa using e2
  rw [congrArg Fin.val e3]
  exact e1
theorem mem_backs {n k : Nat} (j : Fin n) : j ∈ backs n k ↔ k ≤ j.val := by
  unfold backs
  rw [List.mem_reverse, List.mem_iff_getElem?]
  constructor
  · rintro ⟨i, hi⟩
    rw [List.getElem?_drop] at hi
    obtain ⟨h1, h2⟩ := List.getElem?_eq_some_iff.1 hi
    rw [← h2]
    simp
  · intro h
    refine ⟨j.val - k, ?_⟩
    rw [List.getElem?_drop, List.getElem?_eq_getElem (by simp; omega)]
    simp only [List.getElem_finRange, Option.some.injEq]
    apply Fin.ext
    simp
    omega
theorem lastW_left {c : List (Int × Pg)} {n : Int} {ini : List (Fin c.length)} {last : Fin c.length} (hp : ini ++ [last] <+: (List.finRange c.length).reverse) (hl : (c[last.val]).1 = n) (h : ∀ j ∈ ini, (c[j.val]).1 ≠ n) : VdM.lastW c n = some (c[last.val]).2 := by
  have e := prefix_last hp
  subst e
  refine VdM.lastW_some c n last.val _ (List.getElem?_eq_getElem last.isLt) hl ?_
  rw [List.all_eq_true]
  intro x hx
  obtain ⟨i, hi, rfl⟩ := List.getElem_of_mem hx
  rw [List.length_drop] at hi
  have := h ⟨last.val + 1 + i, by omega⟩ ((mem_backs _).2 (by simp))
  rw [List.getElem_drop]
  simpa using this
theorem lastW_all {c : List (Int × Pg)} {n : Int} (h : ∀ j ∈ (List.finRange c.length).reverse, (c[j.val]).1 ≠ n) : VdM.lastW c n = none := by
  apply VdM.lastW_none
  rw [List.all_eq_true]
  intro x hx
  obtain ⟨i, hi, rfl⟩ := List.getElem_of_mem hx
  have := h ⟨i, hi⟩ (by simp)
  simpa using this
end Go.Proofs.Ytiagmlokocpboaa
