/- CellSt -/
import Derived.Test.YtiagmlokocpboaaBaseA
import Derived.Test.YtiagmlokocpboaaVdIn
import Derived.Deep.MidRow
/- One cell of a row of one's own stored, the world behind it a name of its own. No function of the program. -/
namespace Go.Proofs.Ytiagmlokocpboaa
open Go.RowKit Go.Deep
theorem cells_one {v : Value} (h : v.oneCell' = true) : v.cells = #[v] := by
  cases v <;> first | rfl | (simp [Value.oneCell'] at h)
theorem run_storeVar_one {P : Program} (w : World) (b o : Nat) (ty : TypeId) (v : Value) (ht : w.there b o 1) (hi : (P.info? ty).map (·.size) = some 1) (h1 : v.oneCell' = true) :
    (storeVar ty ⟨b, o, none⟩ v).run P w = .ok () (w.setCell ⟨b, o, none⟩ v) := by
  have := run_storeVar_mid (P := P) w b o ty #[v] ht hi (by simp [h1])
  have e : storeVar ty ⟨b, o, none⟩ (.agg #[v]) = storeVar ty ⟨b, o, none⟩ v := by
    unfold storeVar
    rw [cells_one h1]
    rfl
  rw [e] at this
  exact this
theorem there_row {w : World} {g : Nat} {t : TypeId} {cs : Array Value} (hr : Row w g t cs) (i : Nat) (hi : i < cs.size) : w.there g i 1 := fun j hj => by
  obtain rfl : j = 0 := by omega
  refine ⟨?_, hr.frozen _⟩
  rw [hr.cell, Nat.add_zero, Array.getElem?_eq_getElem hi]
  rfl
theorem does_store_c {P : Program} {ρ : Operand → Value} {o : Oper} {w : World} {R : Value → World → Prop} (ty : TypeId) (x y : Operand) (ho : o.op = .store ty x y) (g i : Nat) (v : Value) (cs : Array Value) (t : TypeId) (hx : ρ x = .pointer (some ⟨g, i, none⟩)) (hy : ρ y = v) (h1 : v.oneCell' = true) (hi : (P.info? ty).map (·.size) = some 1) (hr : Row w g t cs) (hlt : i < cs.size)
    (hR : ∀ w', Row w' g t (cs.setIfInBounds i v) → w.grownBy w' (some g) → R undef w') : Does P o ρ w R := by
  unfold Does execOp
  simp only [ho, hx, hy, Instr.storeAt, Instr.sureAddr, Sem.run_bind, Sem.run_pure, Result.andThen_ok, run_storeVar_one w g i ty v (there_row hr i hlt) hi h1]
  exact hR _ (hr.set i v) ⟨rfl, rfl, rfl, by rw [World.size_setCell]; exact Nat.le_refl _, fun k _ hk => Below.heap_setCell _ _ _ k (fun e => hk (by rw [e]))⟩
section
variable {P : Program} {w : World} {ops : Array Oper} {rest : List Oper} {o : Oper} {a : Act} {Q : Exit → Act → World → Prop}
theorem wpList_store_c (hgd : o.guard = none) (ty : TypeId) (x y : Operand) (ho : o.op = .store ty x y) (g i : Nat) (v : Value) (cs : Array Value) (t : TypeId) (hx : a.eval x = .pointer (some ⟨g, i, none⟩)) (hy : a.eval y = v) (h1 : v.oneCell' = true) (hi : (P.info? ty).map (·.size) = some 1) (hr : Row w g t cs) (hlt : i < cs.size)
    (h : ∀ w', Row w' g t (cs.setIfInBounds i v) → w.grownBy w' (some g) → wpList P ops Q rest (a.put o.dst undef) w') : wpList P ops Q (o :: rest) a w := by
  refine wpList_plain hgd fun K hK => ?_
  unfold Oper.wp execOp
  simp only [ho, hx, hy, Instr.storeAt, Instr.sureAddr, Sem.run_bind, Sem.run_pure, Result.andThen_ok, run_storeVar_one w g i ty v (there_row hr i hlt) hi h1]
  exact hK _ _ (h _ (hr.set i v) ⟨rfl, rfl, rfl, by rw [World.size_setCell]; exact Nat.le_refl _, fun k _ hk => Below.heap_setCell _ _ _ k (fun e => hk (by rw [e]))⟩)
theorem wpListIn_store_c {F : Fence} {nn : Nat} (hF : WideF F) (hgd : o.guard = none) (ty : TypeId) (x y : Operand) (ho : o.op = .store ty x y) (g i : Nat) (v : Value) (cs : Array Value) (t : TypeId) (hx : a.eval x = .pointer (some ⟨g, i, none⟩)) (hy : a.eval y = v) (h1 : v.oneCell' = true) (hi : (P.info? ty).map (·.size) = some 1) (hr : Row w g t cs) (hlt : i < cs.size)
    (h : ∀ w', Row w' g t (cs.setIfInBounds i v) → w.grownBy w' (some g) → wpListIn F nn P ops Q rest (a.put o.dst undef) w') : wpListIn F nn P ops Q (o :: rest) a w :=
  wpListIn_does hF hgd (by intro c; rw [ho]; simp) (R := fun u w' => u = undef ∧ Row w' g t (cs.setIfInBounds i v) ∧ w.grownBy w' (some g))
    (does_store_c ty x y ho g i v cs t hx hy h1 hi hr hlt fun w' h1 h2 => ⟨rfl, h1, h2⟩) (by rintro u w' ⟨rfl, h1, h2⟩; exact h w' h1 h2)
end
theorem zero_wr (w : World) : (zeroValue 42).run Try.prog w = .ok (.agg (wrA (0, VdM.blank))) w := by kernel_rfl
theorem one_off : (Try.prog.info? 4).map (·.size) = some 1 := by kernel_rfl
theorem one_pages : (Try.prog.info? 22).map (·.size) = some 1 := by kernel_rfl
theorem one_cache : (Try.prog.info? 23).map (·.size) = some 1 := by kernel_rfl
theorem one_bad : (Try.prog.info? 24).map (·.size) = some 1 := by kernel_rfl
end Go.Proofs.Ytiagmlokocpboaa
