/- VdIn -/
import Derived.Test.YtnigflobmiiefaaDoorVdvMay
import Derived.Test.YtnigflobmiiefaaDoorVdvWrite
import Derived.Test.YtnigflobmiiefaaDoorBaseA
/- Pages, disks, writes inside a fence: loaded, stored, laid; appends; how a function that ranged over an iterator ends. No function of the program. -/
namespace Go.Proofs.YtnigflobmiiefaaDoor
open Go.RowKit Go.Deep
set_option linter.unusedVariables false
set_option linter.unusedSimpArgs false
section
variable {F : Fence} {nn : Nat}
theorem wpListIn_does {P : Program} {w : World} {ops : Array Oper} {rest : List Oper} {o : Oper} {a : Act} {Q : Exit → Act → World → Prop} {R : Value → World → Prop} (hF : WideF F) (hgd : o.guard = none) (hnd : ∀ c, o.op ≠ .defer c) (h : Does P o a.eval w R)
    (hK : ∀ v w', R v w' → wpListIn F nn P ops Q rest (a.put o.dst v) w') : wpListIn F nn P ops Q (o :: rest) a w :=
  wpListIn_plain hgd fun K hK' => Does.wpIn hF hnd h (fun v w' hR => hK' _ _ (hK v w' hR))
theorem does_store_row {P : Program} {ρ : Operand → Value} {o : Oper} {w : World} {R : Value → World → Prop} (ty : TypeId) (x y : Operand) (ho : o.op = .store ty x y) (g : Nat) (cells : Array Value) (hx : ρ x = .pointer (some ⟨g, 0, none⟩)) (hy : ρ y = .agg cells)
    (old : Array Value) (t : TypeId) (hg : Row w g t old) (hi : (P.info? ty).map (·.size) = some cells.size) (hold : old.size = cells.size) (h1 : cells.all (·.oneCell') = true)
    (hR : ∀ w', Row w' g t cells → w.grownBy w' (some g) → R undef w') : Does P o ρ w R := by
  unfold Does execOp
  simp only [ho, hx, hy, Instr.storeAt, Instr.sureAddr, Sem.run_bind, Sem.run_pure, Result.andThen_ok, run_storeVar_row w g t ty old cells hg hi hold h1]
  exact hR _ (hg.setRow _) (setRow_grown _ _ _)
theorem does_store_mid {P : Program} {ρ : Operand → Value} {o : Oper} {w : World} {R : Value → World → Prop} (ty : TypeId) (x y : Operand) (ho : o.op = .store ty x y) (b off : Nat) (cells : Array Value) (hx : ρ x = .pointer (some ⟨b, off, none⟩)) (hy : ρ y = .agg cells)
    (ht : w.there b off cells.size) (hi : (P.info? ty).map (·.size) = some cells.size) (h1 : cells.all (·.oneCell') = true)
    (hR : R undef (w.setCells b off cells.toList)) : Does P o ρ w R := by
  unfold Does execOp
  simp only [ho, hx, hy, Instr.storeAt, Instr.sureAddr, Sem.run_bind, Sem.run_pure, Result.andThen_ok, run_storeVar_mid w b off ty cells ht hi h1]
  exact hR
theorem does_build_pg {ρ : Operand → Value} {o : Oper} {w : World} {R : Value → World → Prop} (ho : o.op = .build 29 #[]) (hR : R (.agg (pgA VdM.blank)) w) : Does Tryd.prog o ρ w R := by
  have hc : Tryd.prog.built 29 ((#[] : Array (Nat × Operand)).map fun (i, x) => (i, ρ x)).toList = some (pgA VdM.blank) := by simpa using built_pg
  unfold Does execOp
  simp only [ho, Sem.run_bind, run_build w 29 _ _ hc, Result.andThen_ok]
  exact hR
theorem does_append_els {α : Type} {s : Nat} {f : α → List Value} {P : Program} {t e : TypeId} {by' : Nat} (T : ElT P t e s by') (h1c : ∀ x : α, ∀ u ∈ f x, u.oneCell' = true) {w : World} {o : Oper} {ρ : Operand → Value} {R : Value → World → Prop} (y x : Operand)
    (ho : o.op = .call { callee := .builtin .append, args := #[y, x], argTypes := #[t, t] }) (base B : Nat) (l m : List α) (hv : Own' e s f base w (ρ y) l) (hx : Els s f B w (ρ x) m)
    (hlen : l.length + m.length ≤ maxLen) (hby : (l.length + m.length) * by' ≤ 140737488355328) (hb : base ≤ w.heap.size)
    (h : ∀ v' w', Own' e s f base w' v' (l ++ m) → w.grownBy w' (ρ y).ownBlock → (v'.ownBlock = (ρ y).ownBlock ∨ v'.ownBlock = some w.heap.size) → R v' w') : Does P o ρ w R := by
  obtain ⟨v', w', hr, h2, h3, h4⟩ := run_append_els T h1c o.type hv hx hlen hby hb
  unfold Does execOp
  simp only [ho, resolve, invoke, builtin, Sem.run_bind, Sem.run_pure, Result.andThen_ok, List.map_toArray, List.map_cons, List.map_nil, hr]
  exact h v' w' h2 h3 h4
section
variable {w : World} {ops : Array Oper} {rest : List Oper} {o : Oper} {a : Act} {Q : Exit → Act → World → Prop}
theorem wpListIn_load_pg (hF : WideF F) (hgd : o.guard = none) (x : Operand) (ho : o.op = .load 29 x) (b off : Nat) (p : Pg) (hx : a.eval x = .pointer (some ⟨b, off, none⟩)) (hl : p.length = 256) (hr : w.rangeAt b off (pageE p))
    (h : wpListIn F nn Tryd.prog ops Q rest (a.put o.dst (.agg (pgA p))) w) : wpListIn F nn Tryd.prog ops Q (o :: rest) a w :=
  wpListIn_does hF hgd (by intro c; rw [ho]; simp) (R := fun v w' => v = .agg (pgA p) ∧ w' = w) (dk_load 29 x ⟨b, off, none⟩ _ ho hx (page_run_load hl hr) ⟨rfl, rfl⟩) (by rintro v w' ⟨rfl, rfl⟩; exact h)
theorem wpListIn_load_pgrow (hF : WideF F) (hgd : o.guard = none) (x : Operand) (ho : o.op = .load 29 x) (g : Nat) (p : Pg) (hx : a.eval x = .pointer (some ⟨g, 0, none⟩)) (hl : p.length = 256) (hr : Row w g 29 (pgA p))
    (h : wpListIn F nn Tryd.prog ops Q rest (a.put o.dst (.agg (pgA p))) w) : wpListIn F nn Tryd.prog ops Q (o :: rest) a w :=
  wpListIn_does hF hgd (by intro c; rw [ho]; simp) (R := fun v w' => v = .agg (pgA p) ∧ w' = w) (dk_load 29 x ⟨g, 0, none⟩ _ ho hx (pg_run_load_row hl hr) ⟨rfl, rfl⟩) (by rintro v w' ⟨rfl, rfl⟩; exact h)
theorem wpListIn_build_pg (hF : WideF F) (hgd : o.guard = none) (ho : o.op = .build 29 #[]) (h : wpListIn F nn Tryd.prog ops Q rest (a.put o.dst (.agg (pgA VdM.blank))) w) : wpListIn F nn Tryd.prog ops Q (o :: rest) a w :=
  wpListIn_does hF hgd (by intro c; rw [ho]; simp) (R := fun v w' => v = .agg (pgA VdM.blank) ∧ w' = w) (does_build_pg ho ⟨rfl, rfl⟩) (by rintro v w' ⟨rfl, rfl⟩; exact h)
theorem wpListIn_store_pgrow (hF : WideF F) (hgd : o.guard = none) (x y : Operand) (ho : o.op = .store 29 x y) (g : Nat) (p old : Pg) (hx : a.eval x = .pointer (some ⟨g, 0, none⟩)) (hy : a.eval y = .agg (pgA p)) (hl : p.length = 256) (ho2 : old.length = 256) (hr : Row w g 29 (pgA old))
    (h : ∀ w', Row w' g 29 (pgA p) → w.grownBy w' (some g) → wpListIn F nn Tryd.prog ops Q rest (a.put o.dst undef) w') : wpListIn F nn Tryd.prog ops Q (o :: rest) a w :=
  wpListIn_does hF hgd (by intro c; rw [ho]; simp) (R := fun v w' => v = undef ∧ Row w' g 29 (pgA p) ∧ w.grownBy w' (some g))
    (does_store_row 29 x y ho g (pgA p) hx hy (pgA old) _ hr (by rw [pgA_size, hl]; exact pg_info) (by rw [pgA_size, pgA_size, hl, ho2]) (pgA_one p) fun w' h1 h2 => ⟨rfl, h1, h2⟩)
    (by rintro v w' ⟨rfl, h1, h2⟩; exact h w' h1 h2)
theorem wpListIn_append_els {α : Type} {s : Nat} {f : α → List Value} {P : Program} {t e : TypeId} {by' : Nat} (T : ElT P t e s by') (h1c : ∀ x : α, ∀ u ∈ f x, u.oneCell' = true) (hF : WideF F) (hgd : o.guard = none) (y x : Operand)
    (ho : o.op = .call { callee := .builtin .append, args := #[y, x], argTypes := #[t, t] }) (base B : Nat) (l m : List α) (hv : Own' e s f base w (a.eval y) l) (hx : Els s f B w (a.eval x) m)
    (hlen : l.length + m.length ≤ maxLen) (hby : (l.length + m.length) * by' ≤ 140737488355328) (hb : base ≤ w.heap.size)
    (h : ∀ v' w', Own' e s f base w' v' (l ++ m) → w.grownBy w' (a.eval y).ownBlock → (v'.ownBlock = (a.eval y).ownBlock ∨ v'.ownBlock = some w.heap.size) → wpListIn F nn P ops Q rest (a.put o.dst v') w') : wpListIn F nn P ops Q (o :: rest) a w :=
  wpListIn_does hF hgd (by intro c; rw [ho]; simp) (R := fun v' w' => Own' e s f base w' v' (l ++ m) ∧ w.grownBy w' (a.eval y).ownBlock ∧ (v'.ownBlock = (a.eval y).ownBlock ∨ v'.ownBlock = some w.heap.size))
    (does_append_els T h1c y x ho base B l m hv hx hlen hby hb fun v' w' h1 h2 h3 => ⟨h1, h2, h3⟩) (by rintro v w' ⟨h1, h2, h3⟩; exact h v w' h1 h2 h3)
end
end
end Go.Proofs.YtnigflobmiiefaaDoor
