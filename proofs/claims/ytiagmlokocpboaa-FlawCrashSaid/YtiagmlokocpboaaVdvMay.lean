/- VdvMay -/
import Derived.Test.YtiagmlokocpboaaVdRef
import Derived.Test.YtiagmlokocpboaaVdIter
import Derived.Test.YtiagmlokocpboaaBaseA
import Derived.BigRegionIn
import Derived.Shelf.Abstract
import Derived.ProofKit
import Derived.OpenShut
import Derived.Stop.RegionWithIn
import Derived.Scope
/- vdev.May: which disks may be. -/
namespace Go.Proofs.Ytiagmlokocpboaa
open Go.RowKit Go.Shelf
set_option linter.unusedVariables false
set_option linter.unusedSimpArgs false
attribute [local go_sem] Oper.semAt_some
theorem row_stays (g : Nat) (t : TypeId) (cs : Array Value) {β : Type} : Own (fun (_ : β) W => Row W g t cs) := fun s X Y row hs hg hr =>
  hs.grown hg fun e => by obtain ⟨o, ho, hc⟩ := hr _ e.symm; rw [show X.heap[g]? = _ from hs] at ho; cases ho; cases hc
theorem row_varies {β : Type} (g : Nat) (t : TypeId) (cs : β → Array Value) : Own (fun (s : β) W => Row W g t (cs s)) := fun s X Y row hs hg hr =>
  hs.grown hg fun e => by obtain ⟨o, ho, hc⟩ := hr _ e.symm; rw [show X.heap[g]? = _ from hs] at ho; cases ho; cases hc
theorem results_bool_cell {fn : Func} {p : Tmp} {w : World} {g : Nat} {b : Bool} (h : fn.results = #[.cell p 4]) (tmps : Array Value) (hp : tmps.getD p undef = .pointer (some ⟨g, 0, none⟩)) (hr : Row w g 4 #[.bool b]) :
    (results fn tmps).run Try.prog w = .ok (.bool b) w := by
  have hp' : tmps[p]?.getD undef = .pointer (some ⟨g, 0, none⟩) := by simpa using hp
  have hc : w.cell? ⟨g, 0, none⟩ = some (.bool b) := hr.cell 0
  have hagg : (isAgg 4).run Try.prog w = .ok false w := by
    unfold isAgg
    rw [Sem.run_bind, run_underlying Try.underlying4 w]
    rfl
  simp [results, h, hp', asAddr, loadVar, hagg, go_sem, hc]
theorem dk_run_load {w : World} {g : Nat} {D : Array Value} (h4 : D.size = 4) (hr : Row w g 26 D) : (loadVar 26 ⟨g, 0, none⟩).run Try.prog w = .ok (.agg D) w :=
  run_loadVar_row w g 26 26 D (0, 0) _ hr Try.underlying26 rfl (by rw [h4]; kernel_rfl)
theorem wpListIn_load_dk {F : Fence} {nn : Nat} {w : World} {ops : Array Oper} {rest : List Oper} {o : Oper} {a : Act} {Q : Exit → Act → World → Prop} (hgd : o.guard = none) (x : Operand) (ho : o.op = .load 26 x) (g : Nat) (D : Array Value) (hx : a.eval x = .pointer (some ⟨g, 0, none⟩)) (hr : Row w g 26 D) (h4 : D.size = 4)
    (h : wpListIn F nn Try.prog ops Q rest (a.put o.dst (.agg D)) w) : wpListIn F nn Try.prog ops Q (o :: rest) a w :=
  wpListIn_load_row hgd 26 x ho g hx 26 D (0, 0) _ hr Try.underlying26 rfl (by rw [h4]; kernel_rfl) h
theorem Row.kept_put {w : World} {g l : Nat} {t : TypeId} {cs : Array Value} (h : Row w g t cs) {ds : Option (List Deferred)} (hl : w.heap[l]? = some (.deferred ds)) (o : Obj) : Row (w.putObj l o) g t cs :=
  (World.putObj_heap_other (fun e => by subst e; rw [show w.heap[g]? = _ from h] at hl; cases hl)).trans h
theorem Row.ne_mark {w : World} {g l : Nat} {t : TypeId} {cs : Array Value} (h : Row w g t cs) {ds : Option (List Deferred)} (hl : w.heap[l]? = some (.deferred ds)) : l ≠ g := fun e => by subst e; rw [show w.heap[l]? = _ from h] at hl; cases hl
theorem mark_set {w : World} {l : Nat} {ds : Option (List Deferred)} (hl : w.heap[l]? = some (.deferred ds)) {p : Addr} (hp : l ≠ p.block) (u : Value) : (w.setCell p u).heap[l]? = some (.deferred ds) := (Below.heap_setCell w p u l hp).trans hl
theorem others_of_grows {w w' : World} (h : Grows w w') : KeepsOthers w w' := KeepsOthers.of_grownBy h.grownBy (fun j o e => by cases e)
theorem KeptAt.rows {b : Nat} {t : TypeId} {cs : Array Value} {W W' : World} (h : Row W b t cs) (h' : Row W' b t cs) : KeptAt b W W' := Eq.trans h' (Eq.symm h)
/-- A round keeps it: all writes so far lie on the disk. -/
def InvM (w : World) (D : Array Value) (C : Value) (n : Nat) (c : List (Int × Pg)) (pre : List (Fin c.length)) (W : World) : Prop :=
  (∀ j ∈ pre, 0 ≤ (c[j.val]).1 ∧ (c[j.val]).1 < n) ∧ Row W w.heap.size 26 D ∧ Row W (w.heap.size + 1) 4 #[.bool false] ∧ Row W (w.heap.size + 1 + 1) 23 #[C] ∧ Below w.heap.size w W
def LeftM (w : World) (n : Nat) (c : List (Int × Pg)) (cd : Code) (pre : List (Fin c.length)) (W : World) : Prop :=
  (cd = .ret ∧ ∃ j : Fin c.length, ¬ (0 ≤ (c[j.val]).1 ∧ (c[j.val]).1 < n)) ∧ Row W (w.heap.size + 1) 4 #[.bool false] ∧ Below w.heap.size w W
end Go.Proofs.Ytiagmlokocpboaa
