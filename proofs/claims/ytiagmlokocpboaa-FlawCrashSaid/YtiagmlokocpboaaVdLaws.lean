/- VdLaws -/
import Derived.Test.YtiagmlokocpboaaVdWakes
import Derived.Test.YtiagmlokocpboaaVdSame
import Derived.Test.YtiagmlokocpboaaVdLawM
import Derived.Test.YtiagmlokocpboaaVdvWaits
/- What the statements' walks share: slices of disks as they are laid, what lies and stays, the law's 'same'. -/
namespace Go.Proofs.Ytiagmlokocpboaa
open Go.RowKit
set_option linter.unusedVariables false
set_option linter.unusedSimpArgs false
theorem builtSlice_disks (Ds : List (Array Value)) (h : ∀ D ∈ Ds, D.size = 4) (n : Nat) (hn : Ds.length = n) (h0 : 0 < n) (h3 : n ≤ 100) : Try.prog.builtSlice 26 n (((Ds.map Value.agg).zipIdx).map fun (v, i) => (i, v)) = some (Ds.flatMap (·.toList)).toArray := by
  subst hn
  have hi : (Try.prog.info? 26).bind (fun i => i.zero.map (fun z => (z.cells.size, i.size))) = some (4, 4) := by kernel_rfl
  obtain ⟨it, hit, hz⟩ := Option.bind_eq_some_iff.1 hi
  obtain ⟨z, hz, hzs⟩ := Option.map_eq_some_iff.1 hz
  simp only [Prod.mk.injEq] at hzs
  obtain ⟨h1, h2⟩ := hzs
  unfold Program.builtSlice
  rw [hit]
  simp only [hz, h2]
  rw [if_neg (by omega)]
  have := Great.fill_whole (s := 4) (by omega) (Ds.map Value.agg) ((Array.range (Ds.length * 4)).map (z.cells[· % z.cells.size]!)) (by
    intro v hv
    obtain ⟨D, hD, rfl⟩ := List.mem_map.1 hv
    exact h D hD) (by simp)
  rw [this, List.flatMap_map]
  rfl
theorem builtSlice_dk (D : Array Value) (h4 : D.size = 4) : Try.prog.builtSlice 26 1 [(0, .agg D)] = some D := by
  have := builtSlice_disks [D] (by simpa using h4) 1 rfl (by omega) (by omega)
  simpa using this
section
variable {w : World} {ops : Array Oper} {rest : List Oper} {o : Oper} {a : Act} {Q : Exit → Act → World → Prop}
theorem wpList_loadG_dk (hw : Region.wanted o (yielded ops a.tmps) = true) (x : Operand) (ho : o.op = .load 26 x) (g : Nat) (D : Array Value) (hx : a.eval x = .pointer (some ⟨g, 0, none⟩)) (hr : Row w g 26 D) (h4 : D.size = 4)
    (h : wpList Try.prog ops Q rest (a.put o.dst (.agg D)) w) : wpList Try.prog ops Q (o :: rest) a w :=
  wpList_does hw (R := fun v w' => v = .agg D ∧ w' = w) (dk_load 26 x ⟨g, 0, none⟩ _ ho hx (dk_run_load h4 hr) ⟨rfl, rfl⟩) (by rintro v w' ⟨rfl, rfl⟩; exact h)
end
/-- A disk of one's own stays where a block below it is written. -/
theorem OwnDisk.aside {base : Nat} {w w' : World} {v : Value} {d : Dk} (h : OwnDisk base w v d) {j : Nat} (hg : w.grownBy w' (some j)) (hj : j < base) : OwnDisk base w' v d := by
  obtain ⟨pv, cv, bv, h0, h1, h2, h3⟩ := h
  have key : ∀ {α : Type} {e : TypeId} {s : Nat} {f : α → List Value} {v : Value} {l : List α}, Own' e s f base w v l → Own' e s f base w' v l := fun {α e s f v l} h => by
    refine ⟨h.1, h.2.kept hg (.inr fun hb => ?_)⟩
    have := own_low h j hb
    omega
  exact ⟨pv, cv, bv, h0, key h1, key h2, key h3⟩
/-- Rows that lie, and worlds that all stays of, below. -/
structure Live (rows : List (Nat × TypeId × Array Value)) (ch : List World) (W : World) : Prop where
  row : ∀ (i : Nat) (r : Nat × TypeId × Array Value), rows[i]? = some r → Row W r.1 r.2.1 r.2.2
  below : ∀ (i : Nat) (c : World), ch[i]? = some c → Below c.heap.size c W
section
variable {rows : List (Nat × TypeId × Array Value)} {ch : List World} {W W' : World}
theorem Live.grows (h : Live rows ch W) (hg : Grows W W') : Live rows ch W' := ⟨fun i r hr => (h.row i r hr).grows hg, fun i c hc => (h.below i c hc).trans (Below.mono hg (h.below i c hc).size)⟩
theorem Live.push (h : Live rows ch W) {b : Nat} {t : TypeId} {cs : Array Value} (hr : Row W b t cs) : Live (rows ++ [(b, t, cs)]) ch W := by
  refine ⟨fun i r hi => ?_, h.below⟩
  rw [List.getElem?_append] at hi
  split at hi
  · exact h.row i r hi
  · rw [List.getElem?_singleton] at hi
    split at hi
    · cases hi; exact hr
    · cases hi
theorem Live.mark (h : Live rows ch W) : Live rows (ch ++ [W]) W := by
  refine ⟨h.row, fun i c hi => ?_⟩
  rw [List.getElem?_append] at hi
  split at hi
  · exact h.below i c hi
  · rw [List.getElem?_singleton] at hi
    split at hi
    · cases hi; exact Below.refl _ _
    · cases hi
theorem Live.store (h : Live rows ch W) {j : Nat} {t : TypeId} {new : Array Value} (hg : W.grownBy W' (some j)) (hr : Row W' j t new) (i : Nat) (hne : ∀ k r, rows[k]? = some r → k ≠ i → r.1 ≠ j) (hch : ∀ c ∈ ch, c.heap.size ≤ j) : Live (rows.set i (j, t, new)) ch W' := by
  refine ⟨fun k r hk => ?_, fun k c hc => (h.below k c hc).grown hg (h.below k c hc).size fun x e => by cases e; exact hch c (List.mem_of_getElem? hc)⟩
  rw [List.getElem?_set] at hk
  split at hk
  · split at hk
    · cases hk; exact hr
    · cases hk
  · rename_i hki
    exact (h.row k r hk).grown hg (by have := hne k r hk (fun e => hki e.symm); simpa using this)
theorem Live.cell (h : Live rows ch W) (i : Nat) {b : Nat} {t : TypeId} {cs : Array Value} (hi : rows[i]? = some (b, t, cs)) (k : Nat) : W.cell? ⟨b, k, none⟩ = cs[k]? := (h.row i _ hi).cell k
theorem Live.frozen (h : Live rows ch W) (i : Nat) {b : Nat} {t : TypeId} {cs : Array Value} (hi : rows[i]? = some (b, t, cs)) (k : Nat) : W.frozen? ⟨b, k, none⟩ = false := (h.row i _ hi).frozen k
/-- A disk that lay when a world was marked lies. -/
theorem Live.disk (h : Live rows ch W) (i : Nat) {c : World} (hi : ch[i]? = some c) {v : Value} {d : Dk} (hd : IsDisk c.heap.size c v d) : IsDisk W.heap.size W v d := (hd.below (h.below i c hi)).more (Below.size (h.below i c hi))
end
theorem grown_fresh {W W1 W' : World} {o : Obj} (h1 : W1 = W.alloc o) (hg : W1.grownBy W' (some W.heap.size)) : Grows W W' := by
  subst h1
  exact (Grows.alloc W o).grown hg (by simp) (fun k e => by cases e; exact Nat.le_refl _)
end Go.Proofs.Ytiagmlokocpboaa
