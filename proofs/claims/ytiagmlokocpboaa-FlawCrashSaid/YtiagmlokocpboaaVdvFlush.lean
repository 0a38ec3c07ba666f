/- VdvFlush -/
import Derived.Test.YtiagmlokocpboaaVdFlM
import Derived.Test.YtiagmlokocpboaaVdvRead
/- vdev.Flush. -/
namespace Go.Proofs.Ytiagmlokocpboaa
open Go.RowKit Go.Shelf
set_option linter.unusedVariables false
set_option linter.unusedSimpArgs false
attribute [local go_sem] Oper.semAt_some
theorem own_stays {α β : Type} (e : TypeId) (s : Nat) (f : α → List Value) (base : Nat) (v : Value) (l : β → List α) : Own (fun (b : β) W => Own' e s f base W v (l b)) := fun b X Y row hs hg hr => by
  refine ⟨hs.1, hs.2.kept hg ?_⟩
  rcases hs.2.2 with ⟨rfl, _⟩ | ⟨g, cap, cur, rfl, _, hh, _⟩
  · exact .inl rfl
  · refine .inr fun hb => ?_
    obtain ⟨o, ho, hc⟩ := hr g hb.symm
    rw [hh] at ho
    cases ho
    cases hc
theorem own_mark_ne {α : Type} {e : TypeId} {s : Nat} {f : α → List Value} {base : Nat} {w : World} {v : Value} {l : List α} (h : Own' e s f base w v l) {D : Nat} {ds : Option (List Deferred)} (hk : w.heap[D]? = some (.deferred ds)) : some D ≠ v.ownBlock := fun e => by
  rcases h.2.2 with ⟨rfl, _⟩ | ⟨g, cap, cur, rfl, _, hh, _⟩
  · cases e
  · simp only [Value.ownBlock, Option.some.injEq] at e
    subst e
    rw [hh] at hk
    cases hk
theorem own_kept {α : Type} {e : TypeId} {s : Nat} {f : α → List Value} {base : Nat} {w w' : World} {g : Nat} {n c : Nat} {l : List α} (h : Own' e s f base w (.slice (some ⟨g, 0, none⟩) n c) l) {row : Option Nat} (hg : w.grownBy w' row) (hne : some g ≠ row) : Own' e s f base w' (.slice (some ⟨g, 0, none⟩) n c) l :=
  ⟨h.1, h.2.kept hg (.inr hne)⟩
theorem ints_one (W : World) (x : Int) : Els 1 intE (W.heap.size + 1) (W.alloc (.cells #[.int .i64 x] 3)) (.slice (some ⟨W.heap.size, 0, none⟩) 1 1) [x] := by
  refine ⟨fun y hy => rfl, _, 1, rfl, Nat.le_refl _, by decide, fun _ => ⟨W.heap.size, 0, rfl, Nat.lt_succ_self _, fun j u hu => ?_⟩⟩
  rw [Nat.zero_add, (Row.new W 3 #[.int .i64 x]).cell]
  simpa [intE] using hu
theorem own_put {α : Type} {e : TypeId} {s : Nat} {f : α → List Value} {base : Nat} {w : World} {v : Value} {l : List α} (h : Own' e s f base w v l) {D : Nat} {ds : Option (List Deferred)} (hk : w.heap[D]? = some (.deferred ds)) (o : Obj) : Own' e s f base (w.putObj D o) v l :=
  own_stays e s f base v (fun _ : Unit => l) () w _ (some D) h (grownBy_putObj' _ _ _) (fun r er => by cases er; exact ⟨_, hk, rfl⟩)
def onZ : Array Value := Array.replicate 256 (.bool false)
end Go.Proofs.Ytiagmlokocpboaa
