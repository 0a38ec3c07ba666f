/- Tells -/
import Derived.Test.YtjcommodiihcdaaDoorBaseA
import Derived.RangeFuncNested
import Derived.RangeFuncBound
import Derived.RangeFuncCalls
import Derived.RangeFuncLeaves
import Derived.RangeFuncBox
import Derived.OwnWalkIn
/- A range over a function whose yields come with a word on the world, and that is never left early. No function of the program. -/
namespace Go.Proofs.YtjcommodiihcdaaDoor
open Go.RowKit
set_option linter.unusedVariables false
set_option linter.unusedSimpArgs false
/-- What stays where the heap only grows. -/
def Lasts {α : Type} (J : List α → World → Prop) : Prop := ∀ s W W', J s W → Grows W W' → J s W'
/-- Where nothing but a block from B on that holds no cells is turned. -/
def Turns (B : Nat) (W W' : World) : Prop := ∃ l o o', B ≤ l ∧ W.heap[l]? = some o ∧ o.isCells = false ∧ W' = W.putObj l o'
/-- The function g yields one after the other, each with its word Px on the world; what it has yielded at its end is S. It asks of a round that Kp be kept. -/
def Tells {α : Type} (n : Nat) (P : Program) (g : Nat) (lb : Array Value) (encs : α → Array Value) (Px : α → World → Prop) (Kp : World → World → Prop) (S : List α → Prop) (N : Nat) (w : World) : Prop :=
  ∀ (l : Nat) (J : List α → World → Prop) (W : World), Grows w W → Lasts J →
    (∀ pre x W1, J pre W1 → Px x W1 → pre.length < N → YieldAt Fence.wide (n - 1) P l (encs x) W1 fun e W' => e = .returned (.bool true) ∧ J (pre ++ [x]) W' ∧ Kp W1 W') →
    J [] W → CallsIn Fence.wide n P g (#[.func (.yield l) #[] #[]] ++ lb) W fun e W' => (∃ v, e = .returned v) ∧ ∃ xs, S xs ∧ J xs W'
theorem wpIn_range_tells {α : Type} {n : Nat} {P : Program} {g : Operand} {ps : Array Tmp} {assign body : Code} {Q : Exit → Act → World → Prop} {a : Act} {w : World}
    (h1 : 1 ≤ n) {gf : Nat} {lb : Array Value} (hg : a.eval g = .func (.func gf) #[] lb) (eg : ∀ args w, (callFunc gf args).run P w = .ok (.enter gf args) w)
    {encs : α → Array Value} {Px : α → World → Prop} {Kp : World → World → Prop} {S : List α → Prop} {N : Nat} (hseq : Tells (n - 1) P gf lb encs Px Kp S N w) (hps : ∀ x, (encs x).size = ps.size)
    (hKt : ∀ {A B C : World}, Kp A B → Kp B C → Kp A C) (hKb : ∀ W W', w.heap.size ≤ W.heap.size → Turns w.heap.size W W' → Kp W W')
    (I : List α → World → Prop) (hI : Lasts I) (hIb : ∀ s W W', I s W → Turns w.heap.size W W' → I s W') (h0 : I [] w)
    (Ax : List α → α → Act → World → Prop) (hAb : ∀ s x a W W', Ax s x a W → Turns w.heap.size W W' → Ax s x a W')
    (hassign : ∀ (l : Nat) (pre : List α) (x : α) (W : World), I pre W → Px x W → pre.length < N → w.heap.size ≤ W.heap.size →
      assign.wpIn (Fence.wide.inRound l) (n - 1 - 1) P (Exit.then (fun a₁ W₁ => KeepsFrom w.heap.size W W₁ ∧ Kp W W₁ ∧ Ax pre x a₁ W₁) (fun _ _ _ => False)) { tmps := (ps.zip (encs x)).foldl (fun t (p, v) => t.setIfInBounds p v) a.tmps, defers := [] } W)
    (hbody : ∀ (l : Nat) (pre : List α) (x : α) (a₁ : Act) (W : World), Ax pre x a₁ W → w.heap.size ≤ W.heap.size →
      body.wpIn (Fence.wide.inRound l) (n - 1 - 1) P (fun e _ W' => e = .normal ∧ KeepsFrom w.heap.size W W' ∧ Kp W W' ∧ I (pre ++ [x]) W') a₁ W)
    (hdone : ∀ (D : Nat) (xs : List α) (W : World), w.heap.size ≤ D → S xs → I xs W → W.heap[D]? = some (.deferred (some [])) → Q .normal { a with defers := { target := .collected D, args := #[] } :: a.defers } W) :
    (Code.rangeFunc g ps assign body).wpIn Fence.wide n P Q a w := by
  refine wpIn_rangeFunc fun fn _ => ?_
  rw [show Fence.wide.round = none from rfl]
  -- the record of the loop, by its state
  let rc : LoopState → Option Code → Loop := fun st pe => { state := st, pending := pe, fn, tmps := a.tmps, params := ps, assign, body, defers := w.heap.size }
  obtain ⟨W1, hW1⟩ : ∃ W1, (w.alloc (.deferred (some []))).alloc (.loop (rc .ready none)) = W1 := ⟨_, rfl⟩
  have hL1 : W1.heap[w.heap.size + 1]? = some (.loop (rc .ready none)) := by
    rw [← hW1]; have := World.alloc_heap_new (w.alloc (.deferred (some []))) (.loop (rc .ready none)); rwa [World.size_alloc] at this
  have hD1 : W1.heap[w.heap.size]? = some (.deferred (some [])) := by
    rw [← hW1]; exact (Below.heap_alloc _ _ _ (by simp)).trans (World.alloc_heap_new w _)
  have hg1 : Grows w W1 := by rw [← hW1]; exact (Grows.alloc w _).trans (Grows.alloc _ _)
  refine ⟨w.heap.size + 1, [{ target := .collected w.heap.size, args := #[] }], W1, { target := .fn (.func gf) lb, args := #[.func (.yield (w.heap.size + 1)) #[] #[]] }, W1, gf,
    #[.func (.yield (w.heap.size + 1)) #[] #[]] ++ lb, W1, ?_, ?_, ?_, ?_, fun _ => h1, ?_⟩
  · rw [← hW1]; exact run_enterLoop_outer _ _ _ _ _
  · simp only [resolve, hg]
    simp [go_sem]
  · intro f' hf'
    exact trivial
  · simp [invoke, go_sem, eg]
  -- its rounds
  have turn : ∀ {W : World} {o o' : Obj}, W.heap[w.heap.size + 1]? = some o → o.isCells = false → Turns w.heap.size W (W.putObj (w.heap.size + 1) o') := fun {W o o'} h ho => ⟨_, o, o', by omega, h, ho, rfl⟩
  refine (hseq (w.heap.size + 1) (fun pre W => I pre W ∧ W.heap[w.heap.size + 1]? = some (.loop (rc .ready none)) ∧ W.heap[w.heap.size]? = some (.deferred (some []))) W1 hg1
    (fun s A B h hAB => ⟨hI s A B h.1 hAB, (Below.block hAB _ (Array.getElem?_eq_some_iff.1 h.2.1).1).trans h.2.1, (Below.block hAB _ (Array.getElem?_eq_some_iff.1 h.2.2).1).trans h.2.2⟩) ?_ ⟨hI _ _ _ h0 hg1, hL1, hD1⟩).mono ?_
  · rintro pre x W ⟨hi, hl, hd⟩ hx hN
    have hlt : w.heap.size + 1 < W.heap.size := (Array.getElem?_eq_some_iff.1 hl).1
    refine ⟨fn, _, assign, body, run_yield (P := P) (args := encs x) hl (hps x), roundIn_of_wpIn trivial (wpIn_mono (hassign _ pre x W hi hx hN (by omega)) ?_)⟩
    rintro e a₁ Wa hp
    cases e with
    | normal =>
      obtain ⟨ka, pa, ax⟩ := hp
      have hla := ka.same _ _ (by omega) hl rfl
      have hda := ka.same _ _ (Nat.le_refl _) hd rfl
      have hlta : w.heap.size + 1 < Wa.heap.size := (Array.getElem?_eq_some_iff.1 hla).1
      refine ⟨_, run_beginRound hla rfl, ?_⟩
      have hlb : (Wa.putObj (w.heap.size + 1) (.loop { rc .ready none with state := .busy })).heap[w.heap.size + 1]? = some (.loop { rc .ready none with state := .busy }) := World.putObj_heap_same hlta
      have hdb : (Wa.putObj (w.heap.size + 1) (.loop { rc .ready none with state := .busy })).heap[w.heap.size]? = some (.deferred (some [])) := (World.putObj_heap_other (by omega)).trans hda
      have tb := turn (o' := .loop { rc .ready none with state := .busy }) hla rfl
      refine wpIn_mono (hbody _ pre x a₁ _ (hAb _ _ _ _ _ ax tb) (by rw [World.putObj_size]; omega)) ?_
      rintro e a₂ Wb ⟨rfl, kb, pb, hb⟩
      have hlc := kb.same _ _ (by omega) hlb rfl
      have hdc := kb.same _ _ (Nat.le_refl _) hdb rfl
      have tc := turn (o' := .loop (rc .ready none)) hlc rfl
      have hltc : w.heap.size + 1 < Wb.heap.size := (Array.getElem?_eq_some_iff.1 hlc).1
      exact ⟨_, _, run_endRound (P := P) none hlc, rfl, ⟨hIb _ _ _ hb tc, World.putObj_heap_same hltc, (World.putObj_heap_other (by omega)).trans hdc⟩,
        hKt pa (hKt (hKb _ _ (by omega) tb) (hKt pb (hKb _ _ (by omega) tc)))⟩
    | exit id => exact hp.elim
    | goto t => exact hp.elim
    | ret => exact hp.elim
    | panic chain => exact hp.elim
    | outgrown => exact hp.elim
  · rintro e W2 ⟨⟨v, rfl⟩, xs, hS, hi, hl, hd⟩
    exact ⟨none, _, run_endLoop (P := P) hl (by intro h; cases h), hdone _ xs _ (Nat.le_refl _) hS (hIb _ _ _ hi (turn hl rfl)) ((World.putObj_heap_other (by omega)).trans hd)⟩
end Go.Proofs.YtjcommodiihcdaaDoor
