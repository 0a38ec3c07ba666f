/- A region whose order is open, inside a fence (in a round of a range over a function too): reads in any order, then the rest in the text's order. No function of the program. -/
import Derived.WalkKit
import Derived.StillTailTactics
import Derived.OwnWalkIn
import Derived.TacticsInMore
import Derived.OrdersIn
namespace Go.Proofs.Ytfcghkmhcfgfkaa
open Go.RowKit

/-- Operations that enter no function. -/
def plainOp : Op → Bool
  | .move _ | .assign _ | .pick _ _ _ | .alloc _ | .box _ _ | .build _ _ | .load _ _ | .store _ _ _ | .binOp _ _ _ _ _ | .unOp _ _ _ | .convert _ _ _ => true
  | .fieldAddr _ _ _ | .field _ _ _ | .indexAddr _ _ _ | .index _ _ _ | .extract _ _ | .slice _ _ _ _ _ | .makeInterface _ _ => true
  | .call c => match c.callee with | .builtin .len => true | _ => false
  | _ => false

theorem run_value {α : Type} {P : Program} {w : World} (s : Sem α) (f : α → Next) {r : Next} {w' : World} (h : (s >>= fun x => pure (f x)).run P w = .ok r w') : ∃ x, r = f x := by
  rw [Sem.run_bind] at h
  cases hs : s.run P w with
  | ok a w1 => rw [hs] at h; simp [Result.andThen] at h; exact ⟨a, h.1.symm⟩
  | halt x w1 => rw [hs] at h; simp [Result.andThen] at h

theorem plain_ends {P : Program} {w w' : World} {ρ : Operand → Value} {o : Oper} {r : Next} (hp : plainOp o.op = true) (h : (execOp ρ o).run P w = .ok r w') : (∃ v, r = .value v) ∨ r = .skip := by
  unfold execOp at h
  cases ho : o.op <;> simp only [ho, plainOp, Bool.false_eq_true] at hp h
  case move => simp at h; exact .inl ⟨_, h.1.symm⟩
  case assign => simp at h; exact .inl ⟨_, h.1.symm⟩
  case call c =>
    split at hp
    · rename_i hc
      simp only [resolve, hc, Sem.run_bind, Sem.run_pure, Result.andThen_ok, invoke, builtin] at h
      obtain ⟨x, hx⟩ := run_value _ (fun x => Next.value x) (by simpa only [Sem.run_bind, Sem.run_pure] using h); exact .inl ⟨x, hx⟩
    · cases hp
  case store => obtain ⟨x, hx⟩ := run_value _ (fun _ => Next.skip) h; exact .inr hx
  all_goals (first | (obtain ⟨x, hx⟩ := run_value _ (fun x => Next.value x) h; exact .inl ⟨x, hx⟩) | (obtain ⟨x, hx⟩ := run_value _ _ h; exact .inl ⟨_, hx⟩))

theorem plain_about {P : Program} {w : World} {ρ : Operand → Value} {o : Oper} (hp : plainOp o.op = true) : o.about P w ρ = none := by
  unfold Oper.about
  cases ho : o.op <;> simp only [ho, plainOp, Bool.false_eq_true] at hp ⊢
  split at hp
  · rename_i hc
    simp [resolve, hc, Target.leads]
  · cases hp
theorem plain_nodefer {o : Oper} (hp : plainOp o.op = true) (c : Call) : o.op ≠ .defer c := by
  intro h; rw [h] at hp; simp [plainOp] at hp

section
variable {P : Program} {F : Fence} {n : Nat} {ops : Array Oper}
/-- Q, and the model does not run out of memory. -/
def Kept (Q : Exit → Act → World → Prop) (e : Exit) (a : Act) (w : World) : Prop := e ≠ .outgrown ∧ Q e a w
theorem not_out (Q : Exit → Act → World → Prop) : ¬ LetsOut (Kept Q) := fun ⟨_, _, h⟩ => h.1 rfl

theorem plain_in {o : Oper} {a : Act} {w : World} {K : Act → World → Prop} {Q : Exit → Act → World → Prop} (hp : plainOp o.op = true) (h : o.wp P a w K (Kept Q)) : o.wpIn F n P a w K Q := by
  refine ⟨fun f hf => (by rw [plain_about hp] at hf; cases hf), ?_⟩
  rw [Oper.semAt_eq F.round a.eval o (plain_nodefer hp)]
  unfold Oper.wp at h
  generalize hr : (execOp a.eval o).run P w = r at h ⊢
  cases r with
  | ok x w' =>
    rcases plain_ends hp hr with ⟨v, rfl⟩ | rfl
    · exact h
    · exact h
  | halt x w' =>
    cases x <;> first | exact h | (exact h.2)

theorem any_in {md : Region.Mode} {Q : Exit → Act → World → Prop} (hp : ∀ (i : Nat) o, ops[i]? = some o → plainOp o.op = true) :
    ∀ (fuel : Nat) (listed : Array Bool) (a : Act) (w : World), wpAny P md ops (Kept Q) fuel listed a w → wpAnyIn F n P md ops Q fuel listed a w
  | 0, _, _, _, h => ⟨h.1, h.2.2⟩
  | fuel + 1, listed, a, w, h => by
    refine ⟨fun h0 => (h.1 h0).2, fun i hi => ?_⟩
    have h2 := h.2 i hi
    unfold wpOp at h2
    unfold wpOpIn
    cases ho : ops[i]? with
    | none => simp only [ho] at h2 ⊢; exact any_in hp fuel _ a w h2
    | some o =>
      simp only [ho] at h2 ⊢
      split
      · rename_i hw
        simp only [hw, if_true] at h2
        rcases h2 with h2 | ⟨_, h2⟩
        · exact plain_in (hp i o ho) (Oper.wp_mono (fun a w => any_in hp fuel _ a w) h2)
        · exact absurd h2 (not_out Q)
      · rename_i hw
        simp only [hw, Bool.false_eq_true, if_false] at h2
        exact ⟨fun f hf => (by rw [plain_about (hp i o ho)] at hf; cases hf), any_in hp fuel _ _ w h2⟩

/-- The reads ahead of place k in any order, what is behind in the text's. -/
theorem wpIn_region_still_tail {id : Nat} {Q : Exit → Act → World → Prop} {a : Act} {w : World} {l : List Oper} (k : Nat) (hm : P.follows .mixedOrders = true) (hpl : l.all (fun o => plainOp o.op) = true) (hB : Region.lexTailB .any l.toArray k = true)
    (h : wpStill P l.toArray { w with drawn := w.drawn + 1 } (fun a' => wpList P l.toArray (Kept Q) (l.drop k) a' { w with drawn := w.drawn + 1 }) (l.take k) a) : (Code.region id l.toArray true).wpIn F n P Q a w := by
  simp only [Region.lexTailB, Bool.and_eq_true, decide_eq_true_eq] at hB
  obtain ⟨⟨⟨⟨hsel, hn⟩, hs⟩, hc⟩, hlex⟩ := hB
  have hn' : k < l.length := by simpa using hn
  have htl : (l.take k).length = k := by simp; omega
  have hdl : (l.drop k).length = l.toArray.size - k := by simp
  have inv0 : HeadInv .any l.toArray k (Array.replicate l.toArray.size false) :=
    ⟨by simp, fun j oj _ hl => (by rw [getD_replicate_false] at hl; cases hl), fun t _ ht => getD_in (by simpa using ht) (getD_replicate_false _ _)⟩
  have H := wpAnyL_lex (md := .any) (g := l.toArray.size - k) hsel hs hc hn (l.take k) 0 _ a (fun j hj => by
    have hj' : j < k := by rw [htl] at hj; exact hj
    simp [hj']) (by simpa using htl) inv0 (by rw [htl]; exact hlex) h
  refine wpIn_region_any hm (any_in (fun i o ho => ?_) _ _ _ _ ?_)
  · refine List.all_eq_true.1 hpl o ?_
    have : l[i]? = some o := by simpa using ho
    exact List.mem_of_getElem? this
  · have := wpAny_of_head (Q' := Kept Q) (g := l.toArray.size - k) (fun listed a' hL => by
      have := wpAny_of_seq (md := .any) (Q' := Kept Q) (l.drop k) k listed a' { w with drawn := w.drawn + 1 } (fun j => by simp [List.getElem?_drop]) (by rw [hdl]; exact hL.1) hL.2
      rwa [hdl] at this) _ _ _ H
    rw [htl, show k + (l.toArray.size - k) = l.toArray.size by omega] at this
    exact this
end
end Go.Proofs.Ytfcghkmhcfgfkaa
