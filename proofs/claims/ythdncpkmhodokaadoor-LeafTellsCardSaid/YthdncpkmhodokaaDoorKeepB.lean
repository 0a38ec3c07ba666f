/- KeepB -/
import Derived.Test.YthdncpkmhodokaaDoorFreeG
import Derived.Test.YthdncpkmhodokaaDoorApp
/- A byte put behind a row of one's own where the order is open: what stays. No function of the program. -/
namespace Go.Proofs.YthdncpkmhodokaaDoor
open Go.RowKit
set_option linter.unusedVariables false
set_option linter.unusedSimpArgs false
/-- From B on, each row of bytes keeps what it has of L, and a row that is just n stays. -/
def KeepsB (B : Nat) (n : BitVec 8) (L : List (BitVec 8)) (w w' : World) : Prop :=
  B ≤ w.heap.size → Below B w w' ∧ ∀ g cs, Row w g 5 cs → ∃ cs', Row w' g 5 cs' ∧ cs'.size = cs.size ∧ (cs = #[.int .u8 (bI n)] → cs' = cs) ∧ ∀ (i : Nat) (x : BitVec 8), L[i]? = some x → cs[i]? = some (byteV x) → cs'[i]? = some (byteV x)
section
variable {B : Nat} {n : BitVec 8} {L l : List (BitVec 8)} {w w' : World}
theorem KeepsB.rel : GRel (KeepsB B n L) where
  refl := fun w _ => ⟨Below.refl _ _, fun g cs h => ⟨cs, h, rfl, fun _ => rfl, fun _ _ _ h => h⟩⟩
  trans := fun {a b c} h k hB => by
    obtain ⟨h1, h2⟩ := h hB
    obtain ⟨k1, k2⟩ := k (Nat.le_trans hB h1.size)
    refine ⟨h1.trans k1, fun g cs hr => ?_⟩
    obtain ⟨cs1, r1, s1, n1, c1⟩ := h2 g cs hr
    obtain ⟨cs2, r2, s2, n2, c2⟩ := k2 g cs1 r1
    refine ⟨cs2, r2, s2.trans s1, fun e => ?_, fun i x hi hx => c2 i x hi (c1 i x hi hx)⟩
    have e1 := n1 e
    rw [n2 (e1.trans e), e1]
theorem KeepsB.of_grows (h : Grows w w') : KeepsB B n L w w' := fun hB =>
  ⟨Below.mono h hB, fun g cs hr => ⟨cs, hr.grows h, rfl, fun _ => rfl, fun _ _ _ h => h⟩⟩
theorem KeepsB.below (h : KeepsB B n L w w') (hB : B ≤ w.heap.size) : Below B w w' := (h hB).1
/-- A row of one's own whose bytes are the first of L. -/
def OwnB (B : Nat) (l : List (BitVec 8)) (v : Value) (w : World) : Prop := B ≤ w.heap.size ∧ Mine B w v l
theorem OwnB.mono (hl : ∀ (i : Nat) (x : BitVec 8), l[i]? = some x → L[i]? = some x) : ∀ v w w', OwnB B l v w → KeepsB B n L w w' → OwnB B l v w' := fun v w w' ⟨hB, h⟩ hk => by
  obtain ⟨k1, k2⟩ := hk hB
  refine ⟨Nat.le_trans hB k1.size, h.1, ?_⟩
  rcases h.2 with h' | ⟨g, cap, cur, e, hb, hh, h1, h2, h3, h4⟩
  · exact .inl h'
  · obtain ⟨cs', r, s, _, c⟩ := k2 g cur hh
    refine .inr ⟨g, cap, cs', e, hb, r, h1, h2, by rw [s]; exact h3, ?_⟩
    rw [Nat.mul_one] at h4 ⊢
    rw [Nat.mul_one] at h3
    apply List.ext_getElem?
    intro i
    by_cases hi : i < l.length
    · have e1 : l[i]? = some l[i] := List.getElem?_eq_getElem hi
      have e2 : (List.map byteV l)[i]? = some (byteV l[i]) := by rw [List.getElem?_map, e1]; rfl
      rw [e2, List.getElem?_take_of_lt hi, Array.getElem?_toList]
      refine c i _ (hl i _ e1) ?_
      rw [← h4, List.getElem?_take_of_lt hi, Array.getElem?_toList] at e2
      exact e2
    · rw [List.getElem?_eq_none (by rw [List.length_take]; omega), List.getElem?_eq_none (by rw [List.length_map]; omega)]
/-- A row of one byte. -/
def OneB (B : Nat) (n : BitVec 8) (v : Value) (w : World) : Prop := B ≤ w.heap.size ∧ ∃ g, v = .slice (some ⟨g, 0, none⟩) 1 1 ∧ Row w g 5 #[.int .u8 (bI n)]
theorem OneB.mono : ∀ v w w', OneB B n v w → KeepsB B n L w w' → OneB B n v w' := fun v w w' ⟨hB, g, e, hr⟩ hk => by
  obtain ⟨k1, k2⟩ := hk hB
  obtain ⟨cs', r, _, c, _⟩ := k2 g _ hr
  rw [c rfl] at r
  exact ⟨Nat.le_trans hB k1.size, g, e, r⟩
theorem OneB.bytes {v : Value} (h : OneB B n v w) : Bytes w.heap.size w v [n] := by
  obtain ⟨_, g, rfl, hr⟩ := h
  refine ⟨_, 1, rfl, Nat.le_refl _, by decide, fun _ => ⟨g, 0, rfl, hr.lt, fun j u hu => ?_⟩⟩
  rw [Nat.zero_add, hr.cell]
  cases j with
  | zero => simpa [byteV] using hu
  | succ j => simp at hu
/-- One byte put behind a row of one's own, in place or anew. -/
theorem run_append_oneB {v x : Value} (ty : TypeId) (hv : OwnB B l v w) (hx : OneB B n x w) (hlen : l.length ≤ 900000) (hL : L[l.length]? = some n) :
    ∃ v' w', (Builtin.append_ #[37, 37] ty #[v, x]).run Tryd.prog w = .ok v' w' ∧ OwnB B (l ++ [n]) v' w' ∧ KeepsB B n L w w' := by
  obtain ⟨hB, hv⟩ := hv
  obtain ⟨v', w', hr, ho, hg, _, _⟩ := run_append_mine ty hv hx.bytes (by simp only [List.length_singleton]; omega) hB
  have hB' : B ≤ w'.heap.size := Nat.le_trans hB hg.size
  refine ⟨v', w', hr, ⟨hB', ho⟩, ?_⟩
  obtain ⟨i0, hi, hz0, hz1, hz2⟩ := info_u8
  rcases hv.2 with ⟨rfl, h0⟩ | ⟨g, cap, cur, rfl, hb, hh, h1, h2, h3, h4⟩
  · exact KeepsB.of_grows ⟨hg.os, hg.tape, hg.output, hg.size, fun k hk => hg.block k hk (by simp [Value.ownBlock])⟩
  · obtain ⟨_, gx, rfl, hrx⟩ := hx
    rw [Nat.mul_one] at h3
    by_cases hroom : l.length + 1 ≤ cap
    · have hrun := run_append_room (P := Tryd.prog) w 37 ty 5 i0 Tryd.underlying37 hi g l.length cap cur hh ⟨gx, 0, none⟩ 1 1 [.int .u8 (bI n)] (by rw [hz1]; rfl)
        (fun j u hu => by
          rw [add_lit, Nat.zero_add, hrx.cell]
          cases j with
          | zero => simpa using hu
          | succ j => simp at hu) (fun u hu => by rw [List.mem_singleton.1 hu]; rfl) hroom (by rw [hz1]; simp; omega)
      rw [hr] at hrun
      injection hrun with e1 e2
      subst e1 e2
      have ecs : (cur.toList.take (l.length * i0.size) ++ [Value.int .u8 (bI n)] ++ cur.toList.drop (l.length * i0.size + [Value.int .u8 (bI n)].length)).toArray = cur.setIfInBounds l.length (.int .u8 (bI n)) := by
        rw [hz1, Nat.mul_one]
        apply Array.ext'
        rw [Array.toList_setIfInBounds, List.set_eq_take_append_cons_drop, if_pos (by simp; omega)]
        simp
      rw [ecs]
      intro _
      refine ⟨⟨rfl, rfl, rfl, by simp [World.setRow], fun k hk => setRow_other w g k _ (by omega)⟩, fun g' cs hr' => ?_⟩
      by_cases hgg : g' = g
      · subst hgg
        have e := Option.some.inj (hr'.symm.trans hh)
        injection e with e _
        subst e
        refine ⟨_, hr'.setRow _, by simp, fun e => ?_, fun i x hi hx => ?_⟩
        · subst e
          simp at h3
          have : l.length = 0 := by omega
          rw [this]
          rfl
        · rw [Array.getElem?_setIfInBounds]
          by_cases hil : l.length = i
          · subst hil
            rw [hL] at hi
            cases hi
            rw [if_pos rfl, if_pos (by omega)]
            rfl
          · rw [if_neg hil]
            exact hx
      · exact ⟨cs, hr'.setRow_far hgg _, rfl, fun _ => rfl, fun _ _ _ h => h⟩
    · have hrun := run_append_grow (P := Tryd.prog) w 37 ty 5 i0 (.int .u8 0) Tryd.underlying37 hi hz0 ⟨g, 0, none⟩ l.length cap (l.map byteV) (by rw [hz1]; simp)
        (fun j u hu => by
          rw [add_lit, Nat.zero_add, cell_of_row w g j cur 5 (0, 0) hh]
          rw [Nat.mul_one] at h4
          have hj := (List.getElem?_eq_some_iff.1 hu).1
          rw [← h4, List.getElem?_take_of_lt (by simpa using hj)] at hu
          simpa using hu) ⟨gx, 0, none⟩ 1 1 [.int .u8 (bI n)] (by rw [hz1]; rfl)
        (fun j u hu => by
          rw [add_lit, Nat.zero_add, hrx.cell]
          cases j with
          | zero => simpa using hu
          | succ j => simp at hu) (by omega) (by omega) (growslice_fits (by omega) (by rw [hz2]; omega))
      rw [hr] at hrun
      injection hrun with e1 e2
      subst e1 e2
      exact KeepsB.of_grows ((Grows.drew w).trans (Grows.alloc _ _))
theorem does_append_oneB {o : Oper} {ρ : Operand → Value} (y x : Operand)
    (ho : o.op = .call { callee := .builtin .append, args := #[y, x], argTypes := #[37, 37] }) (hs : OwnB B l (ρ y) w) (hx : OneB B n (ρ x) w) (hlen : l.length ≤ 900000) (hL : L[l.length]? = some n) :
    Does Tryd.prog o ρ w fun v' w' => KeepsB B n L w w' ∧ OwnB B (l ++ [n]) v' w' := by
  obtain ⟨v', w', hrun, h2, h3⟩ := run_append_oneB o.type hs hx hlen hL
  unfold Does execOp
  simp only [ho, resolve, invoke, builtin, Sem.run_bind, Sem.run_pure, Result.andThen_ok, List.map_toArray, List.map_cons, List.map_nil, hrun]
  exact ⟨h3, h2⟩
end
end Go.Proofs.YthdncpkmhodokaaDoor
