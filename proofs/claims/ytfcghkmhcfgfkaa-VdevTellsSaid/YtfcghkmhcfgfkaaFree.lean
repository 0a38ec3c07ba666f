/- A region whose order is open: each operation by itself, in whatever world that has grown. No function of the program.
   What an operation yields is said by a word V of its own, which growth keeps; an operation may lean on the words of those for which it waits, and on no other. -/
import Derived.Test.YtfcghkmhcfgfkaaRegionIn
import Derived.Test.YtfcghkmhcfgfkaaMem
import Derived.RangeFuncCalls
namespace Go.Proofs.Ytfcghkmhcfgfkaa
open Go.RowKit

/-- w' is w with more blocks. -/
def Grows (w w' : World) : Prop := Below w.heap.size w w'
theorem Grows.refl (w : World) : Grows w w := Below.refl _ _
theorem Grows.trans {a b c : World} (h : Grows a b) (k : Grows b c) : Grows a c := Below.trans h (Below.mono k h.size)
theorem Grows.drew (w : World) : Grows w w.drew := (Below.refl _ w).drew
theorem Grows.of_drew {w w' : World} (h : Grows w.drew w') : Grows w w' := (Grows.drew w).trans h
theorem Grows.alloc (w : World) (o : Obj) : Grows w (w.alloc o) := (Below.refl _ w).alloc (Nat.le_refl _) o
theorem Row.grows {w w' : World} {g : Nat} {t : TypeId} {cs : Array Value} (h : Row w g t cs) (hg : Grows w w') : Row w' g t cs := h.below hg h.lt
theorem Sl.grows {B : Nat} {w w' : World} {v : Value} {xs : List Value} (h : Sl B w v xs) (hB : B ≤ w.heap.size) (hg : Grows w w') : Sl B w' v xs := h.below (Below.mono hg hB)

theorem Grows.grownBy {w w' : World} (h : Grows w w') : w.grownBy w' none := ⟨Below.os h, Below.tape h, Below.output h, Below.size h, fun k hk _ => Below.block h k hk⟩
theorem own_grows {w w' : World} {base : Nat} {e : TypeId} {size n : Nat} {v : Value} {xs : List Value} (h : w.ownsRow base e size v n xs) (hg : Grows w w') : w'.ownsRow base e size v n xs :=
  h.kept hg.grownBy (by cases v.ownBlock <;> simp)
section
variable {P : Program}
/-- What an operation does: a value, and a world; a call by the callee's contract. -/
def Does (P : Program) (o : Oper) (ρ : Operand → Value) (w : World) (R : Value → World → Prop) : Prop :=
  match (execOp ρ o).run P w with
  | .ok (.value v) w' => R v w'
  | .ok .skip w' => R undef w'
  | .ok (.enter f args) w' => Calls P f args w' fun e w'' => ∃ v, e = .returned v ∧ R v w''
  | _ => False
def OpDoes (P : Program) (ops : Array Oper) (o : Oper) (a : Act) (w : World) (R : Value → World → Prop) : Prop :=
  if Region.wanted o (yielded ops a.tmps) = true then Does P o a.eval w R else R undef w

theorem Does.wp {o : Oper} {a : Act} {w : World} {R : Value → World → Prop} {K : Act → World → Prop} {Q : Exit → Act → World → Prop} (h : Does P o a.eval w R) (hK : ∀ v w', R v w' → K (a.put o.dst v) w') : o.wp P a w K Q := by
  unfold Does at h
  unfold Oper.wp
  generalize (execOp a.eval o).run P w = r at h ⊢
  cases r with
  | ok x w' =>
    cases x <;> simp only at h <;> simp only [Oper.upon]
    case value v => exact hK _ _ h
    case skip => exact hK _ _ h
    case enter f args =>
      refine h.mono ?_
      rintro e w'' ⟨v, rfl, hv⟩
      exact hK _ _ hv
  | halt x w' => exact h.elim

theorem Does.congr {o : Oper} {ρ ρ' : Operand → Value} {w : World} {R : Value → World → Prop} (he : execOp ρ o = execOp ρ' o) (h : Does P o ρ w R) : Does P o ρ' w R := by
  unfold Does at *; rw [← he]; exact h

def dstAt (ops : Array Oper) (i : Nat) : Option Tmp := (ops[i]?).bind (·.dst)
/-- What the listed ones have put. -/
def putL (ops : Array Oper) (L : Nat → Bool) (vs : Nat → Value) : List Nat → Act → Act
  | [], a => a
  | j :: I, a => putL ops L vs I (if L j = true then a.put (dstAt ops j) (vs j) else a)

/-- Two frames alike at these slots. -/
def Alike (T : List Tmp) (a b : Act) : Prop := a.tmps.size = b.tmps.size ∧ ∀ t ∈ T, a.tmps[t]? = b.tmps[t]?
theorem size_put (a : Act) (d : Option Tmp) (v : Value) : (a.put d v).tmps.size = a.tmps.size := by
  cases d <;> simp [Act.put]
theorem alike_put {T : List Tmp} {a b : Act} (h : Alike T a b) (d : Option Tmp) (v : Value) : Alike T (a.put d v) (b.put d v) := by
  refine ⟨by rw [size_put, size_put]; exact h.1, fun t ht => ?_⟩
  cases d with
  | none => exact h.2 t ht
  | some d => simp only [Act.put, Array.getElem?_setIfInBounds, h.1, h.2 t ht]
theorem alike_put_left {T : List Tmp} {a b : Act} (h : Alike T a b) (d : Option Tmp) (v : Value) (hd : ∀ x, d = some x → x ∉ T) : Alike T (a.put d v) b := by
  refine ⟨by rw [size_put]; exact h.1, fun t ht => ?_⟩
  cases d with
  | none => exact h.2 t ht
  | some d =>
    have hne : d ≠ t := fun e => hd d rfl (e ▸ ht)
    simp only [Act.put, Array.getElem?_setIfInBounds, hne, if_false, h.2 t ht]
theorem Alike.symm {T : List Tmp} {a b : Act} (h : Alike T a b) : Alike T b a := ⟨h.1.symm, fun t ht => (h.2 t ht).symm⟩
theorem alike_putL {ops : Array Oper} {L L' : Nat → Bool} {vs : Nat → Value} {T : List Tmp} : ∀ (I : List Nat) (a b : Act), Alike T a b → (∀ j ∈ I, L j ≠ L' j → ∀ x, dstAt ops j = some x → x ∉ T) → Alike T (putL ops L vs I a) (putL ops L' vs I b)
  | [], _, _, h, _ => h
  | j :: I, a, b, h, hd => by
    refine alike_putL I _ _ ?_ fun j' hj' => hd j' (by simp [hj'])
    have hdj := hd j (by simp)
    cases hL : L j <;> cases hL' : L' j <;> simp only [Bool.false_eq_true, if_false, if_true]
    · exact h
    · exact (alike_put_left h.symm _ _ (hdj (by simp [hL, hL']))).symm
    · exact alike_put_left h _ _ (hdj (by simp [hL, hL']))
    · exact alike_put h _ _
theorem alike_exec {ops : Array Oper} {o : Oper} {a b : Act} (hs : ∀ cs c, o.op ≠ .select cs c) (h : Alike (o.looksAt ops) a b) : execOp a.eval o = execOp b.eval o :=
  execOp_congr o hs fun x hx => by
    cases x with
    | tmp t =>
      have := h.2 t (List.mem_append_left _ (List.mem_filterMap.2 ⟨.tmp t, by simpa using hx, rfl⟩))
      simp [Act.eval, this]
    | _ => rfl
theorem alike_wanted {ops : Array Oper} {o : Oper} {a b : Act} (h : Alike (o.looksAt ops) a b) : Region.wanted o (yielded ops a.tmps) = Region.wanted o (yielded ops b.tmps) := by
  unfold Region.wanted
  cases hg : o.guard with
  | none => rfl
  | some gw =>
    obtain ⟨g, want⟩ := gw
    have hy : yielded ops a.tmps g = yielded ops b.tmps g := by
      unfold yielded
      cases ht : (ops[g]?).bind (·.dst) with
      | none => rfl
      | some t =>
        have := h.2 t (by simp [Oper.looksAt, hg, ht])
        simp [this]
    simp only [hy]

theorem putL_late {ops : Array Oper} {L : Nat → Bool} {vs : Nat → Value} {d : Option Tmp} {v : Value} : ∀ (I : List Nat) (a : Act), (∀ j ∈ I, ∀ x, d = some x → dstAt ops j ≠ some x) → putL ops L vs I (a.put d v) = (putL ops L vs I a).put d v
  | [], _, _ => rfl
  | j :: I, a, h => by
    unfold putL
    have hj := h j (by simp)
    rw [← putL_late I _ fun j' hj' => h j' (by simp [hj'])]
    cases hL : L j <;> simp only [Bool.false_eq_true, if_false, if_true]
    rw [Act.put_comm a v (vs j) hj]
theorem putL_same {ops : Array Oper} {L L' : Nat → Bool} {vs vs' : Nat → Value} : ∀ (I : List Nat) (a : Act), (∀ j ∈ I, L j = L' j ∧ (L j = true → vs j = vs' j)) → putL ops L vs I a = putL ops L' vs' I a
  | [], _, _ => rfl
  | j :: I, a, h => by
    unfold putL
    obtain ⟨h1, h2⟩ := h j (by simp)
    rw [putL_same I _ fun j' hj' => h j' (by simp [hj'])]
    cases hL : L j with
    | false => rw [hL] at h1; rw [← h1]; simp
    | true => rw [hL] at h1; rw [← h1, h2 hL]
theorem putL_add {ops : Array Oper} {L : Nat → Bool} {vs : Nat → Value} {i : Nat} {v : Value} (hLi : L i = false) : ∀ (I : List Nat) (a : Act), I.Nodup → i ∈ I → (∀ j ∈ I, j ≠ i → ∀ x, dstAt ops i = some x → dstAt ops j ≠ some x) →
    putL ops (fun j => L j || j == i) (fun j => if j = i then v else vs j) I a = (putL ops L vs I a).put (dstAt ops i) v
  | [], _, _, h, _ => by cases h
  | j :: I, a, hn, hm, hd => by
    unfold putL
    by_cases hji : j = i
    · subst hji
      have hnj : j ∉ I := (List.nodup_cons.1 hn).1
      simp only [hLi, Bool.false_or, beq_self_eq_true, if_true, Bool.false_eq_true, if_false]
      rw [← putL_late I a fun j' hj' => hd j' (by simp [hj']) (fun e => hnj (e ▸ hj'))]
      exact putL_same I _ fun j' hj' => by
        have hne : j' ≠ j := fun e => hnj (e ▸ hj')
        simp [hne]
    · have hm' : i ∈ I := by
        rcases List.mem_cons.1 hm with h | h
        · exact absurd h.symm hji
        · exact h
      have hji' : (j == i) = false := by simpa using hji
      simp only [hji', Bool.or_false, hji, if_false]
      exact putL_add hLi I _ (List.nodup_cons.1 hn).2 hm' fun j' hj' => hd j' (by simp [hj'])

theorem putL_append {ops : Array Oper} {L : Nat → Bool} {vs : Nat → Value} : ∀ (I J : List Nat) (a : Act), putL ops L vs (I ++ J) a = putL ops L vs J (putL ops L vs I a)
  | [], _, _ => rfl
  | _ :: I, J, _ => putL_append I J _
theorem putL_off {ops : Array Oper} {L : Nat → Bool} {vs : Nat → Value} : ∀ (I : List Nat) (a : Act), (∀ j ∈ I, L j = false) → putL ops L vs I a = a
  | [], _, _ => rfl
  | j :: I, a, h => by
    unfold putL
    rw [h j (by simp)]
    exact putL_off I _ fun j' hj' => h j' (by simp [hj'])
theorem putL_upto {ops : Array Oper} {vs : Nat → Value} {a : Act} {i k : Nat} (hik : i ≤ k) : putL ops (fun j => decide (j < i)) vs (List.range k) a = putL ops (fun _ => true) vs (List.range i) a := by
  obtain ⟨d, rfl⟩ : ∃ d, k = i + d := ⟨k - i, by omega⟩
  rw [List.range_add, putL_append, putL_off _ _ (fun j hj => by
    obtain ⟨x, _, rfl⟩ := List.mem_map.1 hj
    simp)]
  exact putL_same _ _ fun j hj => by
    have := List.mem_range.1 hj
    simp [this]

/-- How many of the first k are not listed yet. -/
def left (listed : Array Bool) : Nat → Nat
  | 0 => 0
  | k + 1 => left listed k + if listed.getD k false = true then 0 else 1
theorem left_zero {listed : Array Bool} : ∀ {k : Nat}, left listed k = 0 → ∀ i, i < k → listed.getD i false = true
  | k + 1, h, i, hi => by
    unfold left at h
    by_cases hik : i = k
    · subst hik
      by_cases hl : listed.getD i false = true
      · exact hl
      · rw [if_neg hl] at h; omega
    · exact left_zero (listed := listed) (k := k) (by omega) i (by omega)
theorem left_same {listed : Array Bool} {i : Nat} : ∀ {k : Nat}, k ≤ i → left (listed.setIfInBounds i true) k = left listed k
  | 0, _ => rfl
  | k + 1, h => by
    unfold left
    rw [left_same (by omega), getD_set_ne false (by omega)]
theorem left_set {listed : Array Bool} {i : Nat} (hi : i < listed.size) (hl : listed.getD i false = false) : ∀ {k : Nat}, i < k → left listed k = left (listed.setIfInBounds i true) k + 1
  | k + 1, h => by
    unfold left
    by_cases hik : i = k
    · subst hik
      rw [left_same (Nat.le_refl _), hl, if_neg (by simp)]
      have : (listed.setIfInBounds i true).getD i false = true := by simp [hi]
      rw [this]
      simp
    · rw [left_set hi hl (by omega), getD_set_ne false hik]
      omega
theorem left_some {listed : Array Bool} : ∀ {k : Nat}, left listed k ≠ 0 → ∃ i, i < k ∧ listed.getD i false = false ∧ ∀ j, j < i → listed.getD j false = true
  | k + 1, h => by
    by_cases hk : left listed k = 0
    · refine ⟨k, by omega, ?_, left_zero hk⟩
      unfold left at h
      rw [hk] at h
      cases hl : listed.getD k false with
      | false => rfl
      | true => simp [hl] at h
    · obtain ⟨i, h1, h2, h3⟩ := left_some hk
      exact ⟨i, by omega, h2, h3⟩

def pairB (ops : Array Oper) (oi : Oper) (i j : Nat) : Bool :=
  match ops[j]? with
  | none => false
  | some oj => (Region.waitsFor .any ops i j || oj.apart ops oi) && (oi.dst.isNone || oj.dst != oi.dst)
/-- Of the first k each waits for earlier ones alone, and is apart from the earlier ones for which it does not wait; what is behind goes in the text's order. -/
def freeB (ops : Array Oper) (k : Nat) : Bool :=
  Region.noSelect ops && decide (k ≤ ops.size) &&
  ((List.range k).all fun i => match ops[i]? with
    | none => false
    | some oi => (oi.after.all fun e => !Region.binds .any e || decide (e.on < i)) && (List.range i).all fun j => pairB ops oi i j) &&
  (decide (k = ops.size) || (Region.sinkB .any ops k && Region.chainB .any ops k)) &&
  Region.seqB .any ops (ops.size - k) k ((List.range ops.size).map fun i => decide (i < k)).toArray

structure FreeOk (ops : Array Oper) (k : Nat) : Prop where
  sel : ∀ (j : Nat) (o : Oper) cs b, ops[j]? = some o → o.op ≠ .select cs b
  le : k ≤ ops.size
  before : ∀ (i : Nat) (oi : Oper), i < k → ops[i]? = some oi → ∀ e ∈ oi.after, Region.binds .any e = true → e.on < i
  pair : ∀ (i j : Nat) (oi oj : Oper), i < k → j < i → ops[i]? = some oi → ops[j]? = some oj → (Region.waitsFor .any ops i j = true ∨ oj.apart ops oi = true) ∧ ∀ x, oi.dst = some x → oj.dst ≠ some x
  tail : k = ops.size ∨ (Region.sinkB .any ops k = true ∧ Region.chainB .any ops k = true)
  seq : Region.seqB .any ops (ops.size - k) k ((List.range ops.size).map fun i => decide (i < k)).toArray = true

theorem freeOk {ops : Array Oper} {k : Nat} (h : freeB ops k = true) : FreeOk ops k := by
  simp only [freeB, Bool.and_eq_true, decide_eq_true_eq, Bool.or_eq_true] at h
  obtain ⟨⟨⟨⟨h1, h2⟩, h3⟩, h4⟩, h5⟩ := h
  have each : ∀ (i : Nat) (oi : Oper), i < k → ops[i]? = some oi → (∀ e ∈ oi.after, Region.binds .any e = true → e.on < i) ∧ ∀ j, j < i → pairB ops oi i j = true := by
    intro i oi hi ho
    have h := List.all_eq_true.1 h3 i (List.mem_range.2 hi)
    simp only [ho, Bool.and_eq_true] at h
    refine ⟨fun e he hb => ?_, fun j hj => List.all_eq_true.1 h.2 j (List.mem_range.2 hj)⟩
    have := Array.all_eq_true_iff_forall_mem.1 h.1 e he
    simpa [hb] using this
  refine ⟨Region.noSelect_spec h1, h2, fun i oi hi ho => (each i oi hi ho).1, fun i j oi oj hi hj ho ho' => ?_, h4, h5⟩
  have h := (each i oi hi ho).2 j hj
  simp only [pairB, ho', Bool.and_eq_true, Bool.or_eq_true] at h
  refine ⟨h.1, fun x hx => ?_⟩
  have h2 := h.2
  rw [hx] at h2
  simpa using h2

/-- What stands in a slot when the first i have run in the text's order. -/
def look (ops : Array Oper) (vs : Nat → Value) (a0 : Act) (t : Tmp) : Nat → Value
  | 0 => a0.tmps.getD t undef
  | i + 1 => if dstAt ops i = some t then vs i else look ops vs a0 t i
def rho (ops : Array Oper) (vs : Nat → Value) (a0 : Act) (i : Nat) : Operand → Value
  | .tmp t => look ops vs a0 t i
  | x => a0.eval x
theorem rho_const (ops : Array Oper) (vs : Nat → Value) (a0 : Act) (i : Nat) (v : Value) : rho ops vs a0 i (.const v) = v := rfl
theorem rho_func (ops : Array Oper) (vs : Nat → Value) (a0 : Act) (i : Nat) (f : FuncId) : rho ops vs a0 i (.func f) = .func (.func f) #[] #[] := rfl
theorem rho_global (ops : Array Oper) (vs : Nat → Value) (a0 : Act) (i : Nat) (g : Nat) : rho ops vs a0 i (.global g) = .pointer (some ⟨g, 0, none⟩) := rfl
def yieldR (ops : Array Oper) (ρ : Operand → Value) (j : Nat) : Option Bool :=
  match (ops[j]?).bind (·.dst) with
  | none => none
  | some t => match ρ (.tmp t) with | .bool b => some b | _ => none
def OpDoesR (P : Program) (ops : Array Oper) (o : Oper) (ρ : Operand → Value) (w : World) (R : Value → World → Prop) : Prop :=
  if Region.wanted o (yieldR ops ρ) = true then Does P o ρ w R else R undef w
theorem yieldR_eq (ops : Array Oper) (a : Act) : yielded ops a.tmps = yieldR ops a.eval := by
  funext j
  unfold yielded yieldR
  cases (ops[j]?).bind (·.dst) with
  | none => rfl
  | some t =>
    simp only [Option.bind_some, Act.eval, Array.getD_eq_getD_getElem?]
    cases a.tmps[t]? with
    | none => rfl
    | some v => cases v <;> rfl
theorem putL_size {ops : Array Oper} {L : Nat → Bool} {vs : Nat → Value} : ∀ (I : List Nat) (a : Act), (putL ops L vs I a).tmps.size = a.tmps.size
  | [], _ => rfl
  | j :: I, a => by
    unfold putL
    rw [putL_size I]
    split
    · exact size_put _ _ _
    · rfl
theorem look_eq {ops : Array Oper} {vs : Nat → Value} {a0 : Act} (t : Tmp) : ∀ i, (∀ j, j < i → ∀ d, dstAt ops j = some d → d < a0.tmps.size) → (putL ops (fun _ => true) vs (List.range i) a0).tmps.getD t undef = look ops vs a0 t i
  | 0, _ => rfl
  | i + 1, h => by
    rw [List.range_succ, putL_append]
    unfold look
    simp only [putL, if_true]
    have ih := look_eq (vs := vs) t i fun j hj => h j (by omega)
    have hsz := putL_size (ops := ops) (L := fun _ => true) (vs := vs) (List.range i) a0
    cases hd : dstAt ops i with
    | none => simpa [Act.put] using ih
    | some d =>
      have hlt := h i (by omega) d hd
      simp only [Act.put, Array.getD_eq_getD_getElem?, Array.getElem?_setIfInBounds, hsz, hlt, if_true, Option.some.injEq]
      split
      · rfl
      · simpa using ih
theorem rho_eq {ops : Array Oper} {vs : Nat → Value} {a0 : Act} (i : Nat) (h : ∀ j, j < i → ∀ d, dstAt ops j = some d → d < a0.tmps.size) : (putL ops (fun _ => true) vs (List.range i) a0).eval = rho ops vs a0 i := by
  funext x
  cases x with
  | tmp t => exact look_eq t i h
  | _ => rfl
theorem opDoes_eq {ops : Array Oper} {o : Oper} {a : Act} {w : World} {R : Value → World → Prop} : OpDoes P ops o a w R = OpDoesR P ops o a.eval w R := by
  unfold OpDoes OpDoesR; rw [yieldR_eq]

/-- The user's duty: operation by operation in the text's order; a word for each. -/
def wpFree (P : Program) (ops : Array Oper) (w0 : World) (a0 : Act) (E : Act → World → Prop) : List Oper → Nat → (Nat → Value → World → Prop) → Prop
  | [], i, Vs => ∀ vs w, Grows w0 w → (∀ j, j < i → Vs j (vs j) w) → E (putL ops (fun _ => true) vs (List.range i) a0) w
  | o :: rest, i, Vs => ∃ V : Value → World → Prop, (∀ v w w', V v w → Grows w w' → V v w') ∧
      (∀ (vs : Nat → Value) w, Grows w0 w → (∀ e ∈ o.after, Region.binds .any e = true → Vs e.on (vs e.on) w) →
        OpDoesR P ops o (rho ops vs a0 i) w (fun v w' => Grows w w' ∧ V v w')) ∧
      wpFree P ops w0 a0 E rest (i + 1) (fun j => if j = i then V else Vs j)

theorem free_words {ops : Array Oper} {w0 : World} {a0 : Act} {E : Act → World → Prop} : ∀ (l : List Oper) (i : Nat) (Vs : Nat → Value → World → Prop),
    (∀ (j : Nat) (o : Oper), l[j]? = some o → ∀ e ∈ o.after, Region.binds .any e = true → e.on < i + j) → wpFree P ops w0 a0 E l i Vs →
    ∃ Vs' : Nat → Value → World → Prop, (∀ j, j < i → Vs' j = Vs j) ∧
      (∀ (j : Nat) (o : Oper), l[j]? = some o → (∀ v w w', Vs' (i + j) v w → Grows w w' → Vs' (i + j) v w') ∧
        ∀ (vs : Nat → Value) w, Grows w0 w → (∀ e ∈ o.after, Region.binds .any e = true → Vs' e.on (vs e.on) w) →
          OpDoesR P ops o (rho ops vs a0 (i + j)) w (fun v w' => Grows w w' ∧ Vs' (i + j) v w')) ∧
      ∀ vs w, Grows w0 w → (∀ j, j < i + l.length → Vs' j (vs j) w) → E (putL ops (fun _ => true) vs (List.range (i + l.length)) a0) w
  | [], i, Vs, _, h => ⟨Vs, fun _ _ => rfl, fun j o h => by simp at h, by simpa [wpFree] using h⟩
  | o :: rest, i, Vs, hb, h => by
    obtain ⟨V, hm, hd, hr⟩ := h
    obtain ⟨Vs', h1, h2, h3⟩ := free_words rest (i + 1) _ (fun j o' ho' e he hbi => by
      have := hb (j + 1) o' (by simpa using ho') e he hbi
      omega) hr
    have hi : Vs' i = V := by rw [h1 i (by omega)]; simp
    have hlt : ∀ j, j < i → Vs' j = Vs j := fun j hj => by rw [h1 j (by omega)]; simp [show ¬ j = i by omega]
    refine ⟨Vs', hlt, fun j o' ho' => ?_, ?_⟩
    · cases j with
      | zero =>
        simp only [List.getElem?_cons_zero, Option.some.injEq] at ho'
        subst ho'
        simp only [Nat.add_zero, hi]
        refine ⟨hm, fun vs w hg hv => hd vs w hg fun e he hbi => ?_⟩
        have hlt' := hb 0 o (by simp) e he hbi
        have := hv e he hbi
        rwa [hlt e.on (by omega)] at this
      | succ j =>
        have := h2 j o' (by simpa using ho')
        rw [show i + 1 + j = i + (j + 1) by omega] at this
        exact this
    · rw [show i + 1 + rest.length = i + (o :: rest).length by simp; omega] at h3
      exact h3

section
variable {ops : Array Oper} {k : Nat} {w0 : World} {a0 : Act} {Vs : Nat → Value → World → Prop} {Q : Exit → Act → World → Prop}
theorem wpAny_free (ok : FreeOk ops k) (l : List Oper) (hl : ∀ j, l[j]? = ops[k + j]?) (hll : l.length = ops.size - k)
    (hmono : ∀ i, i < k → ∀ v w w', Vs i v w → Grows w w' → Vs i v w')
    (hdo : ∀ (i : Nat) (o : Oper), i < k → ops[i]? = some o → ∀ (vs : Nat → Value) w, Grows w0 w → (∀ e ∈ o.after, Region.binds .any e = true → Vs e.on (vs e.on) w) →
      OpDoes P ops o (putL ops (fun _ => true) vs (List.range i) a0) w (fun v w' => Grows w w' ∧ Vs i v w'))
    (hend : ∀ vs w, Grows w0 w → (∀ j, j < k → Vs j (vs j) w) → wpList P ops Q l (putL ops (fun _ => true) vs (List.range k) a0) w) :
    ∀ (f : Nat) (listed : Array Bool) (vs : Nat → Value) (w : World), left listed k = f → HeadInv .any ops k listed → Grows w0 w → (∀ i, i < k → listed.getD i false = true → Vs i (vs i) w) →
      wpAny P .any ops Q (f + (ops.size - k)) listed (putL ops (fun j => listed.getD j false) vs (List.range k) a0) w
  | 0, listed, vs, w, hf, inv, hg, hv => by
    have hall := left_zero hf
    have hL : listed = ((List.range ops.size).map fun i => decide (i < k)).toArray := by
      apply Array.ext
      · simp [inv.size]
      · intro i h1 h2
        simp only [List.getElem_toArray, List.getElem_map, List.getElem_range]
        by_cases hik : i < k
        · have := hall i hik
          simp [h1] at this
          simp [hik, this]
        · have := inv.tail i (by omega) (by rw [inv.size] at h1; exact h1)
          simp [h1] at this
          simp [hik, this]
    rw [putL_same (L' := fun _ => true) (vs' := vs) _ _ fun j hj => ⟨hall j (List.mem_range.1 hj), fun _ => rfl⟩, Nat.zero_add, ← hll]
    have hs := ok.seq
    rw [← hL, ← hll] at hs
    exact wpAny_of_seq l k listed _ w hl hs (hend vs w hg fun j hj => hv j hj (hall j hj))
  | f + 1, listed, vs, w, hf, inv, hg, hv => by
    rw [show f + 1 + (ops.size - k) = (f + (ops.size - k)) + 1 by omega]
    obtain ⟨i0, hi0, hu0, hb0⟩ := left_some (listed := listed) (k := k) (by omega)
    have hle := ok.le
    refine ⟨fun h0 => ?_, fun i hi => ?_⟩
    · exfalso
      have hr : i0 ∈ Region.ready .any ops listed := by
        rw [mem_ready]
        have ho : ops[i0]? = some (ops[i0]'(by omega)) := Array.getElem?_eq_getElem (by omega)
        refine ⟨getD_in (by rw [inv.size]; omega) hu0, _, ho, fun e he hb => hb0 _ (ok.before i0 _ hi0 ho e he hb)⟩
      rw [h0] at hr
      cases hr
    · have hik : i < k := by
        rcases Nat.lt_or_ge i k with h | h
        · exact h
        · exfalso
          rcases ok.tail with ht | ⟨hs, hc⟩
          · obtain ⟨_, o, ho, _⟩ := mem_ready.1 hi
            have := (Array.getElem?_eq_some_iff.1 ho).1
            omega
          · obtain ⟨_, o, ho, _⟩ := mem_ready.1 hi
            have := (Array.getElem?_eq_some_iff.1 ho).1
            exact tail_waits hs hc (by omega) inv _ i0 rfl hi0 (getD_in (by rw [inv.size]; omega) hu0) i h hi
      obtain ⟨hun, oi, hoi, hall⟩ := mem_ready.1 hi
      have hun' : listed.getD i false = false := getD_both hun
      have hsz : i < listed.size := by rw [inv.size]; omega
      -- what it looks at is as it is in the text's order
      have hal : Alike (oi.looksAt ops) (putL ops (fun j => decide (j < i)) vs (List.range k) a0) (putL ops (fun j => listed.getD j false) vs (List.range k) a0) := by
        refine alike_putL _ _ _ ⟨rfl, fun _ _ => rfl⟩ fun j hj hne x hx => ?_
        have hjk := List.mem_range.1 hj
        cases hoj : ops[j]? with
        | none => simp [dstAt, hoj] at hx
        | some oj =>
          simp only [dstAt, hoj, Option.bind_some] at hx
          by_cases hji : j < i
          · have hlj : listed.getD j false = false := by simpa [hji] using hne
            rcases (ok.pair i j oi oj hik hji hoi hoj).1 with hw | hap
            · obtain ⟨o', ho', e, he, hbi, hon⟩ := Region.waitsFor_spec hw
              rw [hoi] at ho'
              cases ho'
              have := hall e he hbi
              rw [hon, hlj] at this
              cases this
            · exact (Oper.apart_spec hap).1 x hx
          · have hlj : listed.getD j false = true := by simpa [hji] using hne
            have hij : i < j := by
              rcases Nat.lt_trichotomy i j with h | h | h
              · exact h
              · subst h; rw [hun'] at hlj; cases hlj
              · exact absurd h hji
            rcases (ok.pair j i oj oi hjk hij hoj hoi).1 with hw | hap
            · obtain ⟨o', ho', e, he, hbi, hon⟩ := Region.waitsFor_spec hw
              rw [hoj] at ho'
              cases ho'
              have := inv.closed j oj hoj hlj e he hbi
              rw [hon, hun'] at this
              cases this
            · exact (Oper.apart_spec hap).2.2 x hx
      rw [putL_upto (Nat.le_of_lt hik)] at hal
      have hd := hdo i oi hik hoi vs w hg fun e he hb => hv _ (by have := ok.before i oi hik hoi e he hb; omega) (hall e he hb)
      have next : ∀ v w', Grows w w' ∧ Vs i v w' → wpAny P .any ops Q (f + (ops.size - k)) (listed.setIfInBounds i true) ((putL ops (fun j => listed.getD j false) vs (List.range k) a0).put oi.dst v) w' := by
        rintro v w' ⟨hg', hV⟩
        have hdst : dstAt ops i = oi.dst := by simp [dstAt, hoi]
        have hadd := putL_add (ops := ops) (L := fun j => listed.getD j false) (vs := vs) (i := i) (v := v) hun' (List.range k) a0 List.nodup_range (List.mem_range.2 hik) (fun j hj hne x hx hx' => by
          have hjk := List.mem_range.1 hj
          cases hoj : ops[j]? with
          | none => simp [dstAt, hoj] at hx'
          | some oj =>
            rw [hdst] at hx
            simp only [dstAt, hoj, Option.bind_some] at hx'
            rcases Nat.lt_or_gt_of_ne hne with h | h
            · exact (ok.pair i j oi oj hik h hoi hoj).2 x hx hx'
            · exact (ok.pair j i oj oi hjk h hoj hoi).2 x hx' hx)
        rw [hdst] at hadd
        rw [← hadd]
        have hsame : (fun j => (listed.setIfInBounds i true).getD j false) = (fun j => listed.getD j false || j == i) := by
          funext j
          by_cases hji : i = j
          · subst hji
            have : (listed.setIfInBounds i true).getD i false = true := by simp [hsz]
            rw [this]; simp
          · rw [getD_set_ne false hji]
            have : (j == i) = false := by simpa using fun e => hji e.symm
            simp [this]
        rw [← hsame]
        refine wpAny_free ok l hl hll hmono hdo hend f _ _ w' ?_ (inv.set hi hik) (hg.trans hg') fun j hj hlj => ?_
        · have := left_set hsz hun' hik
          omega
        · by_cases hji : j = i
          · subst hji; simpa using hV
          · simp only [hji, if_false]
            rw [getD_set_ne false (fun e => hji e.symm)] at hlj
            exact hmono j hj _ _ _ (hv j hj hlj) hg'
      unfold wpOp
      simp only [hoi]
      unfold OpDoes at hd
      rw [alike_wanted hal] at hd
      by_cases hw : Region.wanted oi (yielded ops (putL ops (fun j => listed.getD j false) vs (List.range k) a0).tmps) = true
      · rw [if_pos hw] at hd
        rw [if_pos hw]
        exact .inl ((hd.congr (alike_exec (ok.sel i oi · · hoi) hal)).wp next)
      · rw [if_neg hw] at hd
        rw [if_neg hw]
        exact next _ _ hd
end

/-- A region whose order is open: each of its first k operations by itself, what is behind in the text's order. -/
theorem wp_region_free {id : Nat} {Q : Exit → Act → World → Prop} {a : Act} {w : World} {l : List Oper} (k n : Nat) (hm : P.follows .mixedOrders = true) (hB : freeB l.toArray k = true) (hn : a.tmps.size = n) (hd : (l.take k).all (fun o => match o.dst with | some d => decide (d < n) | none => true) = true)
    (h : wpFree P l.toArray w.drew a (fun a' w' => wpList P l.toArray Q (l.drop k) a' w') (l.take k) 0 (fun _ _ _ => True)) : (Code.region id l.toArray true).wp P Q a w := by
  have ok := freeOk hB
  have hle : k ≤ l.length := by simpa using ok.le
  have hlt : (l.take k).length = k := by simp; omega
  have hget : ∀ (j : Nat) (o : Oper), (l.take k)[j]? = some o → l.toArray[j]? = some o ∧ j < k := fun j o ho => by
    have hj := (List.getElem?_eq_some_iff.1 ho).1
    rw [hlt] at hj
    rw [List.getElem?_take_of_lt hj] at ho
    exact ⟨by simpa using ho, hj⟩
  obtain ⟨Vs, _, h2, h3⟩ := free_words (P := P) (l.take k) 0 _ (fun j o ho e he hb => by
    obtain ⟨ho', hj⟩ := hget j o ho
    have := ok.before j o hj ho' e he hb
    omega) h
  simp only [Nat.zero_add, hlt] at h2 h3
  have each : ∀ (i : Nat) (o : Oper), i < k → l.toArray[i]? = some o → (l.take k)[i]? = some o := fun i o hi ho => by
    rw [List.getElem?_take_of_lt hi]; simpa using ho
  have inv0 : HeadInv .any l.toArray k (Array.replicate l.toArray.size false) :=
    ⟨by simp, fun j oj _ hl => (by rw [getD_replicate_false] at hl; cases hl), fun t _ ht => getD_in (by simpa using ht) (getD_replicate_false _ _)⟩
  refine wp_region_any hm ?_
  have hleft : ∀ n, left (Array.replicate l.toArray.size false) n = n := by
    intro n
    induction n with
    | zero => rfl
    | succ n ih => unfold left; rw [ih, getD_replicate_false]; simp
  have H := wpAny_free (P := P) (Q := Q) (a0 := a) (w0 := w.drew) ok (l.drop k) (fun j => by simp [List.getElem?_drop]) (by simp)
    (fun i hi v w w' => by
      have ho : l.toArray[i]? = some (l[i]'(by omega)) := by simp [show i < l.length by omega]
      exact (h2 i _ (each i _ hi ho)).1 v w w')
    (fun i o hi ho vs w' hg hv => by
      have hin : ∀ j, j < i → ∀ d, dstAt l.toArray j = some d → d < a.tmps.size := fun j hj d hdj => by
        have hlj : j < l.length := by omega
        have hoj : (l.take k)[j]? = some (l[j]) := by rw [List.getElem?_take_of_lt (by omega)]; exact List.getElem?_eq_getElem hlj
        have h4 := List.all_eq_true.1 hd _ (List.mem_of_getElem? hoj)
        have h5 : l[j].dst = some d := by simpa [dstAt, hlj] using hdj
        rw [h5] at h4
        rw [hn]
        simpa using h4
      rw [opDoes_eq, rho_eq i hin]
      exact (h2 i o (each i o hi ho)).2 vs w' hg hv) h3 k _ (fun _ => undef) w.drew (hleft k) inv0 (Grows.refl _) (fun i _ hl => (by rw [getD_replicate_false] at hl; cases hl))
  rw [putL_off _ _ (fun j _ => getD_replicate_false _ _), show k + (l.toArray.size - k) = l.toArray.size by simp; omega] at H
  exact H
end
theorem Grows.cell {w w' : World} (h : Grows w w') {p : Addr} {v : Value} (hc : w.cell? p = some v) : w'.cell? p = some v := (Below.cell h (block_lt_of_cell hc)).trans hc
section
variable {P : Program} {ops : Array Oper} {w0 : World} {a0 : Act} {E : Act → World → Prop} {o : Oper} {rest : List Oper} {i : Nat} {Vs : Nat → Value → World → Prop}
/-- An operation that yields one value in whatever world, and leaves the world. -/
theorem free_pure {v : Value} (hg : o.guard = none)
    (h : ∀ (vs : Nat → Value) w, Grows w0 w → (∀ e ∈ o.after, Region.binds .any e = true → Vs e.on (vs e.on) w) → (execOp (rho ops vs a0 i) o).run P w = .ok (.value v) w)
    (hr : wpFree P ops w0 a0 E rest (i + 1) (fun j => if j = i then (fun u _ => u = v) else Vs j)) : wpFree P ops w0 a0 E (o :: rest) i Vs :=
  ⟨fun u _ => u = v, fun _ _ _ h _ => h, fun vs w hw hd => by
    unfold OpDoesR
    rw [if_pos (by simp [Region.wanted, hg])]
    unfold Does
    rw [h vs w hw hd]
    exact ⟨Grows.refl _, rfl⟩, hr⟩
theorem free_op (V : Value → World → Prop) (hg : o.guard = none) (hm : ∀ v w w', V v w → Grows w w' → V v w')
    (h : ∀ (vs : Nat → Value) w, Grows w0 w → (∀ e ∈ o.after, Region.binds .any e = true → Vs e.on (vs e.on) w) → Does P o (rho ops vs a0 i) w (fun v w' => Grows w w' ∧ V v w'))
    (hr : wpFree P ops w0 a0 E rest (i + 1) (fun j => if j = i then V else Vs j)) : wpFree P ops w0 a0 E (o :: rest) i Vs :=
  ⟨V, hm, fun vs w hw hd => by
    unfold OpDoesR
    rw [if_pos (by simp [Region.wanted, hg])]
    exact h vs w hw hd, hr⟩
/-- A guarded one that is wanted. -/
theorem free_guarded (V : Value → World → Prop) (hm : ∀ v w w', V v w → Grows w w' → V v w')
    (h : ∀ (vs : Nat → Value) w, Grows w0 w → (∀ e ∈ o.after, Region.binds .any e = true → Vs e.on (vs e.on) w) → Region.wanted o (yieldR ops (rho ops vs a0 i)) = true ∧ Does P o (rho ops vs a0 i) w (fun v w' => Grows w w' ∧ V v w'))
    (hr : wpFree P ops w0 a0 E rest (i + 1) (fun j => if j = i then V else Vs j)) : wpFree P ops w0 a0 E (o :: rest) i Vs :=
  ⟨V, hm, fun vs w hw hd => by
    obtain ⟨h1, h2⟩ := h vs w hw hd
    unfold OpDoesR
    rw [if_pos h1]
    exact h2, hr⟩
/-- One that is passed over. -/
theorem free_passed
    (h : ∀ (vs : Nat → Value) w, Grows w0 w → (∀ e ∈ o.after, Region.binds .any e = true → Vs e.on (vs e.on) w) → Region.wanted o (yieldR ops (rho ops vs a0 i)) = false)
    (hr : wpFree P ops w0 a0 E rest (i + 1) (fun j => if j = i then (fun u _ => u = undef) else Vs j)) : wpFree P ops w0 a0 E (o :: rest) i Vs :=
  ⟨fun u _ => u = undef, fun _ _ _ h _ => h, fun vs w hw hd => by
    unfold OpDoesR
    rw [h vs w hw hd, if_neg (by simp)]
    exact ⟨Grows.refl _, rfl⟩, hr⟩
end
end Go.Proofs.Ytfcghkmhcfgfkaa
