/- FreeP -/
import Derived.Test.YtnigflobmiiefaaDoorBaseA
/- The rule for regions of open order (XFree) where some operations (A) lay new blocks: at the end it is known that these blocks are unlike. No function of the program. -/
namespace Go.Proofs.YtnigflobmiiefaaDoor
open Go.RowKit
/-- A pointer to a block that was not there before. -/
def Fresh (w w' : World) (v : Value) : Prop := ∃ g, v = .pointer (some ⟨g, 0, none⟩) ∧ w.heap.size ≤ g ∧ g < w'.heap.size
def Step (A : Nat → Bool) (i : Nat) (v : Value) (w w' : World) : Prop := Grows w w' ∧ (A i = true → Fresh w w' v)
def Apart (A : Nat → Bool) (k : Nat) (listed : Array Bool) (vs : Nat → Value) (w : World) : Prop :=
  (∀ i, i < k → listed.getD i false = true → A i = true → ∃ g, vs i = .pointer (some ⟨g, 0, none⟩) ∧ g < w.heap.size) ∧
  ∀ a b, a < k → b < k → a ≠ b → listed.getD a false = true → listed.getD b false = true → A a = true → A b = true → vs a ≠ vs b
theorem Apart.step {A : Nat → Bool} {k : Nat} {listed : Array Bool} {vs : Nat → Value} {w w' : World} {i : Nat} {v : Value} (h : Apart A k listed vs w) (hs : Step A i v w w') (hun : listed.getD i false = false) (hsz : i < listed.size) :
    Apart A k (listed.setIfInBounds i true) (fun j => if j = i then v else vs j) w' := by
  obtain ⟨h1, h2⟩ := h
  obtain ⟨hg, hf⟩ := hs
  have hle := Below.size hg
  refine ⟨fun j hj hl hA => ?_, fun a b ha hb hn hla hlb hAa hAb => ?_⟩
  · by_cases hji : j = i
    · subst hji
      obtain ⟨g, e, _, h4⟩ := hf hA
      exact ⟨g, by simpa using e, h4⟩
    · rw [getD_set_ne false (fun e => hji e.symm)] at hl
      obtain ⟨g, e, h4⟩ := h1 j hj hl hA
      exact ⟨g, by simpa [hji] using e, by omega⟩
  · by_cases hai : a = i
    · subst hai
      have hba : b ≠ a := fun e => hn e.symm
      rw [getD_set_ne false (fun e => hn e)] at hlb
      obtain ⟨g, e, h3, _⟩ := hf hAa
      obtain ⟨g', e', h4⟩ := h1 b hb hlb hAb
      simp only [hba, if_true, if_false]
      rw [e, e']
      intro c
      simp only [Value.pointer.injEq, Option.some.injEq, Addr.mk.injEq] at c
      omega
    · by_cases hbi : b = i
      · subst hbi
        rw [getD_set_ne false (fun e => hai e.symm)] at hla
        obtain ⟨g, e, h3, _⟩ := hf hAb
        obtain ⟨g', e', h4⟩ := h1 a ha hla hAa
        simp only [hai, if_true, if_false]
        rw [e, e']
        intro c
        simp only [Value.pointer.injEq, Option.some.injEq, Addr.mk.injEq] at c
        omega
      · rw [getD_set_ne false (fun e => hai e.symm)] at hla
        rw [getD_set_ne false (fun e => hbi e.symm)] at hlb
        simp only [hai, hbi, if_false]
        exact h2 a b ha hb hn hla hlb hAa hAb
section
variable {P : Program}
/-- The user's duty: operation by operation in the text's order; a word for each. -/
def wpFreeP (A : Nat → Bool) (P : Program) (ops : Array Oper) (w0 : World) (a0 : Act) (E : Act → World → Prop) : List Oper → Nat → (Nat → Value → World → Prop) → Prop
  | [], i, Vs => ∀ vs w, Grows w0 w → (∀ j, j < i → Vs j (vs j) w) → (∀ a b, a < i → b < i → a ≠ b → A a = true → A b = true → vs a ≠ vs b) → E (putL ops (fun _ => true) vs (List.range i) a0) w
  | o :: rest, i, Vs => ∃ V : Value → World → Prop, (∀ v w w', V v w → Grows w w' → V v w') ∧
      (∀ (vs : Nat → Value) w, Grows w0 w → (∀ e ∈ o.after, Region.binds .any e = true → Vs e.on (vs e.on) w) →
        OpDoesR P ops o (rho ops vs a0 i) w (fun v w' => Step A i v w w' ∧ V v w')) ∧
      wpFreeP A P ops w0 a0 E rest (i + 1) (fun j => if j = i then V else Vs j)

theorem free_wordsP {A : Nat → Bool} {ops : Array Oper} {w0 : World} {a0 : Act} {E : Act → World → Prop} : ∀ (l : List Oper) (i : Nat) (Vs : Nat → Value → World → Prop),
    (∀ (j : Nat) (o : Oper), l[j]? = some o → ∀ e ∈ o.after, Region.binds .any e = true → e.on < i + j) → wpFreeP A P ops w0 a0 E l i Vs →
    ∃ Vs' : Nat → Value → World → Prop, (∀ j, j < i → Vs' j = Vs j) ∧
      (∀ (j : Nat) (o : Oper), l[j]? = some o → (∀ v w w', Vs' (i + j) v w → Grows w w' → Vs' (i + j) v w') ∧
        ∀ (vs : Nat → Value) w, Grows w0 w → (∀ e ∈ o.after, Region.binds .any e = true → Vs' e.on (vs e.on) w) →
          OpDoesR P ops o (rho ops vs a0 (i + j)) w (fun v w' => Step A (i + j) v w w' ∧ Vs' (i + j) v w')) ∧
      ∀ vs w, Grows w0 w → (∀ j, j < i + l.length → Vs' j (vs j) w) → (∀ a b, a < i + l.length → b < i + l.length → a ≠ b → A a = true → A b = true → vs a ≠ vs b) → E (putL ops (fun _ => true) vs (List.range (i + l.length)) a0) w
  | [], i, Vs, _, h => ⟨Vs, fun _ _ => rfl, fun j o h => by simp at h, by simpa [wpFreeP] using h⟩
  | o :: rest, i, Vs, hb, h => by
    obtain ⟨V, hm, hd, hr⟩ := h
    obtain ⟨Vs', h1, h2, h3⟩ := free_wordsP rest (i + 1) _ (fun j o' ho' e he hbi => by
      have := hb (j + 1) o' (by simpa using ho') e he hbi
      omega) hr
    have hi : Vs' i = V := by rw [h1 i (by omega)]; simp
    have hlt : ∀ j, j < i → Vs' j = Vs j := fun j hj => by rw [h1 j (by omega)]; simp [show ¬ j = i by omega]
    refine ⟨Vs', hlt, fun j o' ho' => ?_, ?_⟩
    · cases j with
      | zero =>
        simp only [List.getElem?_cons_zero, Option.some.injEq] at ho'
        subst ho'
        simp only [Nat.add_zero, hi]
        refine ⟨hm, fun vs w hg hv => hd vs w hg fun e he hbi => ?_⟩
        have hlt' := hb 0 o (by simp) e he hbi
        have := hv e he hbi
        rwa [hlt e.on (by omega)] at this
      | succ j =>
        have := h2 j o' (by simpa using ho')
        rw [show i + 1 + j = i + (j + 1) by omega] at this
        exact this
    · rw [show i + 1 + rest.length = i + (o :: rest).length by simp; omega] at h3
      exact h3

section
variable {A : Nat → Bool} {ops : Array Oper} {k : Nat} {w0 : World} {a0 : Act} {Vs : Nat → Value → World → Prop} {Q : Exit → Act → World → Prop}
theorem wpAny_freeP (ok : FreeOk ops k) (l : List Oper) (hl : ∀ j, l[j]? = ops[k + j]?) (hll : l.length = ops.size - k)
    (hmono : ∀ i, i < k → ∀ v w w', Vs i v w → Grows w w' → Vs i v w')
    (hdo : ∀ (i : Nat) (o : Oper), i < k → ops[i]? = some o → ∀ (vs : Nat → Value) w, Grows w0 w → (∀ e ∈ o.after, Region.binds .any e = true → Vs e.on (vs e.on) w) →
      OpDoes P ops o (putL ops (fun _ => true) vs (List.range i) a0) w (fun v w' => Step A i v w w' ∧ Vs i v w'))
    (hend : ∀ vs w, Grows w0 w → (∀ j, j < k → Vs j (vs j) w) → (∀ a b, a < k → b < k → a ≠ b → A a = true → A b = true → vs a ≠ vs b) → wpList P ops Q l (putL ops (fun _ => true) vs (List.range k) a0) w) :
    ∀ (f : Nat) (listed : Array Bool) (vs : Nat → Value) (w : World), left listed k = f → HeadInv .any ops k listed → Grows w0 w → (∀ i, i < k → listed.getD i false = true → Vs i (vs i) w) → Apart A k listed vs w →
      wpAny P .any ops Q (f + (ops.size - k)) listed (putL ops (fun j => listed.getD j false) vs (List.range k) a0) w
  | 0, listed, vs, w, hf, inv, hg, hv, hap => by
    have hall := left_zero hf
    have hL : listed = ((List.range ops.size).map fun i => decide (i < k)).toArray := by
      apply Array.ext
      · simp [inv.size]
      · intro i h1 h2
        simp only [List.getElem_toArray, List.getElem_map, List.getElem_range]
        by_cases hik : i < k
        · have := hall i hik
          simp [h1] at this
          simp [hik, this]
        · have := inv.tail i (by omega) (by rw [inv.size] at h1; exact h1)
          simp [h1] at this
          simp [hik, this]
    rw [putL_same (L' := fun _ => true) (vs' := vs) _ _ fun j hj => ⟨hall j (List.mem_range.1 hj), fun _ => rfl⟩, Nat.zero_add, ← hll]
    have hs := ok.seq
    rw [← hL, ← hll] at hs
    exact wpAny_of_seq l k listed _ w hl hs (hend vs w hg (fun j hj => hv j hj (hall j hj)) fun a b ha hb hn hA hB => hap.2 a b ha hb hn (hall a ha) (hall b hb) hA hB)
  | f + 1, listed, vs, w, hf, inv, hg, hv, hap => by
    rw [show f + 1 + (ops.size - k) = (f + (ops.size - k)) + 1 by omega]
    obtain ⟨i0, hi0, hu0, hb0⟩ := left_some (listed := listed) (k := k) (by omega)
    have hle := ok.le
    refine ⟨fun h0 => ?_, fun i hi => ?_⟩
    · exfalso
      have hr : i0 ∈ Region.ready .any ops listed := by
        rw [mem_ready]
        have ho : ops[i0]? = some (ops[i0]'(by omega)) := Array.getElem?_eq_getElem (by omega)
        refine ⟨getD_in (by rw [inv.size]; omega) hu0, _, ho, fun e he hb => hb0 _ (ok.before i0 _ hi0 ho e he hb)⟩
      rw [h0] at hr
      cases hr
    · have hik : i < k := by
        rcases Nat.lt_or_ge i k with h | h
        · exact h
        · exfalso
          rcases ok.tail with ht | ⟨hs, hc⟩
          · obtain ⟨_, o, ho, _⟩ := mem_ready.1 hi
            have := (Array.getElem?_eq_some_iff.1 ho).1
            omega
          · obtain ⟨_, o, ho, _⟩ := mem_ready.1 hi
            have := (Array.getElem?_eq_some_iff.1 ho).1
            exact tail_waits hs hc (by omega) inv _ i0 rfl hi0 (getD_in (by rw [inv.size]; omega) hu0) i h hi
      obtain ⟨hun, oi, hoi, hall⟩ := mem_ready.1 hi
      have hun' : listed.getD i false = false := getD_both hun
      have hsz : i < listed.size := by rw [inv.size]; omega
      -- what it looks at is as it is in the text's order
      have hal : Alike (oi.looksAt ops) (putL ops (fun j => decide (j < i)) vs (List.range k) a0) (putL ops (fun j => listed.getD j false) vs (List.range k) a0) := by
        refine alike_putL _ _ _ ⟨rfl, fun _ _ => rfl⟩ fun j hj hne x hx => ?_
        have hjk := List.mem_range.1 hj
        cases hoj : ops[j]? with
        | none => simp [dstAt, hoj] at hx
        | some oj =>
          simp only [dstAt, hoj, Option.bind_some] at hx
          by_cases hji : j < i
          · have hlj : listed.getD j false = false := by simpa [hji] using hne
            rcases (ok.pair i j oi oj hik hji hoi hoj).1 with hw | hap2
            · obtain ⟨o', ho', e, he, hbi, hon⟩ := Region.waitsFor_spec hw
              rw [hoi] at ho'
              cases ho'
              have := hall e he hbi
              rw [hon, hlj] at this
              cases this
            · exact (Oper.apart_spec hap2).1 x hx
          · have hlj : listed.getD j false = true := by simpa [hji] using hne
            have hij : i < j := by
              rcases Nat.lt_trichotomy i j with h | h | h
              · exact h
              · subst h; rw [hun'] at hlj; cases hlj
              · exact absurd h hji
            rcases (ok.pair j i oj oi hjk hij hoj hoi).1 with hw | hap2
            · obtain ⟨o', ho', e, he, hbi, hon⟩ := Region.waitsFor_spec hw
              rw [hoj] at ho'
              cases ho'
              have := inv.closed j oj hoj hlj e he hbi
              rw [hon, hun'] at this
              cases this
            · exact (Oper.apart_spec hap2).2.2 x hx
      rw [putL_upto (Nat.le_of_lt hik)] at hal
      have hd := hdo i oi hik hoi vs w hg fun e he hb => hv _ (by have := ok.before i oi hik hoi e he hb; omega) (hall e he hb)
      have next : ∀ v w', Step A i v w w' ∧ Vs i v w' → wpAny P .any ops Q (f + (ops.size - k)) (listed.setIfInBounds i true) ((putL ops (fun j => listed.getD j false) vs (List.range k) a0).put oi.dst v) w' := by
        rintro v w' ⟨hst, hV⟩
        have hg' := hst.1
        have hdst : dstAt ops i = oi.dst := by simp [dstAt, hoi]
        have hadd := putL_add (ops := ops) (L := fun j => listed.getD j false) (vs := vs) (i := i) (v := v) hun' (List.range k) a0 List.nodup_range (List.mem_range.2 hik) (fun j hj hne x hx hx' => by
          have hjk := List.mem_range.1 hj
          cases hoj : ops[j]? with
          | none => simp [dstAt, hoj] at hx'
          | some oj =>
            rw [hdst] at hx
            simp only [dstAt, hoj, Option.bind_some] at hx'
            rcases Nat.lt_or_gt_of_ne hne with h | h
            · exact (ok.pair i j oi oj hik h hoi hoj).2 x hx hx'
            · exact (ok.pair j i oj oi hjk h hoj hoi).2 x hx' hx)
        rw [hdst] at hadd
        rw [← hadd]
        have hsame : (fun j => (listed.setIfInBounds i true).getD j false) = (fun j => listed.getD j false || j == i) := by
          funext j
          by_cases hji : i = j
          · subst hji
            have : (listed.setIfInBounds i true).getD i false = true := by simp [hsz]
            rw [this]; simp
          · rw [getD_set_ne false hji]
            have : (j == i) = false := by simpa using fun e => hji e.symm
            simp [this]
        rw [← hsame]
        refine wpAny_freeP ok l hl hll hmono hdo hend f _ _ w' ?_ (inv.set hi hik) (hg.trans hg') (fun j hj hlj => ?_) (hap.step hst hun' hsz)
        · have := left_set hsz hun' hik
          omega
        · by_cases hji : j = i
          · subst hji; simpa using hV
          · simp only [hji, if_false]
            rw [getD_set_ne false (fun e => hji e.symm)] at hlj
            exact hmono j hj _ _ _ (hv j hj hlj) hg'
      unfold wpOp
      simp only [hoi]
      unfold OpDoes at hd
      rw [alike_wanted hal] at hd
      by_cases hw : Region.wanted oi (yielded ops (putL ops (fun j => listed.getD j false) vs (List.range k) a0).tmps) = true
      · rw [if_pos hw] at hd
        rw [if_pos hw]
        exact .inl ((hd.congr (alike_exec (ok.sel i oi · · hoi) hal)).wp next)
      · rw [if_neg hw] at hd
        rw [if_neg hw]
        exact next _ _ hd
end

/-- A region whose order is open: each of its first k operations by itself, what is behind in the text's order. -/
theorem wp_region_freeP {id : Nat} (A : Nat → Bool) {Q : Exit → Act → World → Prop} {a : Act} {w : World} {l : List Oper} (k n : Nat) (hm : P.follows .mixedOrders = true) (hB : freeB l.toArray k = true) (hn : a.tmps.size = n) (hd : (l.take k).all (fun o => match o.dst with | some d => decide (d < n) | none => true) = true)
    (h : wpFreeP A P l.toArray w.drew a (fun a' w' => wpList P l.toArray Q (l.drop k) a' w') (l.take k) 0 (fun _ _ _ => True)) : (Code.region id l.toArray true).wp P Q a w := by
  have ok := freeOk hB
  have hle : k ≤ l.length := by simpa using ok.le
  have hlt : (l.take k).length = k := by simp; omega
  have hget : ∀ (j : Nat) (o : Oper), (l.take k)[j]? = some o → l.toArray[j]? = some o ∧ j < k := fun j o ho => by
    have hj := (List.getElem?_eq_some_iff.1 ho).1
    rw [hlt] at hj
    rw [List.getElem?_take_of_lt hj] at ho
    exact ⟨by simpa using ho, hj⟩
  obtain ⟨Vs, _, h2, h3⟩ := free_wordsP (A := A) (P := P) (l.take k) 0 _ (fun j o ho e he hb => by
    obtain ⟨ho', hj⟩ := hget j o ho
    have := ok.before j o hj ho' e he hb
    omega) h
  simp only [Nat.zero_add, hlt] at h2 h3
  have each : ∀ (i : Nat) (o : Oper), i < k → l.toArray[i]? = some o → (l.take k)[i]? = some o := fun i o hi ho => by
    rw [List.getElem?_take_of_lt hi]; simpa using ho
  have inv0 : HeadInv .any l.toArray k (Array.replicate l.toArray.size false) :=
    ⟨by simp, fun j oj _ hl => (by rw [getD_replicate_false] at hl; cases hl), fun t _ ht => getD_in (by simpa using ht) (getD_replicate_false _ _)⟩
  refine wp_region_any hm ?_
  have hleft : ∀ n, left (Array.replicate l.toArray.size false) n = n := by
    intro n
    induction n with
    | zero => rfl
    | succ n ih => unfold left; rw [ih, getD_replicate_false]; simp
  have H := wpAny_freeP (A := A) (P := P) (Q := Q) (a0 := a) (w0 := w.drew) ok (l.drop k) (fun j => by simp [List.getElem?_drop]) (by simp)
    (fun i hi v w w' => by
      have ho : l.toArray[i]? = some (l[i]'(by omega)) := by simp [show i < l.length by omega]
      exact (h2 i _ (each i _ hi ho)).1 v w w')
    (fun i o hi ho vs w' hg hv => by
      have hin : ∀ j, j < i → ∀ d, dstAt l.toArray j = some d → d < a.tmps.size := fun j hj d hdj => by
        have hlj : j < l.length := by omega
        have hoj : (l.take k)[j]? = some (l[j]) := by rw [List.getElem?_take_of_lt (by omega)]; exact List.getElem?_eq_getElem hlj
        have h4 := List.all_eq_true.1 hd _ (List.mem_of_getElem? hoj)
        have h5 : l[j].dst = some d := by simpa [dstAt, hlj] using hdj
        rw [h5] at h4
        rw [hn]
        simpa using h4
      rw [opDoes_eq, rho_eq i hin]
      exact (h2 i o (each i o hi ho)).2 vs w' hg hv) h3 k _ (fun _ => undef) w.drew (hleft k) inv0 (Grows.refl _) (fun i _ hl => (by rw [getD_replicate_false] at hl; cases hl)) ⟨fun i _ hl => (by rw [getD_replicate_false] at hl; cases hl), fun i j _ _ _ hl => (by rw [getD_replicate_false] at hl; cases hl)⟩
  rw [putL_off _ _ (fun j _ => getD_replicate_false _ _), show k + (l.toArray.size - k) = l.toArray.size by simp; omega] at H
  exact H
end
theorem Does.up {P : Program} {o : Oper} {ρ : Operand → Value} {w : World} {R R' : Value → World → Prop} (h : Does P o ρ w R) (hR : ∀ v w', R v w' → R' v w') : Does P o ρ w R' := by
  unfold Does at h ⊢
  generalize (execOp ρ o).run P w = r at h ⊢
  cases r with
  | ok x w' =>
    cases x <;> simp only at h ⊢
    case value v => exact hR _ _ h
    case skip => exact hR _ _ h
    case enter f args =>
      refine h.mono ?_
      rintro e w'' ⟨v, rfl, hv⟩
      exact ⟨v, rfl, hR _ _ hv⟩
  | halt x w' => exact h.elim
section
variable {P : Program} {A : Nat → Bool} {ops : Array Oper} {w0 : World} {a0 : Act} {E : Act → World → Prop} {o : Oper} {rest : List Oper} {i : Nat} {Vs : Nat → Value → World → Prop}
theorem free_pureP {v : Value} (hA : A i = false) (hg : o.guard = none)
    (h : ∀ (vs : Nat → Value) w, Grows w0 w → (∀ e ∈ o.after, Region.binds .any e = true → Vs e.on (vs e.on) w) → (execOp (rho ops vs a0 i) o).run P w = .ok (.value v) w)
    (hr : wpFreeP A P ops w0 a0 E rest (i + 1) (fun j => if j = i then (fun u _ => u = v) else Vs j)) : wpFreeP A P ops w0 a0 E (o :: rest) i Vs :=
  ⟨fun u _ => u = v, fun _ _ _ h _ => h, fun vs w hw hd => by
    unfold OpDoesR
    rw [if_pos (by simp [Region.wanted, hg])]
    unfold Does
    rw [h vs w hw hd]
    exact ⟨⟨Grows.refl _, fun e => by rw [hA] at e; cases e⟩, rfl⟩, hr⟩
theorem free_opP (V : Value → World → Prop) (hA : A i = false) (hg : o.guard = none) (hm : ∀ v w w', V v w → Grows w w' → V v w')
    (h : ∀ (vs : Nat → Value) w, Grows w0 w → (∀ e ∈ o.after, Region.binds .any e = true → Vs e.on (vs e.on) w) → Does P o (rho ops vs a0 i) w (fun v w' => Grows w w' ∧ V v w'))
    (hr : wpFreeP A P ops w0 a0 E rest (i + 1) (fun j => if j = i then V else Vs j)) : wpFreeP A P ops w0 a0 E (o :: rest) i Vs :=
  ⟨V, hm, fun vs w hw hd => by
    unfold OpDoesR
    rw [if_pos (by simp [Region.wanted, hg])]
    exact (h vs w hw hd).up fun v w' h => ⟨⟨h.1, fun e => by rw [hA] at e; cases e⟩, h.2⟩, hr⟩
/-- One that lays a block. -/
theorem free_newP (V : Value → World → Prop) (hg : o.guard = none) (hm : ∀ v w w', V v w → Grows w w' → V v w')
    (h : ∀ (vs : Nat → Value) w, Grows w0 w → (∀ e ∈ o.after, Region.binds .any e = true → Vs e.on (vs e.on) w) → Does P o (rho ops vs a0 i) w (fun v w' => (Grows w w' ∧ Fresh w w' v) ∧ V v w'))
    (hr : wpFreeP A P ops w0 a0 E rest (i + 1) (fun j => if j = i then V else Vs j)) : wpFreeP A P ops w0 a0 E (o :: rest) i Vs :=
  ⟨V, hm, fun vs w hw hd => by
    unfold OpDoesR
    rw [if_pos (by simp [Region.wanted, hg])]
    exact (h vs w hw hd).up fun v w' h => ⟨⟨h.1.1, fun _ => h.1.2⟩, h.2⟩, hr⟩
end
end Go.Proofs.YtnigflobmiiefaaDoor
