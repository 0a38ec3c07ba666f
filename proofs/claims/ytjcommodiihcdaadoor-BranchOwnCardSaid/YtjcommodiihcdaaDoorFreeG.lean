/- FreeG -/
import Derived.Test.YtjcommodiihcdaaDoorBaseA
import Derived.Deep.MidRow
/- The rule for regions of open order (XFree, XFreeIn) where an operation writes a block that lay before: any relation between worlds in place of growth. No function of the program. -/
namespace Go.Proofs.YtjcommodiihcdaaDoor
open Go.RowKit
structure GRel (G : World → World → Prop) : Prop where
  refl : ∀ w, G w w
  trans : ∀ {a b c}, G a b → G b c → G a c
/-- The heap may grow, and block g may be written: with these cells, of so many. -/
def Writes (g : Nat) (t : TypeId) (new : Array Value) (n : Nat) (w w' : World) : Prop :=
  w.grownBy w' (some g) ∧ (Row w g t new → Row w' g t new) ∧ ((∃ old : Array Value, old.size = n ∧ Row w g t old) → ∃ old : Array Value, old.size = n ∧ Row w' g t old)
section
variable {g n : Nat} {t : TypeId} {new : Array Value}
theorem Writes.rel : GRel (Writes g t new n) where
  refl := fun w => ⟨⟨rfl, rfl, rfl, Nat.le_refl _, fun _ _ _ => rfl⟩, id, id⟩
  trans := fun h k => ⟨⟨k.1.os.trans h.1.os, k.1.tape.trans h.1.tape, k.1.output.trans h.1.output, Nat.le_trans h.1.size k.1.size, fun i hi hn => (k.1.block i (Nat.lt_of_lt_of_le hi h.1.size) hn).trans (h.1.block i hi hn)⟩, fun r => k.2.1 (h.2.1 r), fun r => k.2.2 (h.2.2 r)⟩
theorem Writes.of_grows {w w' : World} (h : Grows w w') : Writes g t new n w w' :=
  ⟨⟨Below.os h, Below.tape h, Below.output h, Below.size h, fun k hk _ => Below.block h k hk⟩, fun r => r.grows h, fun ⟨old, h1, r⟩ => ⟨old, h1, r.grows h⟩⟩
theorem Writes.of_write {w w' : World} (h1 : w.grownBy w' (some g)) (h2 : Row w' g t new) (h3 : new.size = n) : Writes g t new n w w' := ⟨h1, fun _ => h2, fun _ => ⟨new, h3, h2⟩⟩
theorem Writes.row {w w' : World} (h : Writes g t new n w w') {b : Nat} {t' : TypeId} {cs : Array Value} (hr : Row w b t' cs) (hb : b ≠ g) : Row w' b t' cs := hr.grown h.1 (by simpa using hb)
theorem Writes.cell {w w' : World} (h : Writes g t new n w w') {p : Addr} {v : Value} (hc : w.cell? p = some v) (hb : p.block ≠ g) : w'.cell? p = some v :=
  (World.cell?_of_block (h.1.block p.block (block_lt_of_cell hc) (by simpa using hb))).trans hc
theorem Writes.range {w w' : World} (h : Writes g t new n w w') {b o : Nat} {cs : List Value} (hc : w.rangeAt b o cs) (hb : b ≠ g) : w'.rangeAt b o cs := fun j v hv => h.cell (hc j v hv) hb
theorem Writes.grows {w0 w w' : World} (h : Writes g t new n w w') (h0 : Grows w0 w) (hg : w0.heap.size ≤ g) : Grows w0 w' := h0.grown h.1 h0.size (fun k e => by cases e; exact hg)
end
section
variable {P : Program}
/-- The user's duty: operation by operation in the text's order; a word for each. -/
def wpFreeG (G : World → World → Prop) (P : Program) (ops : Array Oper) (w0 : World) (a0 : Act) (E : Act → World → Prop) : List Oper → Nat → (Nat → Value → World → Prop) → Prop
  | [], i, Vs => ∀ vs w, G w0 w → (∀ j, j < i → Vs j (vs j) w) → E (putL ops (fun _ => true) vs (List.range i) a0) w
  | o :: rest, i, Vs => ∃ V : Value → World → Prop, (∀ v w w', V v w → G w w' → V v w') ∧
      (∀ (vs : Nat → Value) w, G w0 w → (∀ e ∈ o.after, Region.binds .any e = true → Vs e.on (vs e.on) w) →
        OpDoesR P ops o (rho ops vs a0 i) w (fun v w' => G w w' ∧ V v w')) ∧
      wpFreeG G P ops w0 a0 E rest (i + 1) (fun j => if j = i then V else Vs j)

theorem free_wordsG {G : World → World → Prop} {ops : Array Oper} {w0 : World} {a0 : Act} {E : Act → World → Prop} : ∀ (l : List Oper) (i : Nat) (Vs : Nat → Value → World → Prop),
    (∀ (j : Nat) (o : Oper), l[j]? = some o → ∀ e ∈ o.after, Region.binds .any e = true → e.on < i + j) → wpFreeG G P ops w0 a0 E l i Vs →
    ∃ Vs' : Nat → Value → World → Prop, (∀ j, j < i → Vs' j = Vs j) ∧
      (∀ (j : Nat) (o : Oper), l[j]? = some o → (∀ v w w', Vs' (i + j) v w → G w w' → Vs' (i + j) v w') ∧
        ∀ (vs : Nat → Value) w, G w0 w → (∀ e ∈ o.after, Region.binds .any e = true → Vs' e.on (vs e.on) w) →
          OpDoesR P ops o (rho ops vs a0 (i + j)) w (fun v w' => G w w' ∧ Vs' (i + j) v w')) ∧
      ∀ vs w, G w0 w → (∀ j, j < i + l.length → Vs' j (vs j) w) → E (putL ops (fun _ => true) vs (List.range (i + l.length)) a0) w
  | [], i, Vs, _, h => ⟨Vs, fun _ _ => rfl, fun j o h => by simp at h, by simpa [wpFreeG] using h⟩
  | o :: rest, i, Vs, hb, h => by
    obtain ⟨V, hm, hd, hr⟩ := h
    obtain ⟨Vs', h1, h2, h3⟩ := free_wordsG rest (i + 1) _ (fun j o' ho' e he hbi => by
      have := hb (j + 1) o' (by simpa using ho') e he hbi
      omega) hr
    have hi : Vs' i = V := by rw [h1 i (by omega)]; simp
    have hlt : ∀ j, j < i → Vs' j = Vs j := fun j hj => by rw [h1 j (by omega)]; simp [show ¬ j = i by omega]
    refine ⟨Vs', hlt, fun j o' ho' => ?_, ?_⟩
    · cases j with
      | zero =>
        simp only [List.getElem?_cons_zero, Option.some.injEq] at ho'
        subst ho'
        simp only [Nat.add_zero, hi]
        refine ⟨hm, fun vs w hg hv => hd vs w hg fun e he hbi => ?_⟩
        have hlt' := hb 0 o (by simp) e he hbi
        have := hv e he hbi
        rwa [hlt e.on (by omega)] at this
      | succ j =>
        have := h2 j o' (by simpa using ho')
        rw [show i + 1 + j = i + (j + 1) by omega] at this
        exact this
    · rw [show i + 1 + rest.length = i + (o :: rest).length by simp; omega] at h3
      exact h3

section
variable {ops : Array Oper} {k : Nat} {w0 : World} {a0 : Act} {Vs : Nat → Value → World → Prop} {Q : Exit → Act → World → Prop}
theorem wpAny_freeG {G : World → World → Prop} (hG : GRel G) (ok : FreeOk ops k) (l : List Oper) (hl : ∀ j, l[j]? = ops[k + j]?) (hll : l.length = ops.size - k)
    (hmono : ∀ i, i < k → ∀ v w w', Vs i v w → G w w' → Vs i v w')
    (hdo : ∀ (i : Nat) (o : Oper), i < k → ops[i]? = some o → ∀ (vs : Nat → Value) w, G w0 w → (∀ e ∈ o.after, Region.binds .any e = true → Vs e.on (vs e.on) w) →
      OpDoes P ops o (putL ops (fun _ => true) vs (List.range i) a0) w (fun v w' => G w w' ∧ Vs i v w'))
    (hend : ∀ vs w, G w0 w → (∀ j, j < k → Vs j (vs j) w) → wpList P ops Q l (putL ops (fun _ => true) vs (List.range k) a0) w) :
    ∀ (f : Nat) (listed : Array Bool) (vs : Nat → Value) (w : World), left listed k = f → HeadInv .any ops k listed → G w0 w → (∀ i, i < k → listed.getD i false = true → Vs i (vs i) w) →
      wpAny P .any ops Q (f + (ops.size - k)) listed (putL ops (fun j => listed.getD j false) vs (List.range k) a0) w
  | 0, listed, vs, w, hf, inv, hg, hv => by
    have hall := left_zero hf
    have hL : listed = ((List.range ops.size).map fun i => decide (i < k)).toArray := by
      apply Array.ext
      · simp [inv.size]
      · intro i h1 h2
        simp only [List.getElem_toArray, List.getElem_map, List.getElem_range]
        by_cases hik : i < k
        · have := hall i hik
          simp [h1] at this
          simp [hik, this]
        · have := inv.tail i (by omega) (by rw [inv.size] at h1; exact h1)
          simp [h1] at this
          simp [hik, this]
    rw [putL_same (L' := fun _ => true) (vs' := vs) _ _ fun j hj => ⟨hall j (List.mem_range.1 hj), fun _ => rfl⟩, Nat.zero_add, ← hll]
    have hs := ok.seq
    rw [← hL, ← hll] at hs
    exact wpAny_of_seq l k listed _ w hl hs (hend vs w hg fun j hj => hv j hj (hall j hj))
  | f + 1, listed, vs, w, hf, inv, hg, hv => by
    rw [show f + 1 + (ops.size - k) = (f + (ops.size - k)) + 1 by omega]
    obtain ⟨i0, hi0, hu0, hb0⟩ := left_some (listed := listed) (k := k) (by omega)
    have hle := ok.le
    refine ⟨fun h0 => ?_, fun i hi => ?_⟩
    · exfalso
      have hr : i0 ∈ Region.ready .any ops listed := by
        rw [mem_ready]
        have ho : ops[i0]? = some (ops[i0]'(by omega)) := Array.getElem?_eq_getElem (by omega)
        refine ⟨getD_in (by rw [inv.size]; omega) hu0, _, ho, fun e he hb => hb0 _ (ok.before i0 _ hi0 ho e he hb)⟩
      rw [h0] at hr
      cases hr
    · have hik : i < k := by
        rcases Nat.lt_or_ge i k with h | h
        · exact h
        · exfalso
          rcases ok.tail with ht | ⟨hs, hc⟩
          · obtain ⟨_, o, ho, _⟩ := mem_ready.1 hi
            have := (Array.getElem?_eq_some_iff.1 ho).1
            omega
          · obtain ⟨_, o, ho, _⟩ := mem_ready.1 hi
            have := (Array.getElem?_eq_some_iff.1 ho).1
            exact tail_waits hs hc (by omega) inv _ i0 rfl hi0 (getD_in (by rw [inv.size]; omega) hu0) i h hi
      obtain ⟨hun, oi, hoi, hall⟩ := mem_ready.1 hi
      have hun' : listed.getD i false = false := getD_both hun
      have hsz : i < listed.size := by rw [inv.size]; omega
      -- what it looks at is as it is in the text's order
      have hal : Alike (oi.looksAt ops) (putL ops (fun j => decide (j < i)) vs (List.range k) a0) (putL ops (fun j => listed.getD j false) vs (List.range k) a0) := by
        refine alike_putL _ _ _ ⟨rfl, fun _ _ => rfl⟩ fun j hj hne x hx => ?_
        have hjk := List.mem_range.1 hj
        cases hoj : ops[j]? with
        | none => simp [dstAt, hoj] at hx
        | some oj =>
          simp only [dstAt, hoj, Option.bind_some] at hx
          by_cases hji : j < i
          · have hlj : listed.getD j false = false := by simpa [hji] using hne
            rcases (ok.pair i j oi oj hik hji hoi hoj).1 with hw | hap
            · obtain ⟨o', ho', e, he, hbi, hon⟩ := Region.waitsFor_spec hw
              rw [hoi] at ho'
              cases ho'
              have := hall e he hbi
              rw [hon, hlj] at this
              cases this
            · exact (Oper.apart_spec hap).1 x hx
          · have hlj : listed.getD j false = true := by simpa [hji] using hne
            have hij : i < j := by
              rcases Nat.lt_trichotomy i j with h | h | h
              · exact h
              · subst h; rw [hun'] at hlj; cases hlj
              · exact absurd h hji
            rcases (ok.pair j i oj oi hjk hij hoj hoi).1 with hw | hap
            · obtain ⟨o', ho', e, he, hbi, hon⟩ := Region.waitsFor_spec hw
              rw [hoj] at ho'
              cases ho'
              have := inv.closed j oj hoj hlj e he hbi
              rw [hon, hun'] at this
              cases this
            · exact (Oper.apart_spec hap).2.2 x hx
      rw [putL_upto (Nat.le_of_lt hik)] at hal
      have hd := hdo i oi hik hoi vs w hg fun e he hb => hv _ (by have := ok.before i oi hik hoi e he hb; omega) (hall e he hb)
      have next : ∀ v w', G w w' ∧ Vs i v w' → wpAny P .any ops Q (f + (ops.size - k)) (listed.setIfInBounds i true) ((putL ops (fun j => listed.getD j false) vs (List.range k) a0).put oi.dst v) w' := by
        rintro v w' ⟨hg', hV⟩
        have hdst : dstAt ops i = oi.dst := by simp [dstAt, hoi]
        have hadd := putL_add (ops := ops) (L := fun j => listed.getD j false) (vs := vs) (i := i) (v := v) hun' (List.range k) a0 List.nodup_range (List.mem_range.2 hik) (fun j hj hne x hx hx' => by
          have hjk := List.mem_range.1 hj
          cases hoj : ops[j]? with
          | none => simp [dstAt, hoj] at hx'
          | some oj =>
            rw [hdst] at hx
            simp only [dstAt, hoj, Option.bind_some] at hx'
            rcases Nat.lt_or_gt_of_ne hne with h | h
            · exact (ok.pair i j oi oj hik h hoi hoj).2 x hx hx'
            · exact (ok.pair j i oj oi hjk h hoj hoi).2 x hx' hx)
        rw [hdst] at hadd
        rw [← hadd]
        have hsame : (fun j => (listed.setIfInBounds i true).getD j false) = (fun j => listed.getD j false || j == i) := by
          funext j
          by_cases hji : i = j
          · subst hji
            have : (listed.setIfInBounds i true).getD i false = true := by simp [hsz]
            rw [this]; simp
          · rw [getD_set_ne false hji]
            have : (j == i) = false := by simpa using fun e => hji e.symm
            simp [this]
        rw [← hsame]
        refine wpAny_freeG hG ok l hl hll hmono hdo hend f _ _ w' ?_ (inv.set hi hik) (hG.trans hg hg') fun j hj hlj => ?_
        · have := left_set hsz hun' hik
          omega
        · by_cases hji : j = i
          · subst hji; simpa using hV
          · simp only [hji, if_false]
            rw [getD_set_ne false (fun e => hji e.symm)] at hlj
            exact hmono j hj _ _ _ (hv j hj hlj) hg'
      unfold wpOp
      simp only [hoi]
      unfold OpDoes at hd
      rw [alike_wanted hal] at hd
      by_cases hw : Region.wanted oi (yielded ops (putL ops (fun j => listed.getD j false) vs (List.range k) a0).tmps) = true
      · rw [if_pos hw] at hd
        rw [if_pos hw]
        exact .inl ((hd.congr (alike_exec (ok.sel i oi · · hoi) hal)).wp next)
      · rw [if_neg hw] at hd
        rw [if_neg hw]
        exact next _ _ hd
end

/-- A region whose order is open: each of its first k operations by itself, what is behind in the text's order. -/
theorem wp_region_freeG {G : World → World → Prop} (hG : GRel G) {id : Nat} {Q : Exit → Act → World → Prop} {a : Act} {w : World} {l : List Oper} (k n : Nat) (hm : P.follows .mixedOrders = true) (hB : freeB l.toArray k = true) (hn : a.tmps.size = n) (hd : (l.take k).all (fun o => match o.dst with | some d => decide (d < n) | none => true) = true)
    (h : wpFreeG G P l.toArray w.drew a (fun a' w' => wpList P l.toArray Q (l.drop k) a' w') (l.take k) 0 (fun _ _ _ => True)) : (Code.region id l.toArray true).wp P Q a w := by
  have ok := freeOk hB
  have hle : k ≤ l.length := by simpa using ok.le
  have hlt : (l.take k).length = k := by simp; omega
  have hget : ∀ (j : Nat) (o : Oper), (l.take k)[j]? = some o → l.toArray[j]? = some o ∧ j < k := fun j o ho => by
    have hj := (List.getElem?_eq_some_iff.1 ho).1
    rw [hlt] at hj
    rw [List.getElem?_take_of_lt hj] at ho
    exact ⟨by simpa using ho, hj⟩
  obtain ⟨Vs, _, h2, h3⟩ := free_wordsG (P := P) (l.take k) 0 _ (fun j o ho e he hb => by
    obtain ⟨ho', hj⟩ := hget j o ho
    have := ok.before j o hj ho' e he hb
    omega) h
  simp only [Nat.zero_add, hlt] at h2 h3
  have each : ∀ (i : Nat) (o : Oper), i < k → l.toArray[i]? = some o → (l.take k)[i]? = some o := fun i o hi ho => by
    rw [List.getElem?_take_of_lt hi]; simpa using ho
  have inv0 : HeadInv .any l.toArray k (Array.replicate l.toArray.size false) :=
    ⟨by simp, fun j oj _ hl => (by rw [getD_replicate_false] at hl; cases hl), fun t _ ht => getD_in (by simpa using ht) (getD_replicate_false _ _)⟩
  refine wp_region_any hm ?_
  have hleft : ∀ n, left (Array.replicate l.toArray.size false) n = n := by
    intro n
    induction n with
    | zero => rfl
    | succ n ih => unfold left; rw [ih, getD_replicate_false]; simp
  have H := wpAny_freeG (P := P) (Q := Q) (a0 := a) (w0 := w.drew) hG ok (l.drop k) (fun j => by simp [List.getElem?_drop]) (by simp)
    (fun i hi v w w' => by
      have ho : l.toArray[i]? = some (l[i]'(by omega)) := by simp [show i < l.length by omega]
      exact (h2 i _ (each i _ hi ho)).1 v w w')
    (fun i o hi ho vs w' hg hv => by
      have hin : ∀ j, j < i → ∀ d, dstAt l.toArray j = some d → d < a.tmps.size := fun j hj d hdj => by
        have hlj : j < l.length := by omega
        have hoj : (l.take k)[j]? = some (l[j]) := by rw [List.getElem?_take_of_lt (by omega)]; exact List.getElem?_eq_getElem hlj
        have h4 := List.all_eq_true.1 hd _ (List.mem_of_getElem? hoj)
        have h5 : l[j].dst = some d := by simpa [dstAt, hlj] using hdj
        rw [h5] at h4
        rw [hn]
        simpa using h4
      rw [opDoes_eq, rho_eq i hin]
      exact (h2 i o (each i o hi ho)).2 vs w' hg hv) h3 k _ (fun _ => undef) w.drew (hleft k) inv0 (hG.refl _) (fun i _ hl => (by rw [getD_replicate_false] at hl; cases hl))
  rw [putL_off _ _ (fun j _ => getD_replicate_false _ _), show k + (l.toArray.size - k) = l.toArray.size by simp; omega] at H
  exact H
end
section
variable {P : Program} {ops : Array Oper} {w0 : World} {a0 : Act} {E : Act → World → Prop} {o : Oper} {rest : List Oper} {i : Nat} {Vs : Nat → Value → World → Prop}
/-- An operation that yields one value in whatever world, and leaves the world. -/
theorem free_pureG {G : World → World → Prop} (hG : GRel G) {v : Value} (hg : o.guard = none)
    (h : ∀ (vs : Nat → Value) w, G w0 w → (∀ e ∈ o.after, Region.binds .any e = true → Vs e.on (vs e.on) w) → (execOp (rho ops vs a0 i) o).run P w = .ok (.value v) w)
    (hr : wpFreeG G P ops w0 a0 E rest (i + 1) (fun j => if j = i then (fun u _ => u = v) else Vs j)) : wpFreeG G P ops w0 a0 E (o :: rest) i Vs :=
  ⟨fun u _ => u = v, fun _ _ _ h _ => h, fun vs w hw hd => by
    unfold OpDoesR
    rw [if_pos (by simp [Region.wanted, hg])]
    unfold Does
    rw [h vs w hw hd]
    exact ⟨hG.refl _, rfl⟩, hr⟩
theorem free_opG {G : World → World → Prop} (V : Value → World → Prop) (hg : o.guard = none) (hm : ∀ v w w', V v w → G w w' → V v w')
    (h : ∀ (vs : Nat → Value) w, G w0 w → (∀ e ∈ o.after, Region.binds .any e = true → Vs e.on (vs e.on) w) → Does P o (rho ops vs a0 i) w (fun v w' => G w w' ∧ V v w'))
    (hr : wpFreeG G P ops w0 a0 E rest (i + 1) (fun j => if j = i then V else Vs j)) : wpFreeG G P ops w0 a0 E (o :: rest) i Vs :=
  ⟨V, hm, fun vs w hw hd => by
    unfold OpDoesR
    rw [if_pos (by simp [Region.wanted, hg])]
    exact h vs w hw hd, hr⟩
/-- A guarded one that is wanted. -/
theorem free_guardedG {G : World → World → Prop} (V : Value → World → Prop) (hm : ∀ v w w', V v w → G w w' → V v w')
    (h : ∀ (vs : Nat → Value) w, G w0 w → (∀ e ∈ o.after, Region.binds .any e = true → Vs e.on (vs e.on) w) → Region.wanted o (yieldR ops (rho ops vs a0 i)) = true ∧ Does P o (rho ops vs a0 i) w (fun v w' => G w w' ∧ V v w'))
    (hr : wpFreeG G P ops w0 a0 E rest (i + 1) (fun j => if j = i then V else Vs j)) : wpFreeG G P ops w0 a0 E (o :: rest) i Vs :=
  ⟨V, hm, fun vs w hw hd => by
    obtain ⟨h1, h2⟩ := h vs w hw hd
    unfold OpDoesR
    rw [if_pos h1]
    exact h2, hr⟩
/-- One that is passed over. -/
theorem free_passedG {G : World → World → Prop} (hG : GRel G)
    (h : ∀ (vs : Nat → Value) w, G w0 w → (∀ e ∈ o.after, Region.binds .any e = true → Vs e.on (vs e.on) w) → Region.wanted o (yieldR ops (rho ops vs a0 i)) = false)
    (hr : wpFreeG G P ops w0 a0 E rest (i + 1) (fun j => if j = i then (fun u _ => u = undef) else Vs j)) : wpFreeG G P ops w0 a0 E (o :: rest) i Vs :=
  ⟨fun u _ => u = undef, fun _ _ _ h _ => h, fun vs w hw hd => by
    unfold OpDoesR
    rw [h vs w hw hd, if_neg (by simp)]
    exact ⟨hG.refl _, rfl⟩, hr⟩
end

section
variable {P : Program} {F : Fence} {nn : Nat}
section
variable {ops : Array Oper} {k : Nat} {w0 : World} {a0 : Act} {Vs : Nat → Value → World → Prop} {Q : Exit → Act → World → Prop}
theorem wpAnyIn_freeG {G : World → World → Prop} (hG : GRel G) (hF : WideF F) (hnd : ∀ (i : Nat) o, ops[i]? = some o → ∀ c, o.op ≠ .defer c) (ok : FreeOk ops k) (l : List Oper) (hl : ∀ j, l[j]? = ops[k + j]?) (hll : l.length = ops.size - k)
    (hmono : ∀ i, i < k → ∀ v w w', Vs i v w → G w w' → Vs i v w')
    (hdo : ∀ (i : Nat) (o : Oper), i < k → ops[i]? = some o → ∀ (vs : Nat → Value) w, G w0 w → (∀ e ∈ o.after, Region.binds .any e = true → Vs e.on (vs e.on) w) →
      OpDoes P ops o (putL ops (fun _ => true) vs (List.range i) a0) w (fun v w' => G w w' ∧ Vs i v w'))
    (hend : ∀ vs w, G w0 w → (∀ j, j < k → Vs j (vs j) w) → wpListIn F nn P ops Q l (putL ops (fun _ => true) vs (List.range k) a0) w) :
    ∀ (f : Nat) (listed : Array Bool) (vs : Nat → Value) (w : World), left listed k = f → HeadInv .any ops k listed → G w0 w → (∀ i, i < k → listed.getD i false = true → Vs i (vs i) w) →
      wpAnyIn F nn P .any ops Q (f + (ops.size - k)) listed (putL ops (fun j => listed.getD j false) vs (List.range k) a0) w
  | 0, listed, vs, w, hf, inv, hg, hv => by
    have hall := left_zero hf
    have hL : listed = ((List.range ops.size).map fun i => decide (i < k)).toArray := by
      apply Array.ext
      · simp [inv.size]
      · intro i h1 h2
        simp only [List.getElem_toArray, List.getElem_map, List.getElem_range]
        by_cases hik : i < k
        · have := hall i hik
          simp [h1] at this
          simp [hik, this]
        · have := inv.tail i (by omega) (by rw [inv.size] at h1; exact h1)
          simp [h1] at this
          simp [hik, this]
    rw [putL_same (L' := fun _ => true) (vs' := vs) _ _ fun j hj => ⟨hall j (List.mem_range.1 hj), fun _ => rfl⟩, Nat.zero_add, ← hll]
    have hs := ok.seq
    rw [← hL, ← hll] at hs
    exact wpAnyIn_of_seq hF l k listed _ w hl hs (hend vs w hg fun j hj => hv j hj (hall j hj))
  | f + 1, listed, vs, w, hf, inv, hg, hv => by
    rw [show f + 1 + (ops.size - k) = (f + (ops.size - k)) + 1 by omega]
    obtain ⟨i0, hi0, hu0, hb0⟩ := left_some (listed := listed) (k := k) (by omega)
    have hle := ok.le
    refine ⟨fun h0 => ?_, fun i hi => ?_⟩
    · exfalso
      have hr : i0 ∈ Region.ready .any ops listed := by
        rw [mem_ready]
        have ho : ops[i0]? = some (ops[i0]'(by omega)) := Array.getElem?_eq_getElem (by omega)
        refine ⟨getD_in (by rw [inv.size]; omega) hu0, _, ho, fun e he hb => hb0 _ (ok.before i0 _ hi0 ho e he hb)⟩
      rw [h0] at hr
      cases hr
    · have hik : i < k := by
        rcases Nat.lt_or_ge i k with h | h
        · exact h
        · exfalso
          rcases ok.tail with ht | ⟨hs, hc⟩
          · obtain ⟨_, o, ho, _⟩ := mem_ready.1 hi
            have := (Array.getElem?_eq_some_iff.1 ho).1
            omega
          · obtain ⟨_, o, ho, _⟩ := mem_ready.1 hi
            have := (Array.getElem?_eq_some_iff.1 ho).1
            exact tail_waits hs hc (by omega) inv _ i0 rfl hi0 (getD_in (by rw [inv.size]; omega) hu0) i h hi
      obtain ⟨hun, oi, hoi, hall⟩ := mem_ready.1 hi
      have hun' : listed.getD i false = false := getD_both hun
      have hsz : i < listed.size := by rw [inv.size]; omega
      -- what it looks at is as it is in the text's order
      have hal : Alike (oi.looksAt ops) (putL ops (fun j => decide (j < i)) vs (List.range k) a0) (putL ops (fun j => listed.getD j false) vs (List.range k) a0) := by
        refine alike_putL _ _ _ ⟨rfl, fun _ _ => rfl⟩ fun j hj hne x hx => ?_
        have hjk := List.mem_range.1 hj
        cases hoj : ops[j]? with
        | none => simp [dstAt, hoj] at hx
        | some oj =>
          simp only [dstAt, hoj, Option.bind_some] at hx
          by_cases hji : j < i
          · have hlj : listed.getD j false = false := by simpa [hji] using hne
            rcases (ok.pair i j oi oj hik hji hoi hoj).1 with hw | hap
            · obtain ⟨o', ho', e, he, hbi, hon⟩ := Region.waitsFor_spec hw
              rw [hoi] at ho'
              cases ho'
              have := hall e he hbi
              rw [hon, hlj] at this
              cases this
            · exact (Oper.apart_spec hap).1 x hx
          · have hlj : listed.getD j false = true := by simpa [hji] using hne
            have hij : i < j := by
              rcases Nat.lt_trichotomy i j with h | h | h
              · exact h
              · subst h; rw [hun'] at hlj; cases hlj
              · exact absurd h hji
            rcases (ok.pair j i oj oi hjk hij hoj hoi).1 with hw | hap
            · obtain ⟨o', ho', e, he, hbi, hon⟩ := Region.waitsFor_spec hw
              rw [hoj] at ho'
              cases ho'
              have := inv.closed j oj hoj hlj e he hbi
              rw [hon, hun'] at this
              cases this
            · exact (Oper.apart_spec hap).2.2 x hx
      rw [putL_upto (Nat.le_of_lt hik)] at hal
      have hd := hdo i oi hik hoi vs w hg fun e he hb => hv _ (by have := ok.before i oi hik hoi e he hb; omega) (hall e he hb)
      have next : ∀ v w', G w w' ∧ Vs i v w' → wpAnyIn F nn P .any ops Q (f + (ops.size - k)) (listed.setIfInBounds i true) ((putL ops (fun j => listed.getD j false) vs (List.range k) a0).put oi.dst v) w' := by
        rintro v w' ⟨hg', hV⟩
        have hdst : dstAt ops i = oi.dst := by simp [dstAt, hoi]
        have hadd := putL_add (ops := ops) (L := fun j => listed.getD j false) (vs := vs) (i := i) (v := v) hun' (List.range k) a0 List.nodup_range (List.mem_range.2 hik) (fun j hj hne x hx hx' => by
          have hjk := List.mem_range.1 hj
          cases hoj : ops[j]? with
          | none => simp [dstAt, hoj] at hx'
          | some oj =>
            rw [hdst] at hx
            simp only [dstAt, hoj, Option.bind_some] at hx'
            rcases Nat.lt_or_gt_of_ne hne with h | h
            · exact (ok.pair i j oi oj hik h hoi hoj).2 x hx hx'
            · exact (ok.pair j i oj oi hjk h hoj hoi).2 x hx' hx)
        rw [hdst] at hadd
        rw [← hadd]
        have hsame : (fun j => (listed.setIfInBounds i true).getD j false) = (fun j => listed.getD j false || j == i) := by
          funext j
          by_cases hji : i = j
          · subst hji
            have : (listed.setIfInBounds i true).getD i false = true := by simp [hsz]
            rw [this]; simp
          · rw [getD_set_ne false hji]
            have : (j == i) = false := by simpa using fun e => hji e.symm
            simp [this]
        rw [← hsame]
        refine wpAnyIn_freeG hG hF hnd ok l hl hll hmono hdo hend f _ _ w' ?_ (inv.set hi hik) (hG.trans hg hg') fun j hj hlj => ?_
        · have := left_set hsz hun' hik
          omega
        · by_cases hji : j = i
          · subst hji; simpa using hV
          · simp only [hji, if_false]
            rw [getD_set_ne false (fun e => hji e.symm)] at hlj
            exact hmono j hj _ _ _ (hv j hj hlj) hg'
      unfold wpOpIn
      simp only [hoi]
      unfold OpDoes at hd
      rw [alike_wanted hal] at hd
      by_cases hw : Region.wanted oi (yielded ops (putL ops (fun j => listed.getD j false) vs (List.range k) a0).tmps) = true
      · rw [if_pos hw] at hd
        rw [if_pos hw]
        exact (hd.congr (alike_exec (ok.sel i oi · · hoi) hal)).wpIn hF (hnd i oi hoi) next
      · rw [if_neg hw] at hd
        rw [if_neg hw]
        exact ⟨fun f _ => hF.fn f, next _ _ hd⟩
end

/-- A region whose order is open: each of its first k operations by itself, what is behind in the text's order. -/
theorem wpIn_region_freeG {G : World → World → Prop} (hG : GRel G) {id : Nat} {Q : Exit → Act → World → Prop} {a : Act} {w : World} {l : List Oper} (hF : WideF F) (k n : Nat) (hm : P.follows .mixedOrders = true) (hnd : noDefer l = true) (hB : freeB l.toArray k = true) (hn : a.tmps.size = n) (hd : (l.take k).all (fun o => match o.dst with | some d => decide (d < n) | none => true) = true)
    (h : wpFreeG G P l.toArray w.drew a (fun a' w' => wpListIn F nn P l.toArray Q (l.drop k) a' w') (l.take k) 0 (fun _ _ _ => True)) : (Code.region id l.toArray true).wpIn F nn P Q a w := by
  have ok := freeOk hB
  have hle : k ≤ l.length := by simpa using ok.le
  have hlt : (l.take k).length = k := by simp; omega
  have hget : ∀ (j : Nat) (o : Oper), (l.take k)[j]? = some o → l.toArray[j]? = some o ∧ j < k := fun j o ho => by
    have hj := (List.getElem?_eq_some_iff.1 ho).1
    rw [hlt] at hj
    rw [List.getElem?_take_of_lt hj] at ho
    exact ⟨by simpa using ho, hj⟩
  obtain ⟨Vs, _, h2, h3⟩ := free_wordsG (P := P) (l.take k) 0 _ (fun j o ho e he hb => by
    obtain ⟨ho', hj⟩ := hget j o ho
    have := ok.before j o hj ho' e he hb
    omega) h
  simp only [Nat.zero_add, hlt] at h2 h3
  have each : ∀ (i : Nat) (o : Oper), i < k → l.toArray[i]? = some o → (l.take k)[i]? = some o := fun i o hi ho => by
    rw [List.getElem?_take_of_lt hi]; simpa using ho
  have inv0 : HeadInv .any l.toArray k (Array.replicate l.toArray.size false) :=
    ⟨by simp, fun j oj _ hl => (by rw [getD_replicate_false] at hl; cases hl), fun t _ ht => getD_in (by simpa using ht) (getD_replicate_false _ _)⟩
  refine wpIn_region_any hm ?_
  have hleft : ∀ n, left (Array.replicate l.toArray.size false) n = n := by
    intro n
    induction n with
    | zero => rfl
    | succ n ih => unfold left; rw [ih, getD_replicate_false]; simp
  have H := wpAnyIn_freeG (P := P) (F := F) (nn := nn) (Q := Q) (a0 := a) (w0 := w.drew) hG hF (noDefer_at hnd) ok (l.drop k) (fun j => by simp [List.getElem?_drop]) (by simp)
    (fun i hi v w w' => by
      have ho : l.toArray[i]? = some (l[i]'(by omega)) := by simp [show i < l.length by omega]
      exact (h2 i _ (each i _ hi ho)).1 v w w')
    (fun i o hi ho vs w' hg hv => by
      have hin : ∀ j, j < i → ∀ d, dstAt l.toArray j = some d → d < a.tmps.size := fun j hj d hdj => by
        have hlj : j < l.length := by omega
        have hoj : (l.take k)[j]? = some (l[j]) := by rw [List.getElem?_take_of_lt (by omega)]; exact List.getElem?_eq_getElem hlj
        have h4 := List.all_eq_true.1 hd _ (List.mem_of_getElem? hoj)
        have h5 : l[j].dst = some d := by simpa [dstAt, hlj] using hdj
        rw [h5] at h4
        rw [hn]
        simpa using h4
      rw [opDoes_eq, rho_eq i hin]
      exact (h2 i o (each i o hi ho)).2 vs w' hg hv) h3 k _ (fun _ => undef) w.drew (hleft k) inv0 (hG.refl _) (fun i _ hl => (by rw [getD_replicate_false] at hl; cases hl))
  rw [putL_off _ _ (fun j _ => getD_replicate_false _ _), show k + (l.toArray.size - k) = l.toArray.size by simp; omega] at H
  exact H
end
end Go.Proofs.YtjcommodiihcdaaDoor
