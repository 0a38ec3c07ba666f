/- VdLawM -/
import Derived.Test.YtiagmlokocpboaaVdvSort
/- What the statements of layer 3 lean on, as numbers. No function of the program. -/
namespace Go.Proofs.Ytiagmlokocpboaa
set_option linter.unusedVariables false
set_option linter.unusedSimpArgs false
namespace VdM
theorem mayB_iff (n : Nat) (l : List Int) : mayB n l = true ↔ l.Pairwise (· < ·) ∧ ∀ x ∈ l, 0 ≤ x ∧ x < n := by
  have key : mayB n l = true ↔ ∀ (i : Nat) (h : i < l.length), (0 ≤ l[i] ∧ l[i] < n) ∧ (i = 0 ∨ l[i - 1]?.getD 0 < l[i]) := by
    unfold mayB
    rw [List.all_eq_true]
    constructor
    · intro h i hi
      have := h i (List.mem_range.2 hi)
      unfold okB at this
      rw [List.getElem?_eq_getElem hi] at this
      simpa using this
    · intro h i hi
      have hi := List.mem_range.1 hi
      have := h i hi
      unfold okB
      rw [List.getElem?_eq_getElem hi]
      simpa using this
  rw [key]
  constructor
  · intro h
    have step : ∀ (i : Nat) (hi : i + 1 < l.length), l[i] < l[i + 1] := fun i hi => by
      rcases (h (i + 1) hi).2 with h1 | h1
      · omega
      · rw [Nat.add_sub_cancel, List.getElem?_eq_getElem (by omega)] at h1
        exact h1
    refine ⟨?_, fun x hx => ?_⟩
    · rw [List.pairwise_iff_getElem]
      intro i j hi hj hij
      obtain ⟨k, rfl⟩ : ∃ k, j = i + 1 + k := ⟨j - (i + 1), by omega⟩
      clear hij
      induction k with
      | zero => exact step i hj
      | succ k ih =>
        have h1 := ih (by omega)
        have h2 := step (i + 1 + k) hj
        exact Int.lt_trans h1 h2
    · obtain ⟨i, hi, rfl⟩ := List.getElem_of_mem hx
      exact (h i hi).1
  · rintro ⟨h1, h2⟩ i hi
    refine ⟨h2 _ (List.getElem_mem hi), ?_⟩
    by_cases h0 : i = 0
    · exact .inl h0
    · right
      rw [List.getElem?_eq_getElem (by omega)]
      exact List.pairwise_iff_getElem.1 h1 (i - 1) i (by omega) hi (by omega)
theorem may_parts {d : Dk} (h : may d = true) : 32 ≤ d.pages.length ∧ d.pages.length ≤ 256 ∧ d.cache.length ≤ 2000 ∧ (d.off = true → d.cache.length = 0) ∧ mayC d.pages.length d.cache = true ∧ mayB d.pages.length d.bad = true := by
  unfold may shape at h
  rw [Bool.and_eq_true, Bool.and_eq_true] at h
  obtain ⟨⟨h1, h2⟩, h3⟩ := h
  simp only [Bool.and_eq_true, decide_eq_true_eq, Bool.not_eq_true', Bool.and_eq_false_iff, decide_eq_false_iff_not] at h1
  exact ⟨h1.1.1.1, h1.1.1.2, h1.1.2, fun ho => by rcases h1.2 with e | e; (rw [ho] at e; cases e); omega, h2, h3⟩
theorem may_of {d : Dk} (h1 : 32 ≤ d.pages.length) (h2 : d.pages.length ≤ 256) (h3 : d.cache.length ≤ 2000) (h4 : d.off = true → d.cache.length = 0) (h5 : mayC d.pages.length d.cache = true) (h6 : mayB d.pages.length d.bad = true) : may d = true := by
  unfold may shape
  rw [h5, h6, Bool.and_true, Bool.and_true]
  simp only [Bool.and_eq_true, decide_eq_true_eq, Bool.not_eq_true', Bool.and_eq_false_iff, decide_eq_false_iff_not]
  refine ⟨⟨⟨h1, h2⟩, h3⟩, ?_⟩
  cases ho : d.off with
  | false => exact .inl rfl
  | true => exact .inr (by have := h4 ho; omega)
def push (d : Dk) (n : Int) (p : Pg) : Dk := { d with cache := d.cache ++ [(n, p)] }
theorem may_push {d : Dk} {n : Int} (p : Pg) (h : may d = true) (ho : d.off = false) (hl : d.cache.length < 2000) (h0 : 0 ≤ n) (hn : n < d.pages.length) : may (push d n p) = true := by
  obtain ⟨a1, a2, a3, a4, a5, a6⟩ := may_parts h
  refine may_of a1 a2 ?_ (fun e => ?_) ?_ a6
  · simp [push]; omega
  · simp [push, ho] at e
  · show mayC d.pages.length (d.cache ++ [(n, p)]) = true
    unfold mayC at a5 ⊢
    rw [List.all_append, a5]
    simp [h0, hn]
theorem atE_ok {d : Dk} {n : Int} (h : may d = true) (ho : d.off = false) (h0 : 0 ≤ n) (hn : n < d.pages.length) : atE d n = 0 := by
  unfold atE
  rw [if_pos ⟨h, h0, hn⟩, ho]; rfl
theorem lastW_push (c : List (Int × Pg)) (a : Int) (p : Pg) (n : Int) : lastW (c ++ [(a, p)]) n = if a = n then some p else lastW c n := by
  unfold lastW
  rw [List.reverse_append]
  simp only [List.reverse_cons, List.reverse_nil, List.nil_append, List.singleton_append, List.find?_cons]
  by_cases h : a = n
  · simp [h]
  · have : (a == n) = false := by rw [beq_eq_false_iff_ne]; exact h
    simp [this, h]
theorem writeE_ok {d : Dk} {n : Int} (h : may d = true) (ho : d.off = false) (hl : d.cache.length < 2000) (h0 : 0 ≤ n) (hn : n < d.pages.length) : writeErr d n = 0 := by
  unfold writeErr
  rw [if_neg (by omega), atE_ok h ho h0 hn]
theorem writeD_ok {d : Dk} {n : Int} (p : Pg) (h : may d = true) (ho : d.off = false) (hl : d.cache.length < 2000) (h0 : 0 ≤ n) (hn : n < d.pages.length) : writeD d n p = push d n p := by
  unfold writeD
  rw [if_pos (writeE_ok h ho hl h0 hn)]; rfl
theorem read_same {d : Dk} {a : Int} (p : Pg) (h : may d = true) (ho : d.off = false) (hl : d.cache.length < 2000) (h0 : 0 ≤ a) (hn : a < d.pages.length) : readP (push d a p) a = p ∧ readE (push d a p) a = 0 := by
  have hm := may_push p h ho hl h0 hn
  have ha : atE (push d a p) a = 0 := atE_ok hm ho h0 hn
  have hw : lastW (push d a p).cache a = some p := by unfold push; rw [lastW_push, if_pos rfl]
  unfold readP readE
  rw [if_pos ha, if_pos ha, hw]
  exact ⟨rfl, rfl⟩
theorem read_other {d : Dk} {a b : Int} (p : Pg) (h : may d = true) (ho : d.off = false) (hl : d.cache.length < 2000) (h0 : 0 ≤ a) (hn : a < d.pages.length) (hb : 0 ≤ b) (hbn : b < d.pages.length) (hab : b ≠ a) : readP (push d a p) b = readP d b ∧ readE (push d a p) b = readE d b := by
  have hm := may_push p h ho hl h0 hn
  have ha : atE (push d a p) b = 0 := atE_ok hm ho hb hbn
  have ha2 : atE d b = 0 := atE_ok h ho hb hbn
  have hw : lastW (push d a p).cache b = lastW d.cache b := by unfold push; rw [lastW_push, if_neg (fun e => hab e.symm)]
  unfold readP readE
  rw [if_pos ha, if_pos ha, if_pos ha2, if_pos ha2, hw]
  exact ⟨rfl, rfl⟩
theorem flushD_ok {d : Dk} (h : may d = true) (ho : d.off = false) : atE d 0 = 0 ∧ flushD d = ⟨flushP d, [], flushB d, false⟩ := by
  have := may_parts h
  have ha : atE d 0 = 0 := atE_ok h ho (by omega) (by omega)
  exact ⟨ha, by unfold flushD; rw [if_pos ha]⟩
theorem flushP_length (d : Dk) : (flushP d).length = d.pages.length := by simp [flushP]
theorem may_flush {d : Dk} (h : may d = true) : may ⟨flushP d, [], flushB d, false⟩ = true := by
  obtain ⟨a1, a2, a3, a4, a5, a6⟩ := may_parts h
  refine may_of (by simpa [flushP_length] using a1) (by simpa [flushP_length] using a2) (by simp) (fun e => by cases e) (by simp [mayC]) ?_
  show mayB (flushP d).length (flushB d) = true
  rw [flushP_length, mayB_iff]
  obtain ⟨b1, b2⟩ := (mayB_iff _ _).1 a6
  exact ⟨b1.filter _, fun x hx => b2 x (List.mem_filter.1 hx).1⟩
theorem read_flush {d : Dk} {n : Int} (h : may d = true) (ho : d.off = false) (h0 : 0 ≤ n) (hn : n < d.pages.length) : readP ⟨flushP d, [], flushB d, false⟩ n = readP d n ∧ readE ⟨flushP d, [], flushB d, false⟩ n = readE d n := by
  have ha : atE ⟨flushP d, [], flushB d, false⟩ n = 0 := atE_ok (may_flush h) rfl h0 (by simpa [flushP_length] using hn)
  have ha2 : atE d n = 0 := atE_ok h ho h0 hn
  have hw : lastW ([] : List (Int × Pg)) n = none := rfl
  obtain ⟨k, rfl⟩ : ∃ k : Nat, n = k := ⟨n.toNat, by omega⟩
  have hk : k < d.pages.length := by omega
  have hc : (flushB d).contains (k : Int) = (d.bad.contains (k : Int) && (lastW d.cache k).isNone) := by
    rw [Bool.eq_iff_iff, Bool.and_eq_true, List.contains_iff_mem, List.contains_iff_mem]
    unfold flushB
    rw [List.mem_filter]
  unfold readP readE
  rw [if_pos ha, if_pos ha, if_pos ha2, if_pos ha2]
  simp only [hw, hc, Int.toNat_natCast]
  have hp : (flushP d)[k]? = some ((lastW d.cache k).getD (d.pages[k]'hk)) := by
    unfold flushP
    rw [List.getElem?_mapIdx, List.getElem?_eq_getElem hk]; rfl
  rw [hp, List.getElem?_eq_getElem hk]
  cases hl : lastW d.cache (k : Int) with
  | none => simp
  | some p => simp
theorem readP_len {d : Dk} (h1 : ∀ x ∈ d.pages, (pageE x).length = 256) (h2 : ∀ x ∈ d.cache, (writeE x).length = 257) (n : Int) : (readP d n).length = 256 := by
  unfold readP
  split
  · split
    · rename_i p hp
      unfold lastW at hp
      obtain ⟨x, hx, rfl⟩ := Option.map_eq_some_iff.1 hp
      have := h2 x (List.mem_reverse.1 (List.mem_of_find?_eq_some hx))
      rw [writeE_len] at this
      exact Nat.succ.inj this
    · split
      · exact blank_len
      · cases hq : d.pages[n.toNat]? with
        | none => exact blank_len
        | some p =>
          have := h1 p (List.mem_of_getElem? hq)
          rw [pageE_len] at this
          exact this
  · exact blank_len
theorem great_parts {d : Dk} (h : great d = false) : d.pages.length ≤ 300 ∧ d.cache.length ≤ 60 ∧ d.bad.length ≤ 300 := by
  unfold great at h
  simp only [Bool.or_eq_false_iff, decide_eq_false_iff_not] at h
  omega
end VdM
end Go.Proofs.Ytiagmlokocpboaa
