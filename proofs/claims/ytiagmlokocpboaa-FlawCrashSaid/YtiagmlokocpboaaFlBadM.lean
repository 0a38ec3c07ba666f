/- FlBadM -/
import Derived.Test.YtiagmlokocpboaaFlLawM
import Derived.Test.YtiagmlokocpboaaVdLawM
/- A disk that may be, all flushed, with a page spoiled, written and torn. -/
namespace Go.Proofs.Ytiagmlokocpboaa
open Go.RowKit
set_option linter.unusedVariables false
set_option linter.unusedSimpArgs false
set_option linter.unusedSectionVars false
theorem OwnDisk.bads {base : Nat} {w : World} {a b c e : Value} {d : Dk} (h : OwnDisk base w (.agg #[a, b, c, e]) d) : Own' 3 1 intE base w c d.bad := by
  obtain ⟨pv, cv, bv, h0, h1, h2, h3⟩ := h
  simp only [Value.agg.injEq, Array.mk.injEq, List.cons.injEq] at h0
  rw [h0.2.2.1]
  exact h3
theorem OwnDisk.sheets {base : Nat} {w : World} {a b c e : Value} {d : Dk} (h : OwnDisk base w (.agg #[a, b, c, e]) d) : Own' 40 256 pageE base w a d.pages := by
  obtain ⟨pv, cv, bv, h0, h1, h2, h3⟩ := h
  simp only [Value.agg.injEq, Array.mk.injEq, List.cons.injEq] at h0
  rw [h0.1]
  exact h1
theorem Own'.int_cell {base g cap : Nat} {w : World} {l : List Int} {n : Nat} (h : Own' 3 1 intE base w (.slice (some ⟨g, 0, none⟩) n cap) l) (k : Nat) (x : Int) (hk : l[k]? = some x) : w.cell? ⟨g, k, none⟩ = some (.int .i64 x) := by
  obtain ⟨A, cap', e, _, _, hr⟩ := h.els.ints
  have hkl := (List.getElem?_eq_some_iff.1 hk).1
  obtain ⟨g', o', e2, _, hx⟩ := hr (by omega)
  injection e with e3 _ _
  rw [← e3] at e2
  injection e2 with e2
  injection e2 with e4 e5 _
  subst e4 e5
  have := hx k x hk
  rwa [Nat.zero_add] at this
theorem Own'.page_at {base g cap : Nat} {w : World} {l : List Pg} {n : Nat} (h : Own' 40 256 pageE base w (.slice (some ⟨g, 0, none⟩) n cap) l) (k : Nat) (p : Pg) (hk : l[k]? = some p) : w.rangeAt g (k * 256) (pageE p) := by
  obtain ⟨A, cap', e, _, _, hr⟩ := h.els.form
  have hkl := (List.getElem?_eq_some_iff.1 hk).1
  obtain ⟨g', o', e2, _, hx⟩ := hr (by omega)
  injection e with e3 _ _
  rw [← e3] at e2
  injection e2 with e2
  injection e2 with e4 e5 _
  subst e4 e5
  have := hx k p hk
  rwa [Nat.zero_add] at this
theorem IsDisk.page_at {B g n cap : Nat} {W : World} {c e f : Value} {d : Dk} (h : IsDisk B W (.agg #[.slice (some ⟨g, 0, none⟩) n cap, c, e, f]) d) (k : Nat) (p : Pg) (hk : d.pages[k]? = some p) : W.rangeAt g (k * 256) (pageE p) := by
  obtain ⟨pv, cv, bv, h0, h1, h2, h3⟩ := h
  simp only [Value.agg.injEq, Array.mk.injEq, List.cons.injEq] at h0
  rw [← h0.1] at h1
  obtain ⟨A, cap', e, _, _, hr⟩ := h1.form
  have hkl := (List.getElem?_eq_some_iff.1 hk).1
  obtain ⟨g', o', e2, _, hx⟩ := hr (by omega)
  injection e with e3 _ _
  rw [← e3] at e2
  injection e2 with e2
  injection e2 with e4 e5 _
  subst e4 e5
  have := hx k p hk
  rwa [Nat.zero_add] at this
namespace FlM
theorem asc_len (n : Nat) : ∀ (l : List Int) (a : Nat), l.Pairwise (· < ·) → (∀ x ∈ l, (a : Int) ≤ x ∧ x < n) → a + l.length ≤ n ∨ l = []
  | [], _, _, _ => .inr rfl
  | x :: l, a, h, hx => by
    left
    obtain ⟨h1, h2⟩ := List.pairwise_cons.1 h
    have hx0 := hx x (List.mem_cons_self ..)
    rcases asc_len n l (a + 1) h2 (fun y hy => by
      have := h1 y hy
      have := hx y (List.mem_cons_of_mem _ hy)
      omega) with h3 | h3
    · simp only [List.length_cons]; omega
    · subst h3
      simp
      omega
theorem bad_len {d : Dk} (h : VdM.may d = true) : d.bad.length ≤ 256 := by
  obtain ⟨a1, a2, a3, a4, a5, a6⟩ := VdM.may_parts h
  obtain ⟨b1, b2⟩ := (VdM.mayB_iff _ _).1 a6
  rcases asc_len d.pages.length d.bad 0 b1 b2 with h1 | h1
  · omega
  · rw [h1]; simp
def badS (d : Dk) (k : Nat) : Dk := { d with bad := VdM.ins k d.bad }
def badC (d : Dk) (k : Nat) (p : Pg) (x : BitVec 8) : Dk := crashD (VdM.push (badS d k) k p) [x]
theorem ins_in : ∀ (l : List Int) (n : Int), l.Pairwise (· < ·) → n ∈ l → VdM.ins n l = l := fun l n h hn =>
  VdM.asc_unique _ _ (VdM.asc_ins n l h) h fun x => by
    rw [VdM.mem_ins]
    constructor
    · rintro (rfl | h2)
      · exact hn
      · exact h2
    · exact .inr
section
variable {d : Dk} {k : Nat} (h : VdM.may d = true) (ho : d.off = false) (hc : d.cache = []) (hk : k < d.pages.length)
theorem onDk_ok (hk : k < d.pages.length) : onDk d k = true := by unfold onDk; simp; omega
theorem badS_E (hk : k < d.pages.length) : spoilE d k = 0 ∧ spoilD d k = badS d k := by
  unfold spoilE spoilD
  rw [if_pos (onDk_ok hk), if_pos (onDk_ok hk)]
  exact ⟨rfl, rfl⟩
include h hk
theorem badS_asc : (badS d k).bad.Pairwise (· < ·) := VdM.asc_ins _ _ ((VdM.mayB_iff _ _).1 (VdM.may_parts h).2.2.2.2.2).1
theorem badS_twice : spoilE (badS d k) k = 0 ∧ spoilD (badS d k) k = badS d k := by
  have h1 := badS_E (d := badS d k) (k := k) hk
  refine ⟨h1.1, h1.2.trans ?_⟩
  have e : VdM.ins (k : Int) (badS d k).bad = (badS d k).bad := ins_in _ _ (badS_asc h hk) ((VdM.mem_ins _ _ _).2 (.inl rfl))
  show (⟨d.pages, d.cache, VdM.ins k (badS d k).bad, d.off⟩ : Dk) = _
  rw [e]
  rfl
theorem badS_may : VdM.may (badS d k) = true := by
  obtain ⟨a1, a2, a3, a4, a5, a6⟩ := VdM.may_parts h
  refine VdM.may_of a1 a2 a3 a4 a5 ((VdM.mayB_iff _ _).2 ⟨badS_asc h hk, fun x hx => ?_⟩)
  rcases (VdM.mem_ins _ _ _).1 hx with rfl | h2
  · show (0 : Int) ≤ k ∧ (k : Int) < d.pages.length
    omega
  · exact ((VdM.mayB_iff _ _).1 a6).2 x h2
include ho hc
theorem badS_read : VdM.readE (badS d k) k = 31 := by
  unfold VdM.readE
  rw [if_pos (VdM.atE_ok (badS_may h hk) (by exact ho) (by omega) (by show (k : Int) < d.pages.length; omega))]
  have e : (badS d k).cache = [] := hc
  rw [e, VdM.lastW_none [] _ rfl]
  have : (badS d k).bad.contains (k : Int) = true := by
    rw [List.contains_eq_mem, decide_eq_true_iff]
    exact (VdM.mem_ins _ _ _).2 (.inl rfl)
  simp only
  rw [if_pos this]
theorem badS_write (p : Pg) : VdM.writeErr (badS d k) k = 0 ∧ VdM.writeD (badS d k) k p = VdM.push (badS d k) k p := by
  have e : (badS d k).cache.length < 2000 := by show d.cache.length < 2000; rw [hc]; decide
  have hn : (k : Int) < (badS d k).pages.length := by show (k : Int) < d.pages.length; omega
  exact ⟨VdM.writeE_ok (badS_may h hk) ho e (by omega) hn, VdM.writeD_ok p (badS_may h hk) ho e (by omega) hn⟩
theorem badC_parts (p : Pg) (x : BitVec 8) : (badC d k p x).pages.length = d.pages.length ∧ (badC d k p x).cache = [] ∧ (badC d k p x).off = false ∧ ∀ b : Int, b ∈ (badC d k p x).bad ↔ b ∈ (badS d k).bad ∧ ¬ (x.toNat % 3 ≠ 0 ∧ b = k) := by
  unfold badC crashD
  refine ⟨crP_length _ _ _ _, rfl, ho, fun b => ?_⟩
  have e : (VdM.push (badS d k) k p).cache = [((k : Int), p)] := by
    show d.cache ++ [((k : Int), p)] = _
    rw [hc]; rfl
  show b ∈ crB [x] (VdM.push (badS d k) k p).cache d.pages.length (badS d k).bad (List.finRange (VdM.push (badS d k) k p).cache.length) ↔ _
  rw [e]
  unfold crB
  rw [List.mem_filter]
  apply and_congr_right
  intro _
  have : hit [x] [((k : Int), p)] d.pages.length (List.finRange [((k : Int), p)].length) b = (lands d.pages.length (x.toNat % 3) k && ((k : Int) == b)) := by
    unfold hit
    show (lands _ (fate [x] 0) (k : Int) && ((k : Int) == b) || false) = _
    rw [Bool.or_false]
    rfl
  rw [this, Bool.not_eq_true', Bool.and_eq_false_iff, ← Bool.not_eq_true, lands_iff]
  simp only [beq_eq_false_iff_ne]
  constructor
  · rintro (h1 | h1) ⟨h2, rfl⟩
    · exact h1 ⟨h2, by omega, by omega⟩
    · exact h1 rfl
  · intro h1
    by_cases h2 : (k : Int) = b
    · left
      rintro ⟨h3, _⟩
      exact h1 ⟨h3, h2.symm⟩
    · exact .inr h2
theorem badC_may (p : Pg) (x : BitVec 8) : VdM.may (badC d k p x) = true := by
  obtain ⟨a1, a2, a3, a4, a5, a6⟩ := VdM.may_parts h
  obtain ⟨b1, b2, b3, b4⟩ := badC_parts h ho hc hk p x
  have c := (VdM.mayB_iff _ _).1 (VdM.may_parts (badS_may h hk)).2.2.2.2.2
  refine VdM.may_of (by omega) (by omega) (by rw [b2]; simp) (fun e => by rw [b2]; rfl) (by rw [b2]; rfl) ((VdM.mayB_iff _ _).2 ⟨?_, fun y hy => ?_⟩)
  · exact List.Pairwise.filter _ c.1
  · rw [b1]
    exact c.2 y ((b4 y).1 hy).1
theorem badC_read (p : Pg) (x : BitVec 8) : VdM.readE (badC d k p x) k = if x.toNat % 3 = 0 then 31 else 0 := by
  obtain ⟨b1, b2, b3, b4⟩ := badC_parts h ho hc hk p x
  unfold VdM.readE
  rw [if_pos (VdM.atE_ok (badC_may h ho hc hk p x) b3 (by omega) (by omega)), b2, VdM.lastW_none [] _ rfl]
  simp only
  have hm := b4 k
  by_cases hx : x.toNat % 3 = 0
  · rw [if_pos hx, if_pos]
    rw [List.contains_eq_mem, decide_eq_true_iff]
    exact hm.2 ⟨(VdM.mem_ins _ _ _).2 (.inl rfl), fun e => e.1 hx⟩
  · rw [if_neg hx, if_neg]
    rw [List.contains_eq_mem, decide_eq_true_iff]
    exact fun e => (hm.1 e).2 ⟨hx, rfl⟩
end
end FlM
end Go.Proofs.Ytiagmlokocpboaa
