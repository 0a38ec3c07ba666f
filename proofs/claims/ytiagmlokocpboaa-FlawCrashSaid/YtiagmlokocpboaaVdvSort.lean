/- VdvSort -/
import Derived.Test.YtiagmlokocpboaaVdvFlush
import Derived.Sort.OwnSortedInts
/- Rows of numbers sorted and made thin by the library; rising rows of numbers. -/
namespace Go.Proofs.Ytiagmlokocpboaa
open Go.RowKit Go.Shelf
set_option linter.unusedVariables false
set_option linter.unusedSimpArgs false
namespace VdM
theorem asc_unique : ∀ (a b : List Int), a.Pairwise (· < ·) → b.Pairwise (· < ·) → (∀ x, x ∈ a ↔ x ∈ b) → a = b
  | [], [], _, _, _ => rfl
  | [], y :: b, _, _, h => absurd ((h y).2 (by simp)) (by simp)
  | x :: a, [], _, _, h => absurd ((h x).1 (by simp)) (by simp)
  | x :: a, y :: b, ha, hb, h => by
    rw [List.pairwise_cons] at ha hb
    have hxy : x = y := by
      rcases List.mem_cons.1 ((h x).1 (by simp)) with e | e
      · exact e
      · rcases List.mem_cons.1 ((h y).2 (by simp)) with e2 | e2
        · exact e2.symm
        · have h1 := hb.1 x e
          have h2 := ha.1 y e2
          omega
    subst hxy
    congr 1
    refine asc_unique a b ha.2 hb.2 fun z => ⟨fun hz => ?_, fun hz => ?_⟩
    · rcases List.mem_cons.1 ((h z).1 (List.mem_cons_of_mem _ hz)) with e | e
      · have := ha.1 z hz; omega
      · exact e
    · rcases List.mem_cons.1 ((h z).2 (List.mem_cons_of_mem _ hz)) with e | e
      · have := hb.1 z hz; omega
      · exact e
def ins (n : Int) : List Int → List Int
  | [] => [n]
  | x :: l => if x < n then x :: ins n l else if x = n then x :: l else n :: x :: l
theorem mem_ins (n z : Int) : ∀ l, z ∈ ins n l ↔ z = n ∨ z ∈ l
  | [] => by simp [ins]
  | x :: l => by
    unfold ins
    split
    · rw [List.mem_cons, mem_ins n z l, List.mem_cons]
      constructor
      · rintro (h | h | h)
        · exact .inr (.inl h)
        · exact .inl h
        · exact .inr (.inr h)
      · rintro (h | h | h)
        · exact .inr (.inl h)
        · exact .inl h
        · exact .inr (.inr h)
    · split
      · rename_i h; subst h
        simp only [List.mem_cons]
        constructor
        · exact fun h => .inr h
        · rintro (h | h)
          · exact .inl h
          · exact h
      · simp only [List.mem_cons]
theorem asc_ins (n : Int) : ∀ l : List Int, l.Pairwise (· < ·) → (ins n l).Pairwise (· < ·)
  | [], _ => by simp [ins]
  | x :: l, h => by
    rw [List.pairwise_cons] at h
    unfold ins
    split
    · rename_i hx
      rw [List.pairwise_cons]
      refine ⟨fun z hz => ?_, asc_ins n l h.2⟩
      rcases (mem_ins n z l).1 hz with e | e
      · omega
      · exact h.1 z e
    · split
      · exact List.pairwise_cons.2 h
      · rw [List.pairwise_cons]
        refine ⟨fun z hz => ?_, List.pairwise_cons.2 h⟩
        rcases List.mem_cons.1 hz with e | e
        · omega
        · have := h.1 z e; omega
/-- What waits. -/
def waits (c : List (Int × Pg)) : List Int := c.foldl (fun out x => ins x.1 out) []
theorem waits_props : ∀ (c : List (Int × Pg)) (out : List Int), out.Pairwise (· < ·) → (c.foldl (fun out x => ins x.1 out) out).Pairwise (· < ·) ∧ ∀ z, z ∈ c.foldl (fun out x => ins x.1 out) out ↔ z ∈ out ∨ z ∈ c.map (·.1)
  | [], out, h => ⟨h, by simp⟩
  | x :: c, out, h => by
    obtain ⟨h1, h2⟩ := waits_props c (ins x.1 out) (asc_ins _ _ h)
    refine ⟨h1, fun z => ?_⟩
    rw [List.foldl_cons, h2, mem_ins, List.map_cons, List.mem_cons]
    constructor
    · rintro ((h | h) | h)
      · exact .inr (.inl h)
      · exact .inl h
      · exact .inr (.inr h)
    · rintro (h | h | h)
      · exact .inl (.inr h)
      · exact .inl (.inl h)
      · exact .inr h
theorem waits_asc (c : List (Int × Pg)) : (waits c).Pairwise (· < ·) := (waits_props c [] .nil).1
theorem mem_waits (c : List (Int × Pg)) (z : Int) : z ∈ waits c ↔ z ∈ c.map (·.1) := by
  have := (waits_props c [] .nil).2 z
  simpa [waits] using this
theorem compactUpTo_props (d : Array Int) (hd : ∀ i j, i ≤ j → j < d.size → d[i]! ≤ d[j]!) : ∀ m, m ≤ d.size → (Lib.compactUpTo d m).Pairwise (· < ·) ∧ (∀ z ∈ Lib.compactUpTo d m, ∃ i, i < m ∧ d[i]! = z) ∧ (∀ i, i < m → d[i]! ∈ Lib.compactUpTo d m)
  | 0, _ => by simp [Lib.compactUpTo]
  | m + 1, hm => by
    obtain ⟨h1, h2, h3⟩ := compactUpTo_props d hd m (by omega)
    rw [Lib.compactUpTo_succ]
    by_cases hk : Lib.keeps d m = true
    · rw [if_pos hk]
      refine ⟨?_, fun z hz => ?_, fun i hi => ?_⟩
      · rw [List.pairwise_append]
        refine ⟨h1, by simp, fun a ha b hb => ?_⟩
        rw [List.mem_singleton.1 hb]
        obtain ⟨i, hi, rfl⟩ := h2 a ha
        unfold Lib.keeps at hk
        have h4 := hd i (m - 1) (by omega) (by omega)
        have h5 := hd (m - 1) m (by omega) (by omega)
        have h6 : d[m]! ≠ d[m - 1]! := by
          simp at hk
          rcases hk with hk | hk
          · omega
          · exact hk
        omega
      · rcases List.mem_append.1 hz with hz | hz
        · obtain ⟨i, hi, e⟩ := h2 z hz
          exact ⟨i, by omega, e⟩
        · exact ⟨m, by omega, (List.mem_singleton.1 hz).symm⟩
      · by_cases him : i = m
        · subst him; simp
        · exact List.mem_append_left _ (h3 i (by omega))
    · rw [if_neg hk, List.append_nil]
      refine ⟨h1, fun z hz => ?_, fun i hi => ?_⟩
      · obtain ⟨i, hi, e⟩ := h2 z hz
        exact ⟨i, by omega, e⟩
      · by_cases him : i = m
        · subst him
          unfold Lib.keeps at hk
          simp at hk
          have h4 := h3 (i - 1) (by omega)
          rw [hk.2]
          exact h4
        · exact h3 i (by omega)
theorem compact_sorted (l : List Int) (h : l.Pairwise (· ≤ ·)) : (Lib.compact l).Pairwise (· < ·) ∧ ∀ z, z ∈ Lib.compact l ↔ z ∈ l := by
  have hd : ∀ i j, i ≤ j → j < l.toArray.size → l.toArray[i]! ≤ l.toArray[j]! := fun i j hij hj => by
    have hj' : j < l.length := by simpa using hj
    rw [getElem!_pos _ _ (by simp; omega), getElem!_pos _ _ (by simpa using hj')]
    simp only [List.getElem_toArray]
    by_cases e : i = j
    · subst e; exact Int.le_refl _
    · exact List.pairwise_iff_getElem.1 h i j (by omega) hj' (by omega)
  obtain ⟨h1, h2, h3⟩ := compactUpTo_props l.toArray hd l.length (by simp)
  refine ⟨h1, fun z => ⟨fun hz => ?_, fun hz => ?_⟩⟩
  · obtain ⟨i, hi, rfl⟩ := h2 z hz
    rw [getElem!_pos _ _ (by simpa using hi)]
    simp
  · obtain ⟨i, hi, rfl⟩ := List.getElem_of_mem hz
    have := h3 i hi
    rw [getElem!_pos _ _ (by simpa using hi)] at this
    unfold Lib.compact
    simpa using this
theorem waits_of_sort (c : List (Int × Pg)) (l : List Int) (hl : ∀ z, z ∈ l ↔ z ∈ c.map (·.1)) : Lib.compact (l.mergeSort fun x y => decide (x ≤ y)) = waits c := by
  have hs : (l.mergeSort fun x y => decide (x ≤ y)).Pairwise (· ≤ ·) := by
    have := List.pairwise_mergeSort (le := fun (x y : Int) => decide (x ≤ y)) (fun a b c h1 h2 => by simp at *; omega) (fun a b => by simp; omega) l
    simpa using this
  obtain ⟨h1, h2⟩ := compact_sorted _ hs
  refine asc_unique _ _ h1 (waits_asc c) fun z => ?_
  rw [h2, List.mem_mergeSort, hl, mem_waits]
end VdM
theorem own_block_cells {α : Type} {e : TypeId} {s : Nat} {f : α → List Value} {base : Nat} {w : World} {v : Value} {l : List α} (h : Own' e s f base w v l) {j : Nat} {ob : Obj} (hj : v.ownBlock = some j) (ho : w.heap[j]? = some ob) : ob.isCells = true := by
  rcases h.2.2 with ⟨rfl, _⟩ | ⟨g, cap, cur, rfl, _, hh, _⟩
  · cases hj
  · simp only [Value.ownBlock, Option.some.injEq] at hj
    subst hj
    rw [hh] at ho
    cases ho
    rfl
theorem flat_ints (l : List Int) : l.flatMap intE = l.map (Value.int .i64) := by
  induction l with
  | nil => rfl
  | cons a l ih => rw [List.flatMap_cons, ih]; rfl
/-- slices.Sort of a row of one's own. -/
theorem sort_any {base : Nat} {w : World} {v : Value} {l : List Int} (h : Own' 3 1 intE base w v l) (hl : l.length ≤ 1000000) :
    Calls Try.prog 27 #[v] w fun e w' => e = .returned (.tuple #[]) ∧ Own' 3 1 intE base w' v (l.mergeSort fun x y => decide (x ≤ y)) ∧ w.grownBy w' v.ownBlock := by
  have hr : w.grownBy w v.ownBlock := ⟨rfl, rfl, rfl, Nat.le_refl _, fun _ _ _ => rfl⟩
  by_cases h0 : l.length = 0
  · obtain rfl : l = [] := List.length_eq_zero_iff.1 h0
    obtain ⟨A, cap, rfl, _⟩ := h.els.form
    refine (Try.slices_Sort_int_none A cap w).mono ?_
    rintro e w' ⟨rfl, rfl⟩
    exact ⟨rfl, by rw [List.mergeSort_nil]; exact h, hr⟩
  · obtain ⟨_, hll, h⟩ := h
    rcases h with ⟨rfl, h'⟩ | ⟨g, cap, cur, rfl, hb, hh, h1, h2, h3, h4⟩
    · exact absurd h' h0
    · rw [flat_ints, Nat.mul_one] at h4
      refine (Try.slices_Sort_int g 0 cap l w (holds_of_blockI hh h4) (Array.getElem?_eq_some_iff.1 hh).1 (by omega)).mono ?_
      rintro e w' ⟨rfl, n, os, rfl⟩
      have hlm : (l.mergeSort fun x y => decide (x ≤ y)).length = l.length := List.length_mergeSort _
      refine ⟨rfl, ⟨fun x _ => rfl, ?_⟩, grownBy_sortedI _⟩
      rw [flat_ints, hlm]
      exact ownsRow_sortedI hlm hb hh h1 h2 (by omega)
/-- slices.Compact of a row of one's own. -/
theorem compact_any {base : Nat} {w : World} {v : Value} {l : List Int} (h : Own' 3 1 intE base w v l) (hl : l.length ≤ 1000000) :
    Calls Try.prog 28 #[v] w fun e w' => ∃ r, e = .returned r ∧ Own' 3 1 intE base w' r (Lib.compact l) ∧ w.grownBy w' v.ownBlock := by
  have hr : w.grownBy w v.ownBlock := ⟨rfl, rfl, rfl, Nat.le_refl _, fun _ _ _ => rfl⟩
  by_cases h0 : l.length = 0
  · obtain rfl : l = [] := List.length_eq_zero_iff.1 h0
    have h' := h
    obtain ⟨A, cap, rfl, _⟩ := h.els.form
    refine (Try.slices_Compact_int_empty A cap w).mono ?_
    rintro e w' ⟨rfl, rfl⟩
    exact ⟨_, rfl, h', hr⟩
  · obtain ⟨_, hll, h⟩ := h
    rcases h with ⟨rfl, h'⟩ | ⟨g, cap, cur, rfl, hb, hh, h1, h2, h3, h4⟩
    · exact absurd h' h0
    · rw [flat_ints, Nat.mul_one] at h4
      refine (Try.slices_Compact_int g 0 cap l w (holds_of_blockI hh h4) (by omega) h1).mono ?_
      rintro e w' ⟨rfl, q, rfl⟩
      have hcl : (Lib.compact l).length ≤ l.length := by
        unfold Lib.compact Lib.compactUpTo
        rw [List.length_map]
        exact Nat.le_trans (List.length_filter_le _ _) (by simp)
      obtain ⟨ts, hts⟩ : ∃ ts, ts = Lib.compact l ++ List.replicate (l.length - (Lib.compact l).length) 0 := ⟨_, rfl⟩
      have htl : ts.length = l.length := by rw [hts, List.length_append, List.length_replicate]; omega
      rw [← hts]
      have hg := heap_sortedI (n := q) (os := #[]) ts.toArray hh
      have hgr := grownBy_sortedI (w := w) (g := g) (n := q) (os := #[]) ts.toArray
      rw [Go.Sort.grow_empty] at hg hgr
      refine ⟨_, rfl, ⟨fun x _ => rfl, ?_, .inr ⟨g, cap, _, rfl, hb, hg, by omega, h2, by simp [Go.Sort.putCells, h3], ?_⟩⟩, hgr⟩
      · rw [flat_ints]; simp
      · rw [flat_ints, Nat.mul_one]
        have h5 := take_putCellsI cur ts (by omega)
        rw [htl] at h5
        have h6 := congrArg (List.take (Lib.compact l).length) h5
        rw [List.take_take, Nat.min_eq_left hcl] at h6
        rw [h6, hts, List.map_append, List.take_left' (by simp)]
end Go.Proofs.Ytiagmlokocpboaa
