/- FlCrM -/
import Derived.Test.YtiagmlokocpboaaFlBadM
import Derived.Test.YtiagmlokocpboaaVdFlush
import Derived.Test.YtiagmlokocpboaaBools
/- What a crash leaves, by numbers; rows of bytes that are made and filled. -/
namespace Go.Proofs.Ytiagmlokocpboaa
open Go.RowKit Go.Deep
set_option linter.unusedVariables false
set_option linter.unusedSimpArgs false
set_option linter.unusedSectionVars false
namespace FlM
theorem fate_nil (i : Nat) : fate [] i = 0 := rfl
theorem lands_zero (n : Nat) (a : Int) : lands n 0 a = false := by unfold lands; rfl
theorem stepP_zero (x : Int × Pg) (ps : List Pg) : stepP 0 x ps = ps := by unfold stepP; rw [lands_zero]; rfl
theorem crP_none (cs : List (Int × Pg)) (ps : List Pg) (pre : List (Fin cs.length)) : crP [] cs ps pre = ps := by
  unfold crP
  induction pre with
  | nil => rfl
  | cons y pre ih => rw [List.foldl_cons, fate_nil, stepP_zero]; exact ih
theorem crB_none (cs : List (Int × Pg)) (n : Nat) (bs : List Int) (pre : List (Fin cs.length)) : crB [] cs n bs pre = bs := by
  unfold crB
  rw [List.filter_eq_self]
  intro b _
  have : hit [] cs n pre b = false := by
    unfold hit
    rw [List.any_eq_false]
    intro y _
    rw [fate_nil, lands_zero]
    simp
  rw [this]; rfl
theorem crash_none (d : Dk) : crashD d [] = ⟨d.pages, [], d.bad, d.off⟩ := by
  unfold crashD
  rw [crP_none, crB_none]
/-- Which pages were written by the first k writes. -/
def wrL (n : Nat) (cs : List (Int × Pg)) (k : Nat) : List Bool := (List.range n).map fun (i : Nat) => (cs.take k).any fun x => x.1 == (i : Int)
theorem wrL_length (n : Nat) (cs : List (Int × Pg)) (k : Nat) : (wrL n cs k).length = n := by simp [wrL]
theorem wrL_get (n : Nat) (cs : List (Int × Pg)) (k i : Nat) (h : i < n) : (wrL n cs k)[i]? = some ((cs.take k).any fun x => x.1 == (i : Int)) := by simp [wrL, h]
theorem wrL_zero (n : Nat) (cs : List (Int × Pg)) : wrL n cs 0 = List.replicate n false := by
  apply List.ext_getElem
  · simp [wrL]
  · intro i h1 h2
    simp [wrL]
theorem wrL_on (n : Nat) (cs : List (Int × Pg)) (k j : Nat) (x : Int × Pg) (h : cs[k]? = some x) (hj : x.1 = j) : wrL n cs (k + 1) = (wrL n cs k).set j true := by
  apply List.ext_getElem?
  intro i
  rw [List.getElem?_set, wrL_length]
  by_cases hi : i < n
  · rw [wrL_get _ _ _ _ hi, wrL_get _ _ _ _ hi, List.take_add_one, h, List.any_append]
    by_cases h2 : j = i
    · subst h2
      simp [hi, hj]
    · rw [if_neg h2]
      have : (x.1 == (i : Int)) = false := by rw [beq_eq_false_iff_ne, hj]; omega
      simp [this]
  · rw [List.getElem?_eq_none (by rw [wrL_length]; omega)]
    split
    · rw [if_neg (by omega)]
    · rw [List.getElem?_eq_none (by rw [wrL_length]; omega)]
theorem wrL_off (n : Nat) (cs : List (Int × Pg)) (k : Nat) (x : Int × Pg) (h : cs[k]? = some x) (hx : ¬ (0 ≤ x.1 ∧ x.1 < n)) : wrL n cs (k + 1) = wrL n cs k := by
  unfold wrL
  apply List.map_congr_left
  intro i hi
  have hi := List.mem_range.1 hi
  rw [List.take_add_one, h, List.any_append]
  have : (x.1 == (i : Int)) = false := by rw [beq_eq_false_iff_ne]; omega
  simp [this]
/-- A page that no write names stays. -/
theorem crash_kept (picks : List (BitVec 8)) (cs : List (Int × Pg)) (ps : List Pg) (i : Nat) (h : (cs.any fun x => x.1 == (i : Int)) = false) : (crP picks cs ps (List.finRange cs.length))[i]? = ps[i]? := by
  have key : ∀ (pre : List (Fin cs.length)) (ps : List Pg), (crP picks cs ps pre)[i]? = ps[i]? := by
    intro pre
    unfold crP
    induction pre with
    | nil => intro ps; rfl
    | cons y pre ih =>
      intro ps
      rw [List.foldl_cons, ih]
      unfold stepP
      split
      · rename_i hl
        obtain ⟨_, h0, hn⟩ := lands_iff.1 hl
        have hy := List.any_eq_false.1 h cs[y.val] (List.getElem_mem _)
        rw [List.getElem?_set_ne]
        intro e
        apply hy
        rw [beq_iff_eq]
        omega
      · rfl
  exact key _ ps
theorem fate_ones (n i : Nat) (h : i < n) : fate (List.replicate n 1#8) i = 1 := by
  rw [fate_some (b := 1#8) (by simp [h])]
  rfl
/-- With picks of 1 all is as flushed. -/
theorem crash_ones {d : Dk} (h : VdM.may d = true) (ho : d.off = false) : crashD d (List.replicate d.cache.length 1#8) = VdM.flushD d := by
  obtain ⟨a1, a2, a3, a4, a5, a6⟩ := VdM.may_parts h
  have hin : ∀ x ∈ d.cache, 0 ≤ x.1 ∧ x.1 < d.pages.length := fun x hx => by
    have := List.all_eq_true.1 a5 x hx
    simpa using this
  rw [(VdM.flushD_ok h ho).2, ← VdM.fwP_all d (fun x hx => (hin x hx).1), ← VdM.fwB_all d]
  unfold crashD
  have key : ∀ k, k ≤ d.cache.length → crP (List.replicate d.cache.length 1#8) d.cache d.pages ((List.finRange d.cache.length).take k) = VdM.fwP d.pages d.cache k ∧ crB (List.replicate d.cache.length 1#8) d.cache d.pages.length d.bad ((List.finRange d.cache.length).take k) = VdM.fwB d.bad d.cache k := by
    intro k
    induction k with
    | zero =>
      intro _
      rw [List.take_zero, crP_nil, crB_nil]
      exact ⟨rfl, rfl⟩
    | succ k ih =>
      intro hk
      obtain ⟨i1, i2⟩ := ih (by omega)
      have hk' : k < d.cache.length := by omega
      have hx := hin d.cache[k] (List.getElem_mem _)
      have hl : lands d.pages.length 1 (d.cache[k]).1 = true := lands_iff.2 ⟨by decide, hx.1, hx.2⟩
      rw [fins_step k hk', VdM.fwP_succ _ _ _ _ (List.getElem?_eq_getElem hk'), VdM.fwB_succ _ _ _ _ (List.getElem?_eq_getElem hk'), crP_snoc, crB_new _ _ _ _ _ _ (by rw [fate_ones _ _ hk']; exact hl), i1, i2]
      refine ⟨?_, rfl⟩
      rw [fate_ones _ _ hk']
      unfold stepP
      rw [VdM.fwP_length _ _ _ (by omega), if_pos hl]
      rfl
  have hw := key d.cache.length (Nat.le_refl _)
  rw [fins_whole] at hw
  rw [hw.1, hw.2, ho]
def onesL (n k : Nat) : List (BitVec 8) := List.replicate k 1#8 ++ List.replicate (n - k) 0#8
theorem onesL_length (n k : Nat) (h : k ≤ n) : (onesL n k).length = n := by simp [onesL]; omega
theorem onesL_step (n k : Nat) (h : k < n) : (onesL n k).set k 1#8 = onesL n (k + 1) := by
  apply List.ext_getElem?
  intro i
  unfold onesL
  rw [List.getElem?_set]
  by_cases h1 : k = i
  · subst h1
    rw [if_pos rfl, if_pos (by simp; omega), List.getElem?_append_left (by simp), List.getElem?_replicate, if_pos (by omega)]
  · rw [if_neg h1]
    by_cases h2 : i < k
    · rw [List.getElem?_append_left (by simpa using h2), List.getElem?_append_left (by simp; omega), List.getElem?_replicate, List.getElem?_replicate, if_pos h2, if_pos (by omega)]
    · rw [List.getElem?_append_right (by simp; omega), List.getElem?_append_right (by simp; omega), List.getElem?_replicate, List.getElem?_replicate]
      simp only [List.length_replicate]
      by_cases h3 : i < n
      · rw [if_pos (by omega), if_pos (by omega)]
      · rw [if_neg (by omega), if_neg (by omega)]
theorem onesL_whole (n : Nat) : onesL n n = List.replicate n 1#8 := by unfold onesL; rw [Nat.sub_self, List.replicate_zero, List.append_nil]
theorem onesL_zero (n : Nat) : onesL n 0 = List.replicate n 0#8 := by unfold onesL; rw [List.replicate_zero, List.nil_append]; rfl
end FlM
def byA (l : List (BitVec 8)) : Array Value := (l.map byteV).toArray
theorem byA_size (l : List (BitVec 8)) : (byA l).size = l.length := by simp [byA]
theorem byA_set (l : List (BitVec 8)) (i : Nat) (b : BitVec 8) : (byA l).setIfInBounds i (.int .u8 (bI b)) = byA (l.set i b) := by
  apply Array.ext'
  simp only [byA, Array.toList_setIfInBounds, List.map_set]
  rfl
theorem byA_get (l : List (BitVec 8)) (i : Nat) (b : BitVec 8) (h : l[i]? = some b) : (byA l)[i]? = some (.int .u8 (bI b)) := by
  unfold byA
  rw [List.getElem?_toArray, List.getElem?_map, h]; rfl
theorem Bytes.of_byA {W : World} {g : Nat} {l : List (BitVec 8)} (h : Row W g 5 (byA l)) (hl : l.length ≤ maxLen) : Bytes W.heap.size W (.slice (some ⟨g, 0, none⟩) l.length l.length) l := by
  have := Sl.of_row (B := W.heap.size) h h.lt l.length (l.map byteV) rfl (by simp) hl
  rwa [List.length_map] at this
theorem u8_info : ∃ i, Try.prog.info? 5 = some i ∧ i.zero = some (.int .u8 0) ∧ i.size = 1 ∧ i.bytes = 1 := by
  have h : (Try.prog.info? 5).map (fun i => (i.zero, i.size, i.bytes)) = some (some (.int .u8 0), 1, 1) := by kernel_rfl
  obtain ⟨i, hi, hz⟩ := Option.map_eq_some_iff.1 h
  simp only [Prod.mk.injEq] at hz
  exact ⟨i, hi, hz.1, hz.2.1, hz.2.2⟩
theorem does_make_bytes {ρ : Operand → Value} {w : World} {o : Oper} {R : Value → World → Prop} (l c : Operand) (ho : o.op = Op.makeSlice 27 l c) (n : Nat) (hl : ρ l = .int .i64 n) (hc : ρ c = .int .i64 n) (hn : n ≤ 1000000)
    (h : ∀ w', Row w' w.heap.size 5 (byA (List.replicate n 0#8)) → Grows w w' → R (.slice (some ⟨w.heap.size, 0, none⟩) n n) w') : Does Try.prog o ρ w R := by
  obtain ⟨i, hi, hz, hs, hb⟩ := u8_info
  obtain ⟨w', hrun, r1, r2⟩ := run_make_full (P := Try.prog) w w.heap.size 27 5 i (.int .u8 0) 1 Try.underlying27 hi hz hs .i64 .i64 n (by rw [hb]; omega) (by unfold maxLen; omega) (Nat.le_refl _)
  unfold Does execOp
  simp only [ho, hl, hc, Sem.run_bind, hrun, Result.andThen_ok, Sem.run_pure]
  refine h w' ?_ ((Below.refl _ w).grown r2 (Nat.le_refl _) (fun k e => by cases e))
  rcases r1.2 with ⟨h1, _⟩ | ⟨g, cap, cur, h1, _, hh, h2, h3, h4, h5⟩
  · cases h1
  · simp only [Value.slice.injEq, Option.some.injEq, Addr.mk.injEq, and_true, true_and] at h1
    obtain ⟨rfl, rfl⟩ := h1
    rw [Nat.mul_one] at h4 h5
    have e : cur = byA (List.replicate n 0#8) := by
      apply Array.ext'
      rw [List.take_of_length_le (by rw [Array.length_toList]; omega)] at h5
      rw [h5]
      apply List.ext_getElem
      · simp [size_madeCells, byA]
      · intro i h1 h2
        simp [madeCells, byA, Nat.mod_one, Value.cells, byteV, bI]
    rw [← e]
    exact hh
section
variable {w : World} {ops : Array Oper} {rest : List Oper} {o : Oper} {a : Act} {Q : Exit → Act → World → Prop}
theorem wpList_make_bytes (hgd : o.guard = none) (l c : Operand) (ho : o.op = Op.makeSlice 27 l c) (n : Nat) (hl : a.eval l = .int .i64 n) (hc : a.eval c = .int .i64 n) (hn : n ≤ 1000000)
    (h : ∀ w', Row w' w.heap.size 5 (byA (List.replicate n 0#8)) → Grows w w' → wpList Try.prog ops Q rest (a.put o.dst (.slice (some ⟨w.heap.size, 0, none⟩) n n)) w') : wpList Try.prog ops Q (o :: rest) a w := by
  refine wpList_plain hgd fun K hK => ?_
  have hd := does_make_bytes (R := fun v w' => v = .slice (some ⟨w.heap.size, 0, none⟩) n n ∧ Row w' w.heap.size 5 (byA (List.replicate n 0#8)) ∧ Grows w w') (ρ := a.eval) l c ho n hl hc hn fun w' h1 h2 => ⟨rfl, h1, h2⟩
  refine Does.wp hd fun v w' ⟨e, h1, h2⟩ => ?_
  subst e
  exact hK _ _ (h w' h1 h2)
end
/-- The slices of a disk whose block is written out. -/
theorem IsDisk.cut {B : Nat} {W : World} {v : Value} {d : Dk} (h : IsDisk B W v d) : ∃ A c A' c' A'' c'', v = .agg #[.slice A d.pages.length c, .slice A' d.cache.length c', .slice A'' d.bad.length c'', .bool d.off] ∧ (0 < d.pages.length → ∃ g o, A = some ⟨g, o, none⟩ ∧ g < B ∧ ∀ k p, d.pages[k]? = some p → W.rangeAt g (o + k * 256) (pageE p)) := by
  obtain ⟨pv, cv, bv, rfl, hp, hc, hb⟩ := h
  obtain ⟨A, c, rfl, _, _, h1⟩ := hp.form
  obtain ⟨A', c', rfl, _⟩ := hc.form
  obtain ⟨A'', c'', rfl, _⟩ := hb.form
  exact ⟨A, c, A', c', A'', c'', rfl, h1⟩
end Go.Proofs.Ytiagmlokocpboaa
