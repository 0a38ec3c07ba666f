/- FlPage -/
import Derived.Test.YtiagmlokocpboaaVdFlM
import Derived.Test.YtiagmlokocpboaaBaseC
import Derived.Test.YtiagmlokocpboaaVdvFlush
import Derived.Test.YtiagmlokocpboaaCellSt
import Derived.Test.YtiagmlokocpboaaFlHalves
import Derived.Test.YtiagmlokocpboaaVdFlush
import Derived.Test.YtiagmlokocpboaaFlRef
/- A byte of a page written in the midst of a block of the call's own. No function of the program. -/
namespace Go.Proofs.Ytiagmlokocpboaa
open Go.RowKit Go.Deep
set_option linter.unusedVariables false
set_option linter.unusedSimpArgs false
set_option maxRecDepth 20000 in
theorem flat_set_byte {l : List Pg} (h : ∀ x ∈ l, (pageE x).length = 256) (k o : Nat) (p : Pg) (b : BitVec 8) (hk : l[k]? = some p) (ho : o < 256) :
    (l.flatMap pageE).set (k * 256 + o) (byteV b) = (l.set k (p.set o b)).flatMap pageE := by
  have hkl : k < l.length := (List.getElem?_eq_some_iff.1 hk).1
  have hp : p.length = 256 := by have := h p (List.mem_of_getElem? hk); rwa [pageE_len] at this
  have hs : ∀ x ∈ l.set k (p.set o b), (pageE x).length = 256 := fun x hx => by
    rcases List.mem_or_eq_of_mem_set hx with hx | rfl
    · exact h x hx
    · rw [pageE_len, List.length_set, hp]
  apply List.ext_getElem?
  intro i
  by_cases hi : i < l.length * 256
  · have hq : i / 256 < l.length := Nat.div_lt_of_lt_mul (by omega)
    have hr : i % 256 < 256 := Nat.mod_lt _ (by omega)
    have e : i = i / 256 * 256 + i % 256 := by have := Nat.div_add_mod i 256; omega
    have g1 : ((l.set k (p.set o b)).flatMap pageE)[i]? = (pageE ((l.set k (p.set o b))[i / 256]'(by simpa using hq)))[i % 256]? := by
      have := flat_get hs (i / 256) _ (List.getElem?_eq_getElem (by simpa using hq)) (i % 256) hr
      rwa [← e] at this
    have g2 : (l.flatMap pageE)[i]? = (pageE (l[i / 256]'hq))[i % 256]? := by
      have := flat_get h (i / 256) _ (List.getElem?_eq_getElem hq) (i % 256) hr
      rwa [← e] at this
    rw [List.getElem?_set, g1, List.getElem_set, g2]
    by_cases h1 : k = i / 256
    · subst h1
      have hkp : l[i / 256]'hq = p := (List.getElem?_eq_some_iff.1 hk).2
      simp only [if_true, hkp]
      by_cases h2 : o = i % 256
      · subst h2
        rw [if_pos (by omega), if_pos (by rw [flat_length h]; omega)]
        unfold pageE
        rw [List.getElem?_map, List.getElem?_set, if_pos rfl, if_pos (by omega)]
        rfl
      · rw [if_neg (by omega)]
        unfold pageE
        rw [List.getElem?_map, List.getElem?_map, List.getElem?_set, if_neg h2]
    · rw [if_neg (by omega)]
      simp only [h1, if_false]
  · rw [List.getElem?_eq_none (by rw [List.length_set, flat_length h]; omega), List.getElem?_eq_none (by rw [flat_length hs]; simp; omega)]
/-- A byte of a page of a row of one's own is written anew. -/
theorem Own'.store_byte {base g cap : Nat} {w : World} {l : List Pg} (h : Own' 40 256 pageE base w (.slice (some ⟨g, 0, none⟩) l.length cap) l) (k o : Nat) (p : Pg) (b : BitVec 8) (hk : l[k]? = some p) (ho : o < 256) :
    Own' 40 256 pageE base (w.setCell ⟨g, k * 256 + o, none⟩ (byteV b)) (.slice (some ⟨g, 0, none⟩) l.length cap) (l.set k (p.set o b)) ∧ w.cell? ⟨g, k * 256 + o, none⟩ = some (byteV (p[o]?.getD 0)) ∧ w.frozen? ⟨g, k * 256 + o, none⟩ = false := by
  obtain ⟨h0, hl, h⟩ := h
  have hkl : k < l.length := (List.getElem?_eq_some_iff.1 hk).1
  have hp : p.length = 256 := by have := h0 p (List.mem_of_getElem? hk); rwa [pageE_len] at this
  rcases h with ⟨h1, h2⟩ | ⟨g', cap', cur, h1, hb, hh, h2, h3, h4, h5⟩
  · simp at h1
  · simp only [Value.slice.injEq, Option.some.injEq, Addr.mk.injEq, and_true, true_and] at h1
    obtain ⟨rfl, rfl⟩ := h1
    have hr : Row w g 40 cur := hh
    have hi : k * 256 + o < l.length * 256 := by omega
    have hc : cur[k * 256 + o]? = some (byteV (p[o]?.getD 0)) := by
      rw [← Array.getElem?_toList, ← List.getElem?_take_of_lt hi, h5, flat_get h0 k p hk o ho]
      unfold pageE
      rw [List.getElem?_map, List.getElem?_eq_getElem (by omega)]
      rfl
    refine ⟨⟨fun x hx => ?_, ?_, .inr ⟨g, cap, cur.setIfInBounds (k * 256 + o) (byteV b), by rw [List.length_set], hb, hr.set _ _, by rw [List.length_set]; exact h2, h3, by rw [Array.size_setIfInBounds]; exact h4, ?_⟩⟩, (hr.cell _).trans hc, hr.frozen _⟩
    · rcases List.mem_or_eq_of_mem_set hx with hx | rfl
      · exact h0 x hx
      · rw [pageE_len, List.length_set, hp]
    · rw [← flat_set_byte h0 k o p b hk ho, List.length_set, hl, List.length_set]
    · rw [List.length_set, Array.toList_setIfInBounds, List.take_set, h5]
      exact flat_set_byte h0 k o p b hk ho
/-- A row of one's own that is not nil lies at the beginning of a block. -/
theorem Own'.at_zero {α : Type} {e : TypeId} {s base : Nat} {f : α → List Value} {w : World} {v : Value} {l : List α} (h : Own' e s f base w v l) (hp : 0 < l.length) : ∃ g cap, v = .slice (some ⟨g, 0, none⟩) l.length cap ∧ l.length ≤ cap ∧ cap ≤ maxLen ∧ base ≤ g ∧ g < w.heap.size := by
  rcases h.2.2 with ⟨_, h0⟩ | ⟨g, cap, cur, e1, hb, hh, h1, h2, _⟩
  · omega
  · exact ⟨g, cap, e1, h1, h2, hb, (Array.getElem?_eq_some_iff.1 hh).1⟩
section
variable {w : World} {ops : Array Oper} {rest : List Oper} {op : Oper} {a : Act} {Q : Exit → Act → World → Prop}
theorem Own'.store_page' {base g cap n : Nat} {w : World} {l : List Pg} (h : Own' 40 256 pageE base w (.slice (some ⟨g, 0, none⟩) n cap) l) (hn : l.length = n) (k : Nat) (p : Pg) (hk : k < n) (hp : p.length = 256) :
    Own' 40 256 pageE base (w.setCells g (k * 256) (pageE p)) (.slice (some ⟨g, 0, none⟩) n cap) (l.set k p) ∧ w.there g (k * 256) 256 := by
  subst hn
  exact h.store_page k p hk hp
theorem does_store_pgown {ρ : Operand → Value} {R : Value → World → Prop} (x y : Operand) (ho : op.op = .store 40 x y) (G k : Nat) (p : Pg) (l : List Pg) (base cap : Nat) (hx : ρ x = .pointer (some ⟨G, k * 256, none⟩)) (hy : ρ y = .agg (pgA p)) {n : Nat} (hn : l.length = n) (hk : k < n) (hl : p.length = 256)
    (hown : Own' 40 256 pageE base w (.slice (some ⟨G, 0, none⟩) n cap) l)
    (h : ∀ w', Own' 40 256 pageE base w' (.slice (some ⟨G, 0, none⟩) n cap) (l.set k p) → w.grownBy w' (some G) → R undef w') : Does Try.prog op ρ w R :=
  does_store_mid 40 x y ho G (k * 256) (pgA p) hx hy (by rw [pgA_size, hl]; exact (hown.store_page' hn k p hk hl).2) (by rw [pgA_size, hl]; exact pg_info) (pgA_one _)
    (by have h1 := (hown.store_page' hn k p hk hl).1; unfold pgA; rw [List.toList_toArray]; exact h _ h1 (setCells_grown _ _ _))
theorem wpList_store_pgown (hgd : op.guard = none) (x y : Operand) (ho : op.op = .store 40 x y) (G k : Nat) (p : Pg) (l : List Pg) (base cap : Nat) (hx : a.eval x = .pointer (some ⟨G, k * 256, none⟩)) (hy : a.eval y = .agg (pgA p)) {n : Nat} (hn : l.length = n) (hk : k < n) (hl : p.length = 256)
    (hown : Own' 40 256 pageE base w (.slice (some ⟨G, 0, none⟩) n cap) l)
    (h : ∀ w', Own' 40 256 pageE base w' (.slice (some ⟨G, 0, none⟩) n cap) (l.set k p) → w.grownBy w' (some G) → wpList Try.prog ops Q rest (a.put op.dst undef) w') : wpList Try.prog ops Q (op :: rest) a w :=
  wpList_store_pg hgd x y ho G (k * 256) p hx hy hl (hown.store_page' hn k p hk hl).2 (h _ (hown.store_page' hn k p hk hl).1 (setCells_grown _ _ _))
theorem wpListIn_store_pgown {F : Fence} {nn : Nat} (hF : WideF F) (hgd : op.guard = none) (x y : Operand) (ho : op.op = .store 40 x y) (G k : Nat) (p : Pg) (l : List Pg) (base cap : Nat) (hx : a.eval x = .pointer (some ⟨G, k * 256, none⟩)) (hy : a.eval y = .agg (pgA p)) {n : Nat} (hn : l.length = n) (hk : k < n) (hl : p.length = 256)
    (hown : Own' 40 256 pageE base w (.slice (some ⟨G, 0, none⟩) n cap) l)
    (h : ∀ w', Own' 40 256 pageE base w' (.slice (some ⟨G, 0, none⟩) n cap) (l.set k p) → w.grownBy w' (some G) → wpListIn F nn Try.prog ops Q rest (a.put op.dst undef) w') : wpListIn F nn Try.prog ops Q (op :: rest) a w :=
  wpListIn_does hF hgd (by intro c; rw [ho]; simp) (R := fun v w' => v = undef ∧ Own' 40 256 pageE base w' (.slice (some ⟨G, 0, none⟩) n cap) (l.set k p) ∧ w.grownBy w' (some G))
    (does_store_pgown x y ho G k p l base cap hx hy hn hk hl hown fun w' h1 h2 => ⟨rfl, h1, h2⟩) (by rintro v w' ⟨rfl, h1, h2⟩; exact h w' h1 h2)
end
theorem wr_cell0 (a : Int) (p : Pg) : (wrA (a, p))[0]? = some (.int .i64 a) := rfl
theorem halves_pg (old now : Pg) (h1 : old.length = 256) (h2 : now.length = 256) (w : World) :
    Calls Try.prog 30 #[.agg (pgA old), .agg (pgA now)] w fun e w' => e = .returned (.agg (pgA (PackM.halves old now))) ∧ Grows w w' := halves_any old now h1 h2 w
theorem rhalves_pg (old now : Pg) (h1 : old.length = 256) (h2 : now.length = 256) (w : World) :
    Calls Try.prog 32 #[.agg (pgA old), .agg (pgA now)] w fun e w' => e = .returned (.agg (pgA (PackM.halves old now))) ∧ Grows w w' := rhalves_any old now h1 h2 w
theorem rpick_g (v : Value) (picks : List (BitVec 8)) (i : Nat) (w : World) (hv : Bytes w.heap.size w v picks) (hl : picks.length ≤ 900000) (hi : i ≤ 900000) :
    Calls Try.prog 31 #[v, .int .i64 i] w fun e w' => e = .returned (.int .u8 (FlM.fate picks i)) ∧ Grows w w' :=
  (rpick_any v picks i w hv hl hi).mono fun e w' h => ⟨h.1, by rw [h.2]; exact Grows.refl _⟩
end Go.Proofs.Ytiagmlokocpboaa
