/- 'great', and the sums of pages. -/
import Derived.Test.YteanmkejcnkojaaCrcRef
import Derived.Test.YteanmkejcnkojaaCrcThreeAny
namespace Go.Proofs.Yteanmkejcnkojaa
open Go.RowKit
set_option linter.unusedVariables false
set_option linter.unusedSimpArgs false
def SomeBool (e : Ending) : Prop := ∃ b, e = .returned (.bool b)
set_option maxRecDepth 10000 in
set_option maxHeartbeats 1000000 in
theorem great_any (v : Value) (ls : List (List (BitVec 8))) (w : World) (hp : Parts w.heap.size w v ls) :
    Calls Try.prog 8 #[v] w fun e w' => SomeBool e ∧ w = w' := by
  obtain ⟨vs, hvl, ⟨A, cap, rfl, hl1, hl2, hcs⟩, hbs⟩ := hp
  unfold maxLen at hl2
  have hvi0 : ∀ i, i < vs.length → ∃ li, ls[i]? = some li := fun i h => ⟨_, List.getElem?_eq_getElem (by omega)⟩
  have HLI := Lib.hid hvi0
  have HC := Lib.hid hcs; have HB := Lib.hid hbs
  clear hvl hvi0 hcs hbs
  go_enter Try.func8, Try.ntmps8
  go_wp2
  go_loop [3, 4] (fun c i => ∃ k m : Nat, k ≤ vs.length ∧ k ≤ 41 ∧ m ≤ 10000 * k ∧ i = .int .i64 k ∧ c = .int .i64 m) (fun _ i => vs.length - (intOf i).toNat)
  case atStart => exact ⟨0, 0, by omega, by omega, by omega, rfl, rfl⟩
  case round =>
    obtain ⟨k, m, hk, hk41, hm, rfl, rfl⟩ := hrel
    by_cases hlt : k < vs.length
    · by_cases h40 : k ≤ 40
      · obtain ⟨b, o, rfl, hb, hcell⟩ := HC.out (by omega)
        have hvi : vs[k]? = some vs[k] := List.getElem?_eq_getElem hlt
        obtain ⟨li, hli⟩ := HLI.out k hlt
        have hcx : w.cell? ⟨b, o + k, none⟩ = some vs[k] := hcell k _ hvi
        obtain ⟨A', cap', hv', _, _, _⟩ := HB.out k _ _ hvi hli
        rw [hv'] at hcx
        clear hv' hli hvi hcell HC HB HLI
        simp only [List.length_map] at hcx
        obtain ⟨x, hx, hx1⟩ : ∃ x : Nat, (∀ (ts : Array TypeId) (t : TypeId) (w : World), (Builtin.min_ ts t #[.int .i64 li.length, .int .i64 10000]).run Try.prog w = .ok (.int .i64 x) w) ∧ x ≤ 10000 := by
          refine ⟨min li.length 10000, fun ts t w => ?_, by omega⟩
          simp only [Builtin.min_, List.foldlM_cons, List.foldlM_nil, Builtin.min2, pure_bind, Sem.run_pure]
          congr 2
          split <;> omega
        go_wp2
        go_round
        case rel => exact ⟨k + 1, m + x, by omega, by omega, by omega, by go_num, by go_num⟩
        case measure => simp [intOf]; omega
      · clear HC HB HLI
        by_cases hn : m ≤ 3000 <;> by_cases hl : vs.length ≤ 40
        all_goals
          go_wp2
          all_goals (go_ret; exact ⟨⟨_, rfl⟩, rfl⟩)
    · clear HC HB HLI
      by_cases hn : m ≤ 3000 <;> by_cases hl : vs.length ≤ 40
      all_goals
        go_wp2
        all_goals (go_ret; exact ⟨⟨_, rfl⟩, rfl⟩)
/-- A page in its box, and a row of one part that is it. -/
theorem page_parts (l : List (BitVec 8)) (hl : l.length = 256) (w : World) (t u : TypeId) :
    Parts ((w.alloc (.cells (l.map byteV).toArray t)).alloc (.cells #[.slice (some ⟨w.heap.size, 0, none⟩) 256 256] u)).heap.size ((w.alloc (.cells (l.map byteV).toArray t)).alloc (.cells #[.slice (some ⟨w.heap.size, 0, none⟩) 256 256] u)) (.slice (some ⟨w.heap.size + 1, 0, none⟩) 1 1) [l] := by
  have h0 : Row ((w.alloc (.cells (l.map byteV).toArray t)).alloc (.cells #[.slice (some ⟨w.heap.size, 0, none⟩) 256 256] u)) (w.heap.size + 1) u #[.slice (some ⟨w.heap.size, 0, none⟩) 256 256] := by
    have := Row.new (w.alloc (.cells (l.map byteV).toArray t)) u #[.slice (some ⟨w.heap.size, 0, none⟩) 256 256]
    simpa using this
  refine Parts.of_row (cs := #[.slice (some ⟨w.heap.size, 0, none⟩) 256 256]) [l] h0 h0.lt rfl rfl (by unfold maxLen; omega) ?_
  intro i x l' hx hl'
  obtain rfl : i = 0 := by
    have := (List.getElem?_eq_some_iff.1 hx).1
    simp at this
    exact this
  simp only [List.getElem?_cons_zero, Option.some.injEq] at hx hl'
  subst hx hl'
  have hr := (Row.new w t (l.map byteV).toArray).alloc (.cells #[.slice (some ⟨w.heap.size, 0, none⟩) 256 256] u)
  have := Sl.of_row hr hr.lt 256 (l.map byteV) rfl (by simp [hl]) (by unfold maxLen; omega)
  rw [List.length_map, hl] at this
  exact this
set_option maxRecDepth 10000 in
set_option maxHeartbeats 1000000 in
/-- 'Page' of the program: the sum of its bytes. -/
theorem page_any (l : List (BitVec 8)) (hl : l.length = 256) (w : World) :
    Calls Try.prog 16 #[.agg (l.map byteV).toArray] w fun e w' => e = .returned (.int .u64 (uI (CrcM.sum l))) ∧ Grows w w' := by
  have hs : (l.map byteV).toArray.size = 256 := by simpa using hl
  have HL := Lib.hid hl
  have HSZ := Lib.hid hs
  clear hl hs
  have HP := Lib.hid (fun w => page_parts l HL.out w 25 34)
  go_enter Try.func16, Try.ntmps16
  go_wp2_with (go_at_call 14; refine (sum1 (HP.out _)).mono ?_; rintro e w2 ⟨rfl, hb2⟩)
  go_ret
  exact ⟨rfl, (Grows.alloc _ _).trans ((Grows.alloc _ _).trans hb2)⟩
theorem rsum1 {w : World} {v : Value} {l : List (BitVec 8)} (hp : Parts w.heap.size w v [l]) :
    Calls Try.prog 15 #[v] w fun e w' => e = .returned (.int .u64 (uI (CrcM.sum l))) ∧ Grows w w' :=
  (rsum_any v [l] w hp).mono fun e w' ⟨he, hb⟩ => ⟨by rw [he]; simp, hb ▸ Grows.refl _⟩
set_option maxRecDepth 10000 in
set_option maxHeartbeats 1000000 in
/-- The document's 'Page'. -/
theorem rpage_any (l : List (BitVec 8)) (hl : l.length = 256) (w : World) :
    Calls Try.prog 17 #[.agg (l.map byteV).toArray] w fun e w' => e = .returned (.int .u64 (uI (CrcM.sum l))) ∧ Grows w w' := by
  have hs : (l.map byteV).toArray.size = 256 := by simpa using hl
  have HL := Lib.hid hl
  have HSZ := Lib.hid hs
  clear hl hs
  have HP := Lib.hid (fun w => page_parts l HL.out w 25 34)
  go_enter Try.func17, Try.ntmps17
  go_wp2_with (go_at_call 15; refine (rsum1 (HP.out _)).mono ?_; rintro e w2 ⟨rfl, hb2⟩)
  go_ret
  exact ⟨rfl, (Grows.alloc _ _).trans ((Grows.alloc _ _).trans hb2)⟩
end Go.Proofs.Yteanmkejcnkojaa
