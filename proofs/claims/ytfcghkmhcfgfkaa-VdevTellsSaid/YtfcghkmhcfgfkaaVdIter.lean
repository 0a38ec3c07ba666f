/- Layer 3's small answers and its iterator: sizes, places; a cache's writes, from the last one on. -/
import Derived.Test.YtfcghkmhcfgfkaaVdMath
import Derived.Test.YtfcghkmhcfgfkaaMemIn
import Derived.RangeFuncNested
import Derived.RangeFuncBound
import Derived.RangeFuncCalls
import Derived.RangeFuncLeaves
import Derived.OwnWalkIn
import Derived.TacticsInMore
import Derived.LoopNIn
import Derived.LoopIn
import Derived.Lib.Hide
namespace Go.Proofs.Ytfcghkmhcfgfkaa
open Go.RowKit
set_option linter.unusedVariables false
set_option linter.unusedSimpArgs false
attribute [local go_sem] Oper.semAt_some
theorem sizeMay_any (n : Int) (w : World) : Calls Try.prog 28 #[.int .i64 n] w fun e w' => e = .returned (.bool (decide (32 ≤ n ∧ n ≤ 256))) ∧ w' = w := by
  obtain ⟨t, ht⟩ : ∃ t : Bool, t = decide (32 ≤ n ∧ n ≤ 256) := ⟨_, rfl⟩
  rw [← ht]
  by_cases h1 : 32 ≤ n
  · by_cases h2 : n ≤ 256
    · obtain rfl : t = true := by rw [ht]; exact decide_eq_true ⟨h1, h2⟩
      clear ht
      go_enter Try.func28, Try.ntmps28
      go_wp2
      go_ret
      exact ⟨rfl, rfl⟩
    · obtain rfl : t = false := by rw [ht]; exact decide_eq_false fun h => h2 h.2
      clear ht
      go_enter Try.func28, Try.ntmps28
      go_wp2
      go_ret
      exact ⟨rfl, rfl⟩
  · obtain rfl : t = false := by rw [ht]; exact decide_eq_false fun h => h1 h.1
    clear ht
    go_enter Try.func28, Try.ntmps28
    go_wp2
    go_ret
    exact ⟨rfl, rfl⟩
/-- Has a disk such a page? -/
theorem has_any (A : Option Addr) (len cap : Nat) (v1 v2 v3 : Value) (n : Int) (w : World) : Calls Try.prog 33 #[.agg #[.slice A len cap, v1, v2, v3], .int .i64 n] w fun e w' => e = .returned (.bool (decide (0 ≤ n ∧ n < len))) ∧ Grows w w' := by
  have HG := Lib.hid (Grows.alloc w (.cells #[.slice A len cap, v1, v2, v3] 26))
  obtain ⟨t, ht⟩ : ∃ t : Bool, t = decide (0 ≤ n ∧ n < len) := ⟨_, rfl⟩
  rw [← ht]
  by_cases h1 : 0 ≤ n
  · by_cases h2 : n < len
    · obtain rfl : t = true := by rw [ht]; exact decide_eq_true ⟨h1, h2⟩
      clear ht
      go_enter Try.func33, Try.ntmps33
      go_wp2
      go_ret
      exact ⟨rfl, HG.out⟩
    · obtain rfl : t = false := by rw [ht]; exact decide_eq_false fun h => h2 h.2
      clear ht
      go_enter Try.func33, Try.ntmps33
      go_wp2
      go_ret
      exact ⟨rfl, HG.out⟩
  · obtain rfl : t = false := by rw [ht]; exact decide_eq_false fun h => h1 h.1
    clear ht
    go_enter Try.func33, Try.ntmps33
    go_wp2
    go_ret
    exact ⟨rfl, HG.out⟩
/-- Block b lies as it lay. -/
def KeptAt (b : Nat) (W W' : World) : Prop := W'.heap[b]? = W.heap[b]?
theorem KeptAt.t {b : Nat} {A B C : World} (h : KeptAt b A B) (k : KeptAt b B C) : KeptAt b A C := Eq.trans k h
theorem KeptAt.b {b B : Nat} (hb : b < B) (W : World) (l : Nat) (o o' : Obj) (hl : B ≤ l) (_ : W.heap[l]? = some o) (_ : o.isCells = false) (_ : o.isWalk = false) : KeptAt b W (W.putObj l o') :=
  World.putObj_heap_other (by omega)
/-- The places from the last one down to k. -/
def backs (n k : Nat) : List (Fin n) := ((List.finRange n).drop k).reverse
theorem backs_full (n : Nat) : backs n n = [] := by unfold backs; rw [List.drop_eq_nil_of_le (by simp)]; rfl
theorem backs_step {n k : Nat} (h : k < n) : backs n k = backs n (k + 1) ++ [⟨k, h⟩] := by
  unfold backs
  rw [List.drop_eq_getElem_cons (by simpa using h), List.reverse_cons]
  simp
theorem backs_zero (n : Nat) : backs n 0 = (List.finRange n).reverse := rfl
theorem backs_prefix (n k : Nat) : backs n k <+: (List.finRange n).reverse := by
  refine ⟨((List.finRange n).take k).reverse, ?_⟩
  unfold backs
  rw [← List.reverse_append, List.take_append_drop]
theorem backs_len (n k : Nat) : (backs n k).length = n - k := by simp [backs]
theorem prefix_backs {n : Nat} {pre : List (Fin n)} (h : pre <+: (List.finRange n).reverse) : pre = backs n (n - pre.length) := by
  obtain ⟨t, ht⟩ := h
  have hl := congrArg List.length ht
  simp only [List.length_append, List.length_reverse, List.length_finRange] at hl
  obtain ⟨s, hs⟩ := backs_prefix n (n - pre.length)
  refine List.append_inj_left (hs.symm ▸ ht : pre ++ t = backs n (n - pre.length) ++ s) ?_
  rw [backs_len]; omega
/-- Where a cache's write stands. -/
def wrAt (g o : Nat) (j : Nat) : Value := .pointer (some ⟨g, o + j * 257, none⟩)
set_option maxRecDepth 100000 in
set_option maxHeartbeats 2000000 in
theorem fromLast1_in (n : Nat) (hn : 1 ≤ n) (l Bs : Nat) (A : Option Addr) (len cap g o : Nat) (hA : 0 < len → A = some ⟨g, o, none⟩) (hl1 : len ≤ cap) (hl2 : cap ≤ maxLen) (J Jx : List (Fin len) → World → Prop)
    (hY : ∀ pre (x : Fin len) W, J pre W → pre.length < len → YieldAt Fence.wide (n - 1) Try.prog l #[wrAt g o x.val] W fun e W' =>
      (e = .returned (.bool true) ∧ J (pre ++ [x]) W' ∧ KeptAt Bs W W') ∨ (e = .returned (.bool false) ∧ Jx (pre ++ [x]) W'))
    (W : World) (hBs : W.cell? ⟨Bs, 0, none⟩ = some (.slice A len cap)) (h0 : J [] W) :
    CallsIn Fence.wide n Try.prog 43 #[.func (.yield l) #[] #[], .pointer (some ⟨Bs, 0, none⟩)] W fun e W' => (∃ v, e = .returned v) ∧
      (J ((List.finRange len).reverse) W' ∨ (∃ pre, pre <+: (List.finRange len).reverse ∧ Jx pre W')) := by
  have HY := Lib.hid hY
  unfold maxLen at hl2
  clear hY
  have hw1 : IntKind.i64.wrap ((len : Int) - 1) = (len : Int) - 1 := IntWalk.i64_in _ (by omega)
  refine callsIn_of_wp Try.func43 rfl trivial ?_ rfl
  simp only [Try.ntmps43, List.size_toArray, List.length_cons, List.length_nil, Nat.reduceAdd, Nat.reduceSub, Array.replicate_succ, Array.replicate_zero, List.push_toArray, List.append_toArray, List.nil_append, List.cons_append]
  gi_wp2
  gi_loopw [3] (fun i wr => ∃ k : Nat, k ≤ len ∧ i = .int .i64 ((k : Int) - 1) ∧ J (backs len k) wr ∧ wr.cell? ⟨Bs, 0, none⟩ = some (.slice A len cap))
    (fun i _ => (intOf i + 1).toNat)
  case atStart => exact ⟨len, Nat.le_refl _, rfl, by rw [backs_full]; exact h0, hBs⟩
  case round =>
    obtain ⟨k, hk, rfl, hJk, hcn⟩ := hrel
    rcases k with _ | j
    · gi_wp2
      go_end0
      exact ⟨⟨_, rfl⟩, .inl (by rw [backs_zero] at hJk; exact hJk)⟩
    · rw [show (((j + 1 : Nat) : Int) - 1) = (j : Int) by omega]
      have hlk : j < len := by omega
      have HT := Lib.hid (backs_step hlk)
      obtain ⟨fn, tmps, assign, body, hy, hR⟩ := HY.out _ ⟨j, hlk⟩ _ hJk (by rw [backs_len]; omega)
      obtain rfl := hA (by omega)
      dsimp only [wrAt] at hy
      have hw2 : IntKind.i64.wrap ((j : Int) - 1) = (j : Int) - 1 := IntWalk.i64_in _ (by omega)
      gi_wp2
      refine hR.mono ?_
      rintro e W3 (⟨rfl, hJ3, hk3⟩ | ⟨rfl, hJx3⟩)
      · gi_wp2
        go_roundw
        case rel => exact ⟨j, by omega, by simp, by rw [HT.out]; exact hJ3, (World.cell?_of_block (a := ⟨Bs, 0, none⟩) hk3).trans hcn⟩
        case measure => simp [intOf]
      · gi_wp2
        refine bodyPost_ret (results_none rfl _ _ _) rfl ?_
        exact ⟨⟨_, rfl⟩, .inr ⟨_, by have := backs_prefix len j; rw [HT.out] at this; exact this, hJx3⟩⟩
theorem fromLast_any (v : Value) (A : Option Addr) (len cap : Nat) (w : World) (hv : v = .slice A len cap) :
    Calls Try.prog 31 #[v] w fun e w' => e = .returned (.func (.func 43) #[] #[.pointer (some ⟨w.heap.size, 0, none⟩)]) ∧ w.alloc (.cells #[v] 23) = w' := by
  subst hv
  go_enter Try.func31, Try.ntmps31
  go_wp2
  go_ret
  exact ⟨rfl, rfl⟩
theorem fromLast_stops (n : Nat) (hn : 1 ≤ n) (Bs : Nat) (A : Option Addr) (len cap g o : Nat) (hA : 0 < len → A = some ⟨g, o, none⟩) (hl1 : len ≤ cap) (hl2 : cap ≤ maxLen) (w : World) (hBs : Bs < w.heap.size)
    (hc : w.cell? ⟨Bs, 0, none⟩ = some (.slice A len cap)) :
    SeqStopsK Fence.wide n Try.prog 43 #[.pointer (some ⟨Bs, 0, none⟩)] (fun x : Fin len => #[wrAt g o x.val]) (KeptAt Bs) (fun ys => ys = (List.finRange len).reverse) (fun pre => pre <+: (List.finRange len).reverse) len w := fun l J Jx W hW _ _ hY h0 => by
  have h1 := ((hW.cell (p := ⟨Bs, 0, none⟩) (show Bs < _ by omega)).trans hc)
  refine (fromLast1_in n hn l Bs A len cap g o hA hl1 hl2 J Jx hY W h1 h0).mono ?_
  rintro e W' ⟨he, h | ⟨pre, hpre, hj⟩⟩
  · exact ⟨he, .inl ⟨_, rfl, h⟩⟩
  · exact ⟨he, .inr ⟨_, hpre, hj⟩⟩
end Go.Proofs.Ytfcghkmhcfgfkaa
