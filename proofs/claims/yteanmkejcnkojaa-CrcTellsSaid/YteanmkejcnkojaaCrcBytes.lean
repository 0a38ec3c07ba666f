/- The sum over parts: the iterator over their bytes, and its caller. -/
import Derived.Test.YteanmkejcnkojaaRows
import Derived.Test.YteanmkejcnkojaaWords
import Derived.Test.YteanmkejcnkojaaMem
import Derived.Test.YteanmkejcnkojaaOpen
import Derived.Test.YteanmkejcnkojaaCrcMath
import Derived.Test.YteanmkejcnkojaaCrcWalk
import Derived.Test.YteanmkejcnkojaaCrcTable
import Derived.RangeFuncNested
import Derived.RangeFuncBound
import Derived.RangeFuncCalls
import Derived.RangeFuncLeaves
import Derived.OwnWalkIn
import Derived.TacticsInMore
import Derived.LoopNIn
import Derived.LoopIn
import Derived.Lib.Hide
namespace Go.Proofs.Yteanmkejcnkojaa
open Go.RowKit
set_option linter.unusedVariables false
attribute [local go_sem] Oper.semAt_some
theorem flat_succ (ls : List (List (BitVec 8))) (i : Nat) (l : List (BitVec 8)) (h : ls[i]? = some l) : (ls.take (i + 1)).flatten = (ls.take i).flatten ++ l := by
  rw [List.take_add_one, h]; simp
theorem take_snoc' (l : List (BitVec 8)) (k : Nat) (b : BitVec 8) (h : l[k]? = some b) : l.take (k + 1) = l.take k ++ [b] := by
  rw [List.take_add_one, h]; simp
theorem pre_of (ls : List (List (BitVec 8))) (i k : Nat) (l : List (BitVec 8)) (h : ls[i]? = some l) : (ls.take i).flatten ++ l.take k <+: ls.flatten := by
  have e : ls.flatten = (ls.take i).flatten ++ (l ++ (ls.drop (i + 1)).flatten) := by
    conv => lhs; rw [← List.take_append_drop (i + 1) ls, List.flatten_append, flat_succ ls i l h]
    simp
  rw [e]
  refine List.prefix_append_right_inj _ |>.2 ?_
  exact (List.take_prefix k l).trans (List.prefix_append _ _)

set_option maxRecDepth 100000 in
set_option maxHeartbeats 2000000 in
theorem bytesOf1_in (n : Nat) (hn : 1 ≤ n) (l Bs n₀ : Nat) (pv : Value) (ls : List (List (BitVec 8))) (J Jx : List (BitVec 8) → World → Prop)
    (hY : ∀ pre x W, J pre W → pre.length < ls.flatten.length → YieldAt Fence.wide (n - 1) Try.prog l #[.int .u8 (bI x)] W fun e W' =>
      (e = .returned (.bool true) ∧ J (pre ++ [x]) W' ∧ Below n₀ W W') ∨ (e = .returned (.bool false) ∧ Jx (pre ++ [x]) W'))
    (W : World) (hBs : W.cell? ⟨Bs, 0, none⟩ = some pv) (hp : Parts n₀ W pv ls) (h0 : J [] W) :
    CallsIn Fence.wide n Try.prog 19 #[.func (.yield l) #[] #[], .pointer (some ⟨Bs, 0, none⟩)] W fun e W' => (∃ v, e = .returned v) ∧
      (J ls.flatten W' ∨ (∃ pre, pre <+: ls.flatten ∧ Jx pre W')) := by
  obtain ⟨vs, hvl, ⟨A, cap, rfl, hl1, hl2, hcs⟩, hbs⟩ := hp
  unfold maxLen at hl2
  have HN := Lib.hid hvl
  have hvi0 : ∀ i, i < vs.length → ∃ li, ls[i]? = some li := fun i h => ⟨_, List.getElem?_eq_getElem (by omega)⟩
  have HLI := Lib.hid hvi0
  clear hvl hvi0
  refine callsIn_of_wp Try.func19 rfl trivial ?_ rfl
  simp only [Try.ntmps19, List.size_toArray, List.length_cons, List.length_nil, Nat.reduceAdd, Nat.reduceSub, Array.replicate_succ, Array.replicate_zero, List.push_toArray, List.append_toArray, List.nil_append, List.cons_append]
  gi_wp2
  gi_loopw [9] (fun i wr => ∃ k : Nat, k ≤ vs.length ∧ i = .int .i64 k ∧ J (ls.take k).flatten wr ∧ Below n₀ W wr)
    (fun i _ => vs.length - (intOf i).toNat)
  case atStart => exact ⟨0, Nat.zero_le _, rfl, h0, Below.refl _ _⟩
  case round =>
    obtain ⟨i, hi, rfl, hJs, hnx⟩ := hrel
    by_cases hlt : i < vs.length
    · obtain ⟨b, o, rfl, hb, hcell⟩ := hcs (by omega)
      have hvi : vs[i]? = some vs[i] := List.getElem?_eq_getElem hlt
      obtain ⟨li, hli⟩ := HLI.out i hlt
      have hcx : wr.cell? ⟨b, o + i, none⟩ = some vs[i] := (hnx.cell (p := ⟨b, o + i, none⟩) hb).trans (hcell i _ hvi)
      obtain ⟨A', cap', hv', hl1', hl2', hcs'⟩ := hbs i _ _ hvi hli
      unfold maxLen at hl2'
      rw [hv'] at hcx
      have HV := Lib.hid hv'; clear hv'
      have HF := flat_succ ls i _ hli
      have HP := fun k => pre_of ls i k _ hli
      have HLen := fun k => (HP k).length_le
      clear hli hvi
      have hd : decide (i < vs.length) = true := by simpa using hlt
      simp only [List.length_map] at hcx hl1' hcs'
      have HF := Lib.hid HF
      have HP := Lib.hid HP
      have HLen := Lib.hid HLen
      have HC := Lib.hid hcs'
      rename_i HF0 HP0 HLen0
      clear HF0 HP0 HLen0 hcs' hbs hcell hcs
      gi_wp2
      gi_loopw [15] (fun i' wr => ∃ k : Nat, k ≤ li.length ∧ i' = .int .i64 k ∧ J ((ls.take i).flatten ++ li.take k) wr ∧ Below n₀ W wr)
        (fun i' _ => li.length - (intOf i').toNat)
      case atStart => exact ⟨0, Nat.zero_le _, rfl, by simpa using hJs, hnx⟩
      case round =>
        obtain ⟨k, hk, rfl, hJk, hnk⟩ := hrel
        by_cases hlk : k < li.length
        · obtain ⟨b', o', rfl, hb', hcell'⟩ := HC.out (by omega)
          have hck := (hnk.cell (p := ⟨b', o' + k, none⟩) hb').trans (hcell' k (byteV li[k]) (by simp [hlk]))
          have HT := Lib.hid (take_snoc' li k li[k] (List.getElem?_eq_getElem hlk))
          obtain ⟨fn, tmps, assign, body, hy, hR⟩ := hY _ li[k] _ hJk (by have := HLen.out (k + 1); simp at this ⊢; omega)
          generalize li[k] = x at *
          unfold byteV at hck
          clear hcell'
          gi_wp2
          refine hR.mono ?_
          rintro e W3 (⟨rfl, hJ3, hk3⟩ | ⟨rfl, hJx3⟩)
          · gi_wp2
            go_roundw
            case rel => exact ⟨k + 1, by omega, by simp, by rw [HT.out, ← List.append_assoc]; exact hJ3, hnk.trans hk3⟩
            case measure => simp [intOf]; omega
          · gi_wp2
            refine bodyPost_ret (results_none rfl _ _ _) rfl ?_
            exact ⟨⟨_, rfl⟩, .inr ⟨_, by have := HP.out (k + 1); rw [HT.out, ← List.append_assoc] at this; exact this, hJx3⟩⟩
        · obtain rfl : k = li.length := by omega
          gi_wp2
          go_roundw
          case rel => exact ⟨i + 1, by omega, by simp, by rw [HF.out]; simpa using hJk, hnk⟩
          case measure => simp [intOf]; omega
    · obtain rfl : i = vs.length := by omega
      gi_wp2
      go_end0
      exact ⟨⟨_, rfl⟩, .inl (by rw [HN.out, List.take_length] at hJs; exact hJs)⟩

/-- 'bytesOf': the parts lie in a box of their own; the function value has captured it. -/
theorem bytesOf_any (A : Option Addr) (len cap : Nat) (w : World) :
    Calls Try.prog 18 #[.slice A len cap] w fun e w' => e = .returned (.func (.func 19) #[] #[.pointer (some ⟨w.heap.size, 0, none⟩)]) ∧ w.alloc (.cells #[.slice A len cap] 23) = w' := by
  go_enter Try.func18, Try.ntmps18
  go_wp2
  go_ret
  exact ⟨rfl, rfl⟩
/-- The bytes of all parts, in order, as long as the rounds keep what lies below n₀. -/
theorem bytesOf_stops (n : Nat) (hn : 1 ≤ n) (Bs n₀ : Nat) (pv : Value) (ls : List (List (BitVec 8))) (w : World) (hBs : Bs < w.heap.size) (hn₀ : n₀ ≤ w.heap.size)
    (hc : w.cell? ⟨Bs, 0, none⟩ = some pv) (hp : Parts n₀ w pv ls) :
    SeqStopsK Fence.wide n Try.prog 19 #[.pointer (some ⟨Bs, 0, none⟩)] (fun x : BitVec 8 => #[Value.int .u8 (bI x)]) (Below n₀) (fun ys => ys = ls.flatten) (fun pre => pre <+: ls.flatten) ls.flatten.length w := fun l J Jx W hW _ _ hY h0 => by
  have hc' := (hW.cell (p := ⟨Bs, 0, none⟩) hBs).trans hc
  refine (bytesOf1_in n hn l Bs n₀ pv ls J Jx hY W hc' (hp.below (hW.mono hn₀)) h0).mono ?_
  rintro e W' ⟨he, h | ⟨pre, hpre, hj⟩⟩
  · exact ⟨he, .inl ⟨_, rfl, h⟩⟩
  · exact ⟨he, .inr ⟨_, hpre, hj⟩⟩
end Go.Proofs.Yteanmkejcnkojaa
