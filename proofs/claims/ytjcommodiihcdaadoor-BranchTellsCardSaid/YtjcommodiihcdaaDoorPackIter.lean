/- PackIter -/
import Derived.Test.YtjcommodiihcdaaDoorBaseA
import Derived.Test.YtjcommodiihcdaaDoorApp
import Derived.Test.YtjcommodiihcdaaDoorBaseC
import Derived.RangeFuncNested
import Derived.RangeFuncBound
import Derived.RangeFuncCalls
import Derived.RangeFuncLeaves
import Derived.OwnWalkIn
import Derived.TacticsInMore
import Derived.LoopNIn
import Derived.LoopIn
import Derived.Lib.Hide
/- Layer 2's iterators: a number's bytes, the lowest first; a slice's places and bytes. -/
namespace Go.Proofs.YtjcommodiihcdaaDoor
open Go.RowKit
set_option linter.unusedVariables false
set_option linter.unusedSimpArgs false
attribute [local go_sem] Oper.semAt_some wrap_u8_uI
theorem fins_take {n : Nat} (k : Nat) (h : k < n) : (List.finRange n).take (k + 1) = (List.finRange n).take k ++ [⟨k, h⟩] := by
  rw [List.take_add_one]
  have : (List.finRange n)[k]? = some ⟨k, h⟩ := by simp [h]
  rw [this]; rfl
theorem fins_all (n : Nat) : (List.finRange n).take n = List.finRange n := List.take_of_length_le (by simp)
set_option maxRecDepth 100000 in
set_option maxHeartbeats 2000000 in
theorem all1_in (n : Nat) (hn : 1 ≤ n) (l Bs n₀ : Nat) (pv : Value) (b : List (BitVec 8)) (J Jx : List (Fin b.length) → World → Prop)
    (hY : ∀ pre (x : Fin b.length) W, J pre W → pre.length < b.length → YieldAt Fence.wide (n - 1) Tryd.prog l #[.int .i64 (x.val : Int), .int .u8 (bI b[x.val])] W fun e W' =>
      (e = .returned (.bool true) ∧ J (pre ++ [x]) W' ∧ Below n₀ W W') ∨ (e = .returned (.bool false) ∧ Jx (pre ++ [x]) W'))
    (W : World) (hBs : W.cell? ⟨Bs, 0, none⟩ = some pv) (hp : Bytes n₀ W pv b) (h0 : J [] W) :
    CallsIn Fence.wide n Tryd.prog 67 #[.func (.yield l) #[] #[], .pointer (some ⟨Bs, 0, none⟩)] W fun e W' => (∃ v, e = .returned v) ∧
      (J (List.finRange b.length) W' ∨ (∃ pre, pre <+: List.finRange b.length ∧ Jx pre W')) := by
  obtain ⟨A, cap, rfl, hl1, hl2, hcs⟩ := hp
  simp only [List.length_map] at hBs hl1 hcs
  unfold maxLen at hl2
  have HC := Lib.hid hcs
  have HY := Lib.hid hY
  clear hcs hY
  refine callsIn_of_wp Tryd.func67 rfl trivial ?_ rfl
  simp only [Tryd.ntmps67, List.size_toArray, List.length_cons, List.length_nil, Nat.reduceAdd, Nat.reduceSub, Array.replicate_succ, Array.replicate_zero, List.push_toArray, List.append_toArray, List.nil_append, List.cons_append]
  gi_wp2
  gi_loopw [7] (fun i wr => ∃ k : Nat, k ≤ b.length ∧ i = .int .i64 k ∧ J ((List.finRange b.length).take k) wr ∧ Below n₀ W wr)
    (fun i _ => b.length - (intOf i).toNat)
  case atStart => exact ⟨0, Nat.zero_le _, rfl, h0, Below.refl _ _⟩
  case round =>
    obtain ⟨k, hk, rfl, hJk, hnk⟩ := hrel
    by_cases hlk : k < b.length
    · obtain ⟨b', o', rfl, hb', hcell'⟩ := HC.out (by omega)
      have hck := (hnk.cell (p := ⟨b', o' + k, none⟩) hb').trans (hcell' k (byteV b[k]) (by simp [hlk]))
      have HT := Lib.hid (fins_take k hlk)
      obtain ⟨fn, tmps, assign, body, hy, hR⟩ := HY.out _ ⟨k, hlk⟩ _ hJk (by simp; omega)
      generalize hx : b[k] = x at *
      dsimp only at hy
      unfold byteV at hck
      clear hcell' hx
      gi_wp2
      refine hR.mono ?_
      rintro e W3 (⟨rfl, hJ3, hk3⟩ | ⟨rfl, hJx3⟩)
      · gi_wp2
        go_roundw
        case rel => exact ⟨k + 1, by omega, by simp, by rw [HT.out]; exact hJ3, hnk.trans hk3⟩
        case measure => simp [intOf]; omega
      · gi_wp2
        refine bodyPost_ret (results_none rfl _ _ _) rfl ?_
        exact ⟨⟨_, rfl⟩, .inr ⟨_, by have := List.take_prefix (k + 1) (List.finRange b.length); rw [HT.out] at this; exact this, hJx3⟩⟩
    · obtain rfl : k = b.length := by omega
      gi_wp2
      go_end0
      exact ⟨⟨_, rfl⟩, .inl (by rw [fins_all] at hJk; exact hJk)⟩
theorem all_any (v : Value) (A : Option Addr) (len cap : Nat) (w : World) (hv : v = .slice A len cap) :
    Calls Tryd.prog 63 #[v] w fun e w' => e = .returned (.func (.func 67) #[] #[.pointer (some ⟨w.heap.size, 0, none⟩)]) ∧ w.alloc (.cells #[v] 40) = w' := by
  subst hv
  go_enter Tryd.func63, Tryd.ntmps63
  go_wp2
  go_ret
  exact ⟨rfl, rfl⟩
theorem all_stops (n : Nat) (hn : 1 ≤ n) (Bs n₀ : Nat) (pv : Value) (b : List (BitVec 8)) (w : World) (hBs : Bs < w.heap.size) (hn₀ : n₀ ≤ w.heap.size)
    (hc : w.cell? ⟨Bs, 0, none⟩ = some pv) (hp : Bytes n₀ w pv b) :
    SeqStopsK Fence.wide n Tryd.prog 67 #[.pointer (some ⟨Bs, 0, none⟩)] (fun x : Fin b.length => #[Value.int .i64 (x.val : Int), .int .u8 (bI b[x.val])]) (Below n₀) (fun ys => ys = List.finRange b.length) (fun pre => pre <+: List.finRange b.length) b.length w := fun l J Jx W hW _ _ hY h0 => by
  have hc' := (hW.cell (p := ⟨Bs, 0, none⟩) hBs).trans hc
  refine (all1_in n hn l Bs n₀ pv b J Jx hY W hc' (Sl.below hp (hW.mono hn₀)) h0).mono ?_
  rintro e W' ⟨he, h | ⟨pre, hpre, hj⟩⟩
  · exact ⟨he, .inl ⟨_, rfl, h⟩⟩
  · exact ⟨he, .inr ⟨_, hpre, hj⟩⟩
set_option maxRecDepth 100000 in
set_option maxHeartbeats 2000000 in
theorem lowest1_in (n : Nat) (hn : 1 ≤ n) (l Bw Bn : Nat) (k₀ : Nat) (hk₀ : k₀ ≤ 8) (x₀ : BitVec 64) (J Jx : List (BitVec 8) → World → Prop)
    (hY : ∀ pre x W, J pre W → pre.length < k₀ → YieldAt Fence.wide (n - 1) Tryd.prog l #[.int .u8 (bI x)] W fun e W' =>
      (e = .returned (.bool true) ∧ J (pre ++ [x]) W' ∧ KeptAt Bn W W') ∨ (e = .returned (.bool false) ∧ Jx (pre ++ [x]) W'))
    (W : World) (hBw : W.cell? ⟨Bw, 0, none⟩ = some (.int .i64 k₀)) (hBn : W.cell? ⟨Bn, 0, none⟩ = some (.int .u64 (uI x₀))) (h0 : J [] W) :
    CallsIn Fence.wide n Tryd.prog 62 #[.func (.yield l) #[] #[], .pointer (some ⟨Bw, 0, none⟩), .pointer (some ⟨Bn, 0, none⟩)] W fun e W' => (∃ v, e = .returned v) ∧
      (J (Num.bytes x₀ k₀) W' ∨ (∃ pre, pre <+: Num.bytes x₀ k₀ ∧ Jx pre W')) := by
  have HY := Lib.hid hY
  clear hY
  refine callsIn_of_wp Tryd.func62 rfl trivial ?_ rfl
  simp only [Tryd.ntmps62, List.size_toArray, List.length_cons, List.length_nil, Nat.reduceAdd, Nat.reduceSub, Array.replicate_succ, Array.replicate_zero, List.push_toArray, List.append_toArray, List.nil_append, List.cons_append]
  gi_wp2
  gi_loopw [6] (fun i wr => ∃ k : Nat, k ≤ k₀ ∧ i = .int .i64 k ∧ J (Num.bytes x₀ k) wr ∧ wr.cell? ⟨Bn, 0, none⟩ = some (.int .u64 (uI x₀)))
    (fun i _ => k₀ - (intOf i).toNat)
  case atStart => exact ⟨0, Nat.zero_le _, rfl, h0, hBn⟩
  case round =>
    obtain ⟨k, hk, rfl, hJk, hcn⟩ := hrel
    by_cases hlk : k < k₀
    · have HT := Lib.hid (Num.bytes_succ x₀ k)
      obtain ⟨fn, tmps, assign, body, hy, hR⟩ := HY.out _ (Num.byteAt x₀ k) _ hJk (by simpa using hlk)
      have hk8 : k < 8 := by omega
      have hb : uI x₀ / 2 ^ (8 * k) % 256 = bI (Num.byteAt x₀ k) := by
        rw [uI_shr]; unfold Num.byteAt uI bI; rw [BitVec.toNat_setWidth]; omega
      generalize Num.byteAt x₀ k = x at *
      gi_wp2
      refine hR.mono ?_
      rintro e W3 (⟨rfl, hJ3, hk3⟩ | ⟨rfl, hJx3⟩)
      · gi_wp2
        go_roundw
        case rel => exact ⟨k + 1, by omega, by simp, by rw [HT.out]; exact hJ3, (World.cell?_of_block (a := ⟨Bn, 0, none⟩) hk3).trans hcn⟩
        case measure => simp [intOf]; omega
      · gi_wp2
        refine bodyPost_ret (results_none rfl _ _ _) rfl ?_
        refine ⟨⟨_, rfl⟩, .inr ⟨_, ?_, hJx3⟩⟩
        have h1 : Num.bytes x₀ (k + 1) <+: Num.bytes x₀ k₀ := by
          obtain ⟨d, rfl⟩ : ∃ d, k₀ = k + 1 + d := ⟨k₀ - (k + 1), by omega⟩
          unfold Num.bytes
          rw [List.range_add (n := k + 1) (m := d), List.map_append]
          exact List.prefix_append _ _
        rw [HT.out] at h1
        exact h1
    · obtain rfl : k = k₀ := by omega
      gi_wp2
      go_end0
      exact ⟨⟨_, rfl⟩, .inl hJk⟩
theorem lowest_any (x₀ : BitVec 64) (k : Nat) (w : World) :
    Calls Tryd.prog 54 #[.int .u64 (uI x₀), .int .i64 k] w fun e w' =>
      e = .returned (.func (.func 62) #[] #[.pointer (some ⟨w.heap.size + 1, 0, none⟩), .pointer (some ⟨w.heap.size, 0, none⟩)]) ∧ (w.alloc (.cells #[.int .u64 (uI x₀)] 43)).alloc (.cells #[.int .i64 k] 3) = w' := by
  go_enter Tryd.func54, Tryd.ntmps54
  go_wp2
  go_ret
  exact ⟨rfl, rfl⟩
theorem lowest_stops (n : Nat) (hn : 1 ≤ n) (Bw Bn : Nat) (k₀ : Nat) (hk₀ : k₀ ≤ 8) (x₀ : BitVec 64) (w : World) (hw : Bw < w.heap.size) (hn' : Bn < w.heap.size)
    (hBw : w.cell? ⟨Bw, 0, none⟩ = some (.int .i64 k₀)) (hBn : w.cell? ⟨Bn, 0, none⟩ = some (.int .u64 (uI x₀))) :
    SeqStopsK Fence.wide n Tryd.prog 62 #[.pointer (some ⟨Bw, 0, none⟩), .pointer (some ⟨Bn, 0, none⟩)] (fun x : BitVec 8 => #[Value.int .u8 (bI x)]) (KeptAt Bn) (fun ys => ys = Num.bytes x₀ k₀) (fun pre => pre <+: Num.bytes x₀ k₀) k₀ w := fun l J Jx W hW _ _ hY h0 => by
  have h1 := ((hW.cell (p := ⟨Bw, 0, none⟩) (show Bw < _ by omega)).trans hBw)
  have h2 := ((hW.cell (p := ⟨Bn, 0, none⟩) (show Bn < _ by omega)).trans hBn)
  refine (lowest1_in n hn l Bw Bn k₀ hk₀ x₀ J Jx hY W h1 h2 h0).mono ?_
  rintro e W' ⟨he, h | ⟨pre, hpre, hj⟩⟩
  · exact ⟨he, .inl ⟨_, rfl, h⟩⟩
  · exact ⟨he, .inr ⟨_, hpre, hj⟩⟩
end Go.Proofs.YtjcommodiihcdaaDoor
