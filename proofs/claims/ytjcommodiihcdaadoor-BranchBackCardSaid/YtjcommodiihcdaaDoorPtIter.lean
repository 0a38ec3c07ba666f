/- PtIter -/
import Derived.Test.YtjcommodiihcdaaDoorPtA
import Derived.Test.YtjcommodiihcdaaDoorBaseA
import Derived.RangeFuncBound
import Derived.RangeFuncCalls
import Derived.RangeFuncLeaves
import Derived.OwnWalkIn
import Derived.TacticsInMore
import Derived.LoopNIn
import Derived.LoopIn
/- A pointer's addresses, one by one. -/
namespace Go.Proofs.YtjcommodiihcdaaDoor
open Go.RowKit
set_option linter.unusedVariables false
set_option linter.unusedSimpArgs false
attribute [local go_sem] Oper.semAt_some wrap_i64_hI
theorem wheres_length (x : Pt) : (PtM.wheres x).length ≤ 2 := by
  unfold PtM.wheres; split; simp; split <;> simp
theorem take_get {α : Type} {L : List α} {k : Nat} {y : α} (h : L[k]? = some y) : L.take (k + 1) = L.take k ++ [y] := by
  rw [List.take_add_one, h]; rfl
set_option maxRecDepth 100000 in
set_option maxHeartbeats 2000000 in
theorem addr1_in (n : Nat) (hn : 1 ≤ n) (l Bx Bm : Nat) (L : List (BitVec 16)) (hL : L.length ≤ 2) (J Jx : List (BitVec 16) → World → Prop)
    (hY : ∀ pre x W, J pre W → pre.length < L.length → YieldAt Fence.wide (n - 1) Tryd.prog l #[.int .i64 (hI x)] W fun e W' =>
      (e = .returned (.bool true) ∧ J (pre ++ [x]) W' ∧ KeptAt Bx W W') ∨ (e = .returned (.bool false) ∧ Jx (pre ++ [x]) W'))
    (W : World) (hx : ∀ k y, L[k]? = some y → W.cell? ⟨Bx, 1 + k, none⟩ = some (.int .u16 (hI y))) (hm : W.cell? ⟨Bm, 0, none⟩ = some (.int .i64 L.length)) (h0 : J [] W) :
    CallsIn Fence.wide n Tryd.prog 66 #[.func (.yield l) #[] #[], .pointer (some ⟨Bx, 0, none⟩), .pointer (some ⟨Bm, 0, none⟩)] W fun e W' => (∃ v, e = .returned v) ∧
      (J L W' ∨ (∃ pre, pre <+: L ∧ Jx pre W')) := by
  have HY := Lib.hid hY
  have HX := Lib.hid hx
  clear hY hx
  have hL2 : (L.length : Int) ≤ 2 := by omega
  refine callsIn_of_wp Tryd.func66 rfl trivial ?_ rfl
  simp only [Tryd.ntmps66, List.size_toArray, List.length_cons, List.length_nil, Nat.reduceAdd, Nat.reduceSub, Array.replicate_succ, Array.replicate_zero, List.push_toArray, List.append_toArray, List.nil_append, List.cons_append]
  gi_wp2
  gi_loopw [10] (fun i wr => ∃ k : Nat, k ≤ L.length ∧ i = .int .i64 k ∧ J (L.take k) wr ∧ KeptAt Bx W wr)
    (fun i _ => L.length - (intOf i).toNat)
  case atStart => exact ⟨0, Nat.zero_le _, rfl, h0, rfl⟩
  case round =>
    obtain ⟨k, hk, rfl, hJk, hkp⟩ := hrel
    by_cases hlk : k < L.length
    · have ey : L[k]? = some L[k] := List.getElem?_eq_getElem hlk
      have HT := Lib.hid (take_get ey)
      have hc := (World.cell?_of_block (a := ⟨Bx, 1 + k, none⟩) hkp).trans (HX.out _ _ ey)
      have HK := Lib.hid hkp
      obtain ⟨fn, tmps, assign, body, hy, hR⟩ := HY.out _ L[k] _ hJk (by simp; omega)
      have HPf := Lib.hid (List.take_prefix (k + 1) L)
      generalize L[k] = x at *
      clear ey hkp
      gi_wp2
      refine hR.mono ?_
      rintro e W3 (⟨rfl, hJ3, hk3⟩ | ⟨rfl, hJx3⟩)
      · gi_wp2
        go_roundw
        case rel => exact ⟨k + 1, by omega, by simp, by rw [HT.out]; exact hJ3, HK.out.t hk3⟩
        case measure => simp [intOf]; omega
      · gi_wp2
        refine bodyPost_ret (results_none rfl _ _ _) rfl ?_
        exact ⟨⟨_, rfl⟩, .inr ⟨_, by have := HPf.out; rw [HT.out] at this; exact this, hJx3⟩⟩
    · obtain rfl : k = L.length := by omega
      gi_wp2
      go_end0
      exact ⟨⟨_, rfl⟩, .inl (by rw [List.take_length] at hJk; exact hJk)⟩
theorem wheres_node {x : Pt} (h : PtM.node x = true) : PtM.wheres x = [x.a, x.b] := by unfold PtM.wheres; rw [if_pos h]
theorem wheres_chain {x : Pt} (h : PtM.node x = false) (hk : bI x.kind = 3) : PtM.wheres x = [x.a] := by
  unfold PtM.wheres; rw [if_neg (by simp [h]), if_pos ((bI_eq_of (n := 3) (by decide)).1 hk)]
theorem wheres_none {x : Pt} (h : PtM.node x = false) (hk : ¬ bI x.kind = 3) : PtM.wheres x = [] := by
  unfold PtM.wheres; rw [if_neg (by simp [h]), if_neg (fun e => hk ((bI_eq_of (n := 3) (by decide)).2 e))]
theorem wheres_get {x : Pt} {k : Nat} {y : BitVec 16} (h : (PtM.wheres x)[k]? = some y) : (ptA x)[1 + k]? = some (.int .u16 (hI y)) := by
  unfold PtM.wheres at h
  split at h
  · rcases k with _ | _ | k
    · simp at h; subst h; rfl
    · simp at h; subst h; rfl
    · simp at h
  · split at h
    · rcases k with _ | k
      · simp at h; subst h; rfl
      · simp at h
    · simp at h
theorem addresses_any (x : Pt) (w : World) : Calls Tryd.prog 60 #[.agg (ptA x)] w fun e w' =>
    e = .returned (.func (.func 66) #[] #[.pointer (some ⟨w.heap.size, 0, none⟩), .pointer (some ⟨w.heap.size + 1, 0, none⟩)]) ∧
      Row w' w.heap.size 45 (ptA x) ∧ Row w' (w.heap.size + 1) 3 #[.int .i64 ((PtM.wheres x).length : Nat)] ∧ Grows w w' := by
  have HX : Hid (Row ((w.alloc (.cells (ptA x) 45)).alloc (.cells #[.int .i64 0] 3)) w.heap.size 45 (ptA x)) := (Row.new w 45 (ptA x)).alloc _
  have HM : Hid (Row ((w.alloc (.cells (ptA x) 45)).alloc (.cells #[.int .i64 0] 3)) (w.heap.size + 1) 3 #[.int .i64 0]) := by
    have := Row.new (w.alloc (.cells (ptA x) 45)) 3 #[.int .i64 0]
    rwa [World.size_alloc] at this
  have HG := Lib.hid ((Grows.alloc w (.cells (ptA x) 45)).trans (Grows.alloc _ (.cells #[.int .i64 0] 3)))
  have HC := Lib.hid (fun W => node_any x W)
  have W1 := Lib.hid (wheres_node (x := x)); have W2 := Lib.hid (wheres_chain (x := x)); have W3 := Lib.hid (wheres_none (x := x))
  generalize PtM.node x = t at *
  go_enter Tryd.func60, Tryd.ntmps60
  have fin : ∀ (m : Nat) W, Row W w.heap.size 45 (ptA x) → Row W (w.heap.size + 1) 3 #[.int .i64 0] → Grows w W → (PtM.wheres x).length = m →
      Row (W.setCell ⟨w.heap.size + 1, 0, none⟩ (.int .i64 m)) w.heap.size 45 (ptA x) ∧ Row (W.setCell ⟨w.heap.size + 1, 0, none⟩ (.int .i64 m)) (w.heap.size + 1) 3 #[.int .i64 ((PtM.wheres x).length : Nat)] ∧ Grows w (W.setCell ⟨w.heap.size + 1, 0, none⟩ (.int .i64 m)) := fun m W h1 h2 h3 hm => by
    refine ⟨h1.far (by simp) _, ?_, Below.setCell h3 (p := ⟨w.heap.size + 1, 0, none⟩) (by simp) _⟩
    rw [hm]
    exact h2.set 0 _
  have FIN := Lib.hid fin
  clear fin
  go_wp2_with (first
    | ((with_reducible refine wpList_load_pt (o := ⟨some 5, _, _, _, _, _⟩) ?_ (.tmp 1) ?_ w.heap.size x ?_ ?_ ?_); exact rfl; exact rfl; exact rfl; exact HX.out)
    | (go_at_call 48; refine (HC.out _).mono ?_; rintro e w2 ⟨rfl, hb2⟩; have HX2 := Lib.hid (Row.grows HX.out hb2); have HM2 := Lib.hid (Row.grows HM.out hb2); have HG2 := Lib.hid (HG.out.trans hb2); have c0 := (HX2.out.cell 0).trans (ptA_0 x); have cm := HM2.out.cell 0; have fm := HM2.out.frozen 0; clear hb2; cases t))
  · rename_i hk
    go_ret
    exact ⟨rfl, FIN.out 1 _ HX2.out HM2.out HG2.out (by rw [W2.out (by trivial) (by simpa using hk)]; rfl)⟩
  · rename_i hk
    go_ret
    exact ⟨rfl, HX2.out, by rw [W3.out (by trivial) (by simpa using hk)]; exact HM2.out, HG2.out⟩
  · go_ret
    exact ⟨rfl, FIN.out 2 _ HX2.out HM2.out HG2.out (by rw [W1.out (by trivial)]; rfl)⟩
theorem addr_stops (n : Nat) (hn : 1 ≤ n) (Bx Bm : Nat) (x : Pt) (w : World) (hx : Row w Bx 45 (ptA x)) (hm : Row w Bm 3 #[.int .i64 ((PtM.wheres x).length : Nat)]) :
    SeqStopsK Fence.wide n Tryd.prog 66 #[.pointer (some ⟨Bx, 0, none⟩), .pointer (some ⟨Bm, 0, none⟩)] (fun y : BitVec 16 => #[Value.int .i64 (hI y)]) (KeptAt Bx) (fun ys => ys = PtM.wheres x) (fun pre => pre <+: PtM.wheres x) (PtM.wheres x).length w := fun l J Jx W hW _ _ hY h0 => by
  refine (addr1_in n hn l Bx Bm (PtM.wheres x) (wheres_length x) J Jx hY W (fun k y h => ((hx.below hW hx.lt).cell (1 + k)).trans (wheres_get h)) ((hm.below hW hm.lt).cell 0) h0).mono ?_
  rintro e W' ⟨he, h | ⟨pre, hpre, hj⟩⟩
  · exact ⟨he, .inl ⟨_, rfl, h⟩⟩
  · exact ⟨he, .inr ⟨_, hpre, hj⟩⟩
end Go.Proofs.YtjcommodiihcdaaDoor
