/- PackPut -/
import Derived.Test.YtjcommodiihcdaaDoorPackSmall
import Derived.Test.YtjcommodiihcdaaDoorPackIter
import Derived.Test.YtjcommodiihcdaaDoorBaseA
import Derived.BigRegionIn
import Derived.Shelf.Abstract
import Derived.ProofKit
import Derived.OpenShut
/- pack.Put. -/
namespace Go.Proofs.YtjcommodiihcdaaDoor
open Go.RowKit Go.Shelf
set_option linter.unusedVariables false
set_option linter.unusedSimpArgs false
attribute [local go_sem] Oper.semAt_some
set_option maxRecDepth 100000 in
set_option maxHeartbeats 2000000 in
theorem put_in (n : Nat) (hn : 4 ≤ n) (v : Value) (b : List (BitVec 8)) (x : BitVec 64) (width : Int) (w : World) (hv : Bytes w.heap.size w v b) (hl : b.length ≤ 900000) (b1 : -9223372036854775808 ≤ width) (b2 : width ≤ 9223372036854775807) :
    CallsIn Fence.wide n Tryd.prog 42 #[v, .int .u64 (uI x), .int .i64 width] w fun e w' => ∃ r, e = .returned r ∧ Mine w.heap.size w' r (PackM.put b x width) ∧ Grows w w' := by
  have h1 : 1 ≤ n := by omega
  have HV := Lib.hid hv
  obtain ⟨A, cap, rfl, q1, q2, _⟩ := hv
  simp only [List.length_map] at q1 HV ⊢
  unfold maxLen at q2
  have k1 := PackM.wd_lo width
  have k2 := PackM.wd_hi width
  have HI := Lib.hid (fun w => inBounds_any width b1 b2 w)
  have HD := Lib.hid (show PackM.put b x width = b ++ Num.bytes x (PackM.wd width) from rfl)
  generalize PackM.wd width = wd at *
  have q3 : (b.length : Int) ≤ 900000 := by omega
  have q4 : (wd : Int) ≤ 8 := by omega
  refine callsIn_of_wp_marks Tryd.func42 rfl trivial ?_ rfl
  simp only [Tryd.ntmps42, List.size_toArray, List.length_cons, List.length_nil, Nat.reduceAdd, Nat.reduceSub, Array.replicate_succ, Array.replicate_zero, List.push_toArray, List.append_toArray, List.nil_append, List.cons_append]
  gi_wp2_with (first
    | (refine ⟨trivial, ?_⟩; gi_at_call 53; refine (callsIn_wide.2 (HI.out _)).mono ?_; rintro e w1 ⟨rfl, rfl⟩)
    | ((with_reducible refine wpListIn_make_mine (o := ⟨some 15, _, _, _, _, _⟩) ?_ (.const (.int .i64 0)) (.tmp 14) ?_ w.heap.size (b.length + wd) ((b.length : Int) + wd) ?_ ?_ ?_ ?_ ?_ ?_); exact rfl; exact rfl; exact rfl; exact rfl; exact (Int.natCast_add _ _).symm; omega; exact Nat.le_refl _; intro w1 hmk hgm hlt1; have hne1 : some w1.heap.size ≠ (Value.slice (some ⟨w.heap.size, 0, none⟩) 0 (b.length + wd)).ownBlock := by (simp [Value.ownBlock]; omega))
    | (gi_at_builtin; refine wpListIn_append_mine rfl (.tmp 16) (.tmp 17) rfl w.heap.size w.heap.size [] b (by exact hmk.grows (Grows.alloc _ _)) (by exact Sl.below HV.out (hgm.trans (Grows.alloc _ _))) (by simp; omega) (by simp; omega) ?_; intro v2 w2 hv2 hg2 hat2 hf2; rw [List.nil_append] at hv2; obtain ⟨A2, c2, rfl, hc2, hc3⟩ := hv2.form; have bx2 := (Boxed.new w1 40 (.slice (some ⟨w.heap.size, 0, none⟩) 0 (b.length + wd))).kept hg2 (hne1); have hbc := bx2.cell; have hbf := bx2.frozen; have HG2 : Hid ((w1.alloc (.cells #[.slice (some ⟨w.heap.size, 0, none⟩) 0 (b.length + wd)] 40)).grownBy w2 (some w.heap.size)) := hg2; clear hg2 hat2 hf2)
    | (refine ⟨trivial, ?_⟩; gi_at_call 54; refine (callsIn_wide.2 (lowest_any _ _ _)).mono ?_; rintro e w4 ⟨rfl, rfl⟩))
  have hg2 := HG2.out
  have e0 : (Value.slice (some ⟨w.heap.size, 0, none⟩) 0 (b.length + wd)).ownBlock = some w.heap.size := rfl
  have hs2 : w1.heap.size + 1 ≤ w2.heap.size := by have := hg2.size; simpa using this
  have bel2 : Below w.heap.size w w2 := Below.grown (hgm.trans (Grows.alloc _ _)) hg2 (by simp; omega) (fun k hk => by cases hk; omega)
  have bx3 := (bx2.set (.slice A2 b.length c2))
  have hv3 : Mine w.heap.size (w2.setCell ⟨w1.heap.size, 0, none⟩ (.slice A2 b.length c2)) (.slice A2 b.length c2) b := World.ownsRow.kept hv2 (grownBy_setCell' w2 w1.heap.size _) (.inr (bx2.not_row (by decide) hv2).symm)
  have bel3 : Below w.heap.size w (w2.setCell ⟨w1.heap.size, 0, none⟩ (.slice A2 b.length c2)) := bel2.setCell (p := ⟨w1.heap.size, 0, none⟩) (by simp; omega) _
  have hsz3 : (w2.setCell ⟨w1.heap.size, 0, none⟩ (.slice A2 b.length c2)).heap.size = w2.heap.size := by simp
  generalize w2.setCell ⟨w1.heap.size, 0, none⟩ (.slice A2 b.length c2) = w3 at *
  have bn := Boxed.new w3 43 (.int .u64 (uI x))
  have bw := Boxed.new (w3.alloc (.cells #[.int .u64 (uI x)] 43)) 3 (.int .i64 wd)
  have bn := bn.alloc (.cells #[.int .i64 wd] 3)
  have bx4 := (bx3.alloc (.cells #[.int .u64 (uI x)] 43)).alloc (.cells #[.int .i64 wd] 3)
  have hv4 := (World.ownsRow.alloc hv3 (.cells #[.int .u64 (uI x)] 43)).alloc (.cells #[.int .i64 wd] 3)
  have bel4 : Below w.heap.size w ((w3.alloc (.cells #[.int .u64 (uI x)] 43)).alloc (.cells #[.int .i64 wd] 3)) := (bel3.alloc (by omega) _).alloc (by simp; omega) _
  have hsz4 : ((w3.alloc (.cells #[.int .u64 (uI x)] 43)).alloc (.cells #[.int .i64 wd] 3)).heap.size = w2.heap.size + 2 := by simp [hsz3]
  rw [World.size_alloc, hsz3] at bw
  rw [hsz3] at bn
  generalize ((w3.alloc (.cells #[.int .u64 (uI x)] 43)).alloc (.cells #[.int .i64 wd] 3)) = w4 at *
  have HW := Lib.hid bw.cell; have HN := Lib.hid bn.cell; have HS4 := Lib.hid hsz4
  clear hbc hbf bx2 hv2 hg2 HG2 e0 bel2 bel3 bx3 hv3 hsz3 hsz4
  refine wpIn_rangeFunc_ownG rfl h1 (gf := 62) (lb := #[.pointer (some ⟨w2.heap.size + 1, 0, none⟩), .pointer (some ⟨w2.heap.size, 0, none⟩)]) rfl trivial (enters_of Tryd.func62 (by kernel_rfl) rfl)
    (lowest_stops (n - 1) (by omega) (w2.heap.size + 1) w2.heap.size wd k2 x w4 (by rw [HS4.out]; omega) (by rw [HS4.out]; omega) HW.out HN.out) (fun h k => h.t k) (fun W l o o' hl h1 h2 h3 => KeptAt.b (by rw [HS4.out]; omega) W l o o' hl h1 h2 h3) (Below.refl _ _) (fun _ => rfl)
    (fun pre W => (∃ v, Boxed W w1.heap.size 40 v ∧ W.ownsRow w.heap.size 5 1 v (b ++ pre).length ((b ++ pre).map byteV) ∧ True) ∧ Boxed W w2.heap.size 43 (.int .u64 (uI x)) ∧ Below w.heap.size w W)
    (fun _ _ _ => False)
    ?own (fun _ _ _ _ _ hs _ _ => hs) ?start
    (fun y => { tmps := #[Value.slice A b.length cap, Value.int .u64 (uI x), Value.int .i64 wd, undef, undef, undef,
          Value.slice none 0 0, Value.pointer (some { block := w1.heap.size, off := 0 }), .int .u8 (bI y),
          Value.int .i64 width, Value.int .i64 wd, Value.slice A b.length cap,
          Value.int .i64 b.length, Value.int .i64 wd, Value.int .i64 (b.length + wd),
          Value.slice (some { block := w.heap.size, off := 0 }) 0 (b.length + wd),
          Value.slice (some { block := w.heap.size, off := 0 }) 0 (b.length + wd), Value.slice A b.length cap,
          Value.slice A2 b.length c2, Value.int .u64 (uI x), Value.int .i64 wd,
          Value.func (Fn.func 62) #[]
            #[Value.pointer (some { block := w2.heap.size + 1, off := 0 }),
              Value.pointer (some { block := w2.heap.size, off := 0 })],
          .int .u8 (bI y), undef, undef, undef, undef, undef], defers := [] }) ?assign ?body ?done ?stop
  case own => exact OwnFrom.and (Own.from (holdsRow_own w.heap.size w1.heap.size 40 5 1 (fun pre => (b ++ pre).length) (fun pre => (b ++ pre).map byteV) (fun _ _ => True)) _) (OwnFrom.and (Own.from (boxed_stays _ _ _) _) (ownFrom_below (Nat.le_refl _) (by rw [HS4.out]; omega)))
  case start => exact ⟨⟨_, bx4, by simpa using hv4, trivial⟩, bn, bel4⟩
  case assign =>
    intro l y W K hK
    gi_wp2
    exact hK
  case body =>
    rintro l pre y W ⟨⟨v, hv, hrow, _⟩, hbn, hB⟩ hlt
    have hc := hv.cell
    have hle := hB.size
    have hl5 : (b ++ pre).length + [y].length ≤ 1000000 := by simp; omega
    gi_wp2_with (gi_at_builtin; refine wpListIn_append_mine rfl (.tmp 23) (.tmp 25) rfl w.heap.size (W.heap.size + 1) (b ++ pre) [y] (by exact World.ownsRow.alloc hrow _) (by exact Bytes.one W y) hl5 (by simp; omega) ?_; intro v' w5 hown' hgrow _ hf; obtain ⟨g', cap', rfl⟩ := hf (by simp); obtain ⟨hv1, hv2, hr2, hk2, hb2⟩ := hv.appended (by decide) hrow hle (by omega) hown' hgrow; have hbn2 := boxed_aside hbn (B := w1.heap.size) (v' := Value.slice (some ⟨g', 0, none⟩) ((b ++ pre).length + [y].length) cap') (by decide) hrow hgrow (by omega); have hc1 := hv1.cell; have hf1 := hv1.frozen)
    simp only [List.length_append, List.length_cons, List.length_nil, Nat.zero_add] at hk2 hbn2 hv2 hr2 hb2
    refine ⟨hk2.from _, hbn2.trans hbn.symm, ⟨_, hv2, ?_, trivial⟩, hbn2, hB.trans hb2⟩
    rw [← List.append_assoc, List.length_append, List.length_append]
    exact hr2
  case done =>
    rintro D ys W hD rfl ⟨⟨v, hv, hrow, _⟩, hbn, hB⟩ hK
    have hc := hv.cell
    have HS := HS4.out
    clear HS4
    gi_wp2
    refine ⟨by simp, .inl ⟨_, _, rfl, run_takeDeferred hK, ?_⟩⟩
    exact ⟨_, results_tmp rfl _ _ _, v, rfl, by rw [HD.out]; exact ownsRow_putObj hrow _ hK rfl, hB.trans (belowK_b (w := w) (Nat.le_refl _) W D _ _ (by omega) hK rfl rfl)⟩
  case stop =>
    rintro D c pre W _ _ h _
    exact h.elim
theorem put_any (v : Value) (b : List (BitVec 8)) (x : BitVec 64) (width : Int) (w : World) (hv : Bytes w.heap.size w v b) (hl : b.length ≤ 900000) (b1 : -9223372036854775808 ≤ width) (b2 : width ≤ 9223372036854775807) :
    Calls Tryd.prog 42 #[v, .int .u64 (uI x), .int .i64 width] w fun e w' => ∃ r, e = .returned r ∧ Mine w.heap.size w' r (PackM.put b x width) ∧ Grows w w' :=
  callsIn_wide.1 (put_in 4 (Nat.le_refl _) v b x width w hv hl b1 b2)
end Go.Proofs.YtjcommodiihcdaaDoor
