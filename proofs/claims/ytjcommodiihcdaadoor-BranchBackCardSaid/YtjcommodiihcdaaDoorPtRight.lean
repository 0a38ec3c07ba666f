/- PtRight -/
import Derived.Test.YtjcommodiihcdaaDoorPtIter
import Derived.Test.YtjcommodiihcdaaDoorVdA
/- Right: may a pointer be? -/
namespace Go.Proofs.YtjcommodiihcdaaDoor
open Go.RowKit Go.Shelf
set_option linter.unusedVariables false
set_option linter.unusedSimpArgs false
attribute [local go_sem] Oper.semAt_some wrap_i64_hI
/-- What holds in the rounds of Right, and how they end early. -/
def InvA (w : World) (Bx Bt : Nat) (x : Pt) (n : Int) (t : Bool) (pre : List (BitVec 16)) (W : World) : Prop :=
  (∀ y ∈ pre, PtM.place y n = true) ∧ Row W (w.heap.size + 1) 3 #[.int .i64 n] ∧ Row W Bt 4 #[.bool t] ∧ Row W Bx 45 (ptA x) ∧ Grows w W
def LeftA (w : World) (Bt : Nat) (n : Int) (cd : Code) (pre : List (BitVec 16)) (W : World) : Prop :=
  (cd = .exit 0 ∧ ∃ y ∈ pre, PtM.place y n = false) ∧ Row W Bt 4 #[.bool false] ∧ Grows w W
theorem place_false {y : BitVec 16} {n : Int} (h : hI y < 4 ∨ n ≤ hI y) : PtM.place y n = false := by
  unfold PtM.place
  rcases h with h | h
  · rw [decide_eq_false (by omega)]; rfl
  · rw [decide_eq_false (p := hI y < n) (by omega), Bool.and_false]
theorem place_true {y : BitVec 16} {n : Int} (h : ¬ hI y < 4) (h2 : ¬ n ≤ hI y) : PtM.place y n = true := by
  unfold PtM.place
  rw [decide_eq_true (by omega), decide_eq_true (p := hI y < n) (by omega)]; rfl
set_option maxRecDepth 100000 in
set_option maxHeartbeats 2000000 in
theorem right_in (nn : Nat) (hn : 4 ≤ nn) (x : Pt) (n : Int) (w : World) :
    CallsIn Fence.wide nn Tryd.prog 49 #[.agg (ptA x), .int .i64 n] w fun e w' => e = .returned (.bool (PtM.right x n)) ∧ Grows w w' := by
  have h1n : 1 ≤ nn := by omega
  have HX : Hid (Row ((w.alloc (.cells (ptA x) 45)).alloc (.cells #[.int .i64 n] 3)) w.heap.size 45 (ptA x)) := (Row.new w 45 (ptA x)).alloc _
  have HN : Hid (Row ((w.alloc (.cells (ptA x) 45)).alloc (.cells #[.int .i64 n] 3)) (w.heap.size + 1) 3 #[.int .i64 n]) := by
    have := Row.new (w.alloc (.cells (ptA x) 45)) 3 #[.int .i64 n]
    rwa [World.size_alloc] at this
  have HG := Lib.hid ((Grows.alloc w (.cells (ptA x) 45)).trans (Grows.alloc _ (.cells #[.int .i64 n] 3)))
  have HR : Hid (PtM.right x n = ((PtM.born x && PtM.second x) && (PtM.wheres x).all fun y => PtM.place y n)) := rfl
  have HA := Lib.hid (fun W => addresses_any x W)
  have H1 := Lib.hid (fun W => born_any x W)
  have H2 := Lib.hid (fun W => second_any x W)
  generalize PtM.right x n = res at *
  obtain ⟨tb, htb⟩ : ∃ tb, PtM.born x = tb := ⟨_, rfl⟩
  obtain ⟨ts, hts⟩ : ∃ ts, PtM.second x = ts := ⟨_, rfl⟩
  rw [htb, hts] at HR
  rw [htb] at H1
  rw [hts] at H2
  clear htb hts
  refine callsIn_of_wp_marks Tryd.func49 rfl trivial ?_ rfl
  simp only [Tryd.ntmps49, List.size_toArray, List.length_cons, List.length_nil, Nat.reduceAdd, Nat.reduceSub, Array.replicate_succ, Array.replicate_zero, List.push_toArray, List.append_toArray, List.nil_append, List.cons_append]
  gi_wp2
  refine wpIn_wide.2 (wp_scope_straight ((wpIn_wide (n := nn)).1 ?_))
  cases tb
  focus
    gi_wp2_with (first
      | ((with_reducible refine wpListIn_does (o := ⟨some 7, _, _, _, _, _⟩) WideF.wide ?_ ?_ (dk_load 45 (.tmp 2) ⟨w.heap.size, 0, none⟩ (.agg (ptA x)) rfl rfl (run_load_pt HX.out) (R := fun v w' => v = .agg (ptA x) ∧ _ = w') ⟨rfl, rfl⟩) ?_); exact rfl; (intro c hc; cases hc); rintro v w' ⟨rfl, rfl⟩)
      | (refine ⟨trivial, ?_⟩; gi_at_call 58; refine (callsIn_wide.2 (H1.out _)).mono ?_; rintro e w2 ⟨rfl, hb2⟩; have HX2 := Lib.hid (Row.grows HX.out hb2); have HN2 := Lib.hid (Row.grows HN.out hb2); have HG2 := Lib.hid (HG.out.trans hb2); clear hb2)
      | (refine ⟨trivial, ?_⟩))
    have HT : Hid (res = (false && (PtM.wheres x).all fun y => PtM.place y n)) := HR.out
    clear HR
    generalize hfl : false = t at HT
    have HTT := Lib.hid hfl.symm
    clear hfl
  rotate_left
  focus
    gi_wp2_with (first
      | ((with_reducible refine wpListIn_does (o := ⟨some 7, _, _, _, _, _⟩) WideF.wide ?_ ?_ (dk_load 45 (.tmp 2) ⟨w.heap.size, 0, none⟩ (.agg (ptA x)) rfl rfl (run_load_pt HX.out) (R := fun v w' => v = .agg (ptA x) ∧ _ = w') ⟨rfl, rfl⟩) ?_); exact rfl; (intro c hc; cases hc); rintro v w' ⟨rfl, rfl⟩)
      | ((with_reducible refine wpListIn_does (o := ⟨some 10, _, _, _, _, _⟩) WideF.wide ?_ ?_ (dk_load 45 (.tmp 2) ⟨w.heap.size, 0, none⟩ (.agg (ptA x)) rfl rfl (run_load_pt HX1.out) (R := fun v w' => v = .agg (ptA x) ∧ _ = w') ⟨rfl, rfl⟩) ?_); exact rfl; (intro c hc; cases hc); rintro v w' ⟨rfl, rfl⟩)
      | (refine ⟨trivial, ?_⟩; gi_at_call 58; refine (callsIn_wide.2 (H1.out _)).mono ?_; rintro e w1 ⟨rfl, hb2⟩; have HX1 := Lib.hid (Row.grows HX.out hb2); have HN1 := Lib.hid (Row.grows HN.out hb2); have HG1 := Lib.hid (HG.out.trans hb2); have c0 := (HX1.out.cell 0).trans (ptA_0 x); have c1 := (HX1.out.cell 1).trans (ptA_1 x); have c2 := (HX1.out.cell 2).trans (ptA_2 x); have c3 := (HX1.out.cell 3).trans (ptA_3 x); have c4 := (HX1.out.cell 4).trans (ptA_4 x); clear hb2)
      | (refine ⟨trivial, ?_⟩; gi_at_call 59; refine (callsIn_wide.2 (H2.out _)).mono ?_; rintro e w2 ⟨rfl, hb2⟩; have HX2 := Lib.hid (Row.grows HX1.out hb2); have HN2 := Lib.hid (Row.grows HN1.out hb2); have HG2 := Lib.hid (HG1.out.trans hb2); clear hb2))
    have HT : Hid (res = (ts && (PtM.wheres x).all fun y => PtM.place y n)) := by have := HR.out; rw [Bool.true_and] at this; exact this
    clear HR
    generalize ts = t at *
  all_goals
    refine wpIn_label ?_
    have HX4 := Lib.hid (HX2.out.alloc (.cells #[.bool t] 4))
    have HN4 := Lib.hid (HN2.out.alloc (.cells #[.bool t] 4))
    have HB4 := Lib.hid (Row.new w2 4 #[.bool t])
    have HG4 := Lib.hid (HG2.out.trans (Grows.alloc w2 (.cells #[.bool t] 4)))
    have HS4 : Hid (w.heap.size + 2 ≤ w2.heap.size) := by have := HN2.out.lt; unfold Hid; omega
    generalize hw4 : w2.alloc (.cells #[.bool t] 4) = w4 at *
    clear hw4
    gi_wp2_with (first
      | ((with_reducible refine wpListIn_does (o := ⟨some 13, _, _, _, _, _⟩) WideF.wide ?_ ?_ (dk_load 45 (.tmp 2) ⟨w.heap.size, 0, none⟩ (.agg (ptA x)) rfl rfl (run_load_pt HX4.out) (R := fun v w' => v = .agg (ptA x) ∧ _ = w') ⟨rfl, rfl⟩) ?_); exact rfl; (intro c hc; cases hc); rintro v w' ⟨rfl, rfl⟩)
      | (refine ⟨trivial, ?_⟩; gi_at_call 60; refine (callsIn_wide.2 (HA.out _)).mono ?_; rintro e w5 ⟨rfl, hx2, hm2, hb2⟩; have HX5 := Lib.hid hx2; have HM5 := Lib.hid hm2; have HN5 := Lib.hid (Row.grows HN4.out hb2); have HB5 := Lib.hid (Row.grows HB4.out hb2); have HG5 := Lib.hid (HG4.out.trans hb2); have HS5 : Hid (w2.heap.size < w4.heap.size) := HB4.out.lt; clear hx2 hm2 hb2))
    rename_i Q1 K aK
    have aK := Lib.hid aK
    refine wpIn_rangeFunc_ownG rfl h1n (gf := 66) (lb := #[.pointer (some ⟨w4.heap.size, 0, none⟩), .pointer (some ⟨w4.heap.size + 1, 0, none⟩)]) rfl trivial (enters_of Tryd.func66 (by kernel_rfl) rfl)
      (addr_stops (nn - 1) (by omega) w4.heap.size (w4.heap.size + 1) x w5 HX5.out HM5.out) (fun h k => KeptAt.t h k) (KeptAt.b HX5.out.lt) (Below.refl _ _) (fun _ => rfl)
      (InvA w w4.heap.size w2.heap.size x n t) (LeftA w w2.heap.size n) ?own ?ownx ?start ?_ ?assign ?body ?done ?stop
    case assign =>
      intro l y W K hK
      gi_wp2
      exact hK
    case own => exact OwnFrom.and (ownFrom_pure _ _) (OwnFrom.and (Own.from (row_stays _ _ _) _) (OwnFrom.and (Own.from (row_stays _ _ _) _) (OwnFrom.and (Own.from (row_stays _ _ _) _) (ownFrom_below (Nat.le_refl _) HG5.out.size))))
    case ownx =>
      intro c
      exact OwnFrom.and (ownFrom_pure _ _) (OwnFrom.and (Own.from (row_stays _ _ _) _) (ownFrom_below (Nat.le_refl _) HG5.out.size))
    case start => exact ⟨fun j hj => by simp at hj, HN5.out, HB5.out, HX5.out, HG5.out⟩
    case body =>
      rintro l pre y W ⟨hok, hi, hb, hx, hB⟩ hlt2
      have cn := hi.cell 0
      have HOk := Lib.hid hok; have HI := Lib.hid hi; have HB := Lib.hid hb; have HXX := Lib.hid hx; have HBB := Lib.hid hB
      have cb := hb.cell 0; have fb := hb.frozen 0
      clear hok hi hb hx hB
      by_cases h4 : hI y < 4
      · gi_wp2
        refine ⟨(KeepsOthers.setCell _ _ _).from _, ⟨rfl, y, by simp, place_false (.inl h4)⟩, HB.out.set 0 _, Below.setCell HBB.out (p := ⟨w2.heap.size, 0, none⟩) (by have := HS4.out; simp; omega) _⟩
      · by_cases h5 : n ≤ hI y
        · gi_wp2
          refine ⟨(KeepsOthers.setCell _ _ _).from _, ⟨rfl, y, by simp, place_false (.inr h5)⟩, HB.out.set 0 _, Below.setCell HBB.out (p := ⟨w2.heap.size, 0, none⟩) (by have := HS4.out; simp; omega) _⟩
        · gi_wp2
          refine ⟨(KeepsOthers.refl _).from _, KeptAt.rows HXX.out HXX.out, fun j hj => ?_, HI.out, HB.out, HXX.out, HBB.out⟩
          rcases List.mem_append.1 hj with hj | hj
          · exact HOk.out j hj
          · rw [List.mem_singleton.1 hj]; exact place_true (by omega) (by omega)
    case done =>
      rintro D0 ys W hD rfl ⟨hok, hi, hb, hx, hB⟩ hK
      refine aK.out _ _ ?_
      clear aK
      have cb := hb.cell 0
      have hall : ((PtM.wheres x).all fun y => PtM.place y n) = true := List.all_eq_true.2 hok
      have hres : res = t := by have := HT.out; rw [hall, Bool.and_true] at this; exact this
      gi_wp2
      refine ⟨by simp, .inl ⟨_, _, rfl, run_takeDeferred hK, ?_⟩⟩
      exact ⟨_, results_tmp rfl _ _ _, by rw [hres]; rfl, Below.trans hB (Grows.put_mark hB hK (by have := HG5.out.size; omega))⟩
    case stop =>
      rintro D0 c pre W hD hpre ⟨⟨rfl, y, hy, hpl⟩, hb, hB⟩ hK
      have hall : ((PtM.wheres x).all fun y => PtM.place y n) = false := by
        rw [Bool.eq_false_iff]
        intro h
        have := List.all_eq_true.1 h y (hpre.subset hy)
        rw [hpl] at this
        cases this
      have hres : res = false := by have := HT.out; rw [hall, Bool.and_false] at this; exact this
      refine wpIn_exit ?_
      refine aK.out _ _ ?_
      clear aK
      have cb := hb.cell 0
      gi_wp2
      refine ⟨by simp, .inl ⟨_, _, rfl, run_takeDeferred hK, ?_⟩⟩
      exact ⟨_, results_tmp rfl _ _ _, by rw [hres]; rfl, Below.trans hB (Grows.put_mark hB hK (by have := HG5.out.size; omega))⟩
theorem right_any (x : Pt) (n : Int) (w : World) : Calls Tryd.prog 49 #[.agg (ptA x), .int .i64 n] w fun e w' => e = .returned (.bool (PtM.right x n)) ∧ Grows w w' :=
  callsIn_wide.1 (right_in 4 (Nat.le_refl _) x n w)
end Go.Proofs.YtjcommodiihcdaaDoor
