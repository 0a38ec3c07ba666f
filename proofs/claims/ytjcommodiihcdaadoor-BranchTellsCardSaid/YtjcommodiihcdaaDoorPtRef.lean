/- PtRef -/
import Derived.Test.YtjcommodiihcdaaDoorPtA
import Derived.Test.YtjcommodiihcdaaDoorBaseA
import Derived.Test.YtjcommodiihcdaaDoorVdA
/- The document's answers for layer 5: which pointers may be, their addresses. -/
namespace Go.Proofs.YtjcommodiihcdaaDoor
open Go.RowKit
set_option linter.unusedVariables false
set_option linter.unusedSimpArgs false
attribute [local go_sem] wrap_i64_hI
theorem node_not3 {x : Pt} (h : PtM.node x = true) : x.kind ≠ 3#8 := by
  unfold PtM.node at h
  intro e
  rw [e] at h
  exact absurd h (by decide)
theorem kind3 (x : Pt) : (bI x.kind == 3) = decide (x.kind = 3#8) := by
  have h := bI_eq_of (x := x.kind) (n := 3) (by decide)
  rw [Bool.eq_iff_iff]; simp only [beq_iff_eq, decide_eq_true_eq]; exact h
theorem right_doc (x : Pt) (n : Int) : PtM.right x n = if PtM.born x = true then (if PtM.place x.a n = true then (if PtM.node x = true then PtM.place x.b n && (hI x.a != hI x.b) else (bI x.kind == 3) && (hI x.b == 0)) else false) else false := by
  rw [hI_bne, hI_zero, kind3]
  unfold PtM.right PtM.second PtM.wheres
  cases PtM.born x
  · simp
  · cases hn : PtM.node x
    · by_cases hk : x.kind = 3#8
      · cases h1 : PtM.place x.a n <;> simp [hk, h1]
      · cases h1 : PtM.place x.a n <;> simp [hk, h1]
    · have hk := node_not3 hn
      cases h1 : PtM.place x.a n <;> cases h2 : PtM.place x.b n <;> simp [hk, h1, h2]
set_option maxHeartbeats 1000000 in
theorem rright_any (x : Pt) (n : Int) (w : World) : Calls Tryd.prog 37 #[.agg (ptA x), .int .i64 n] w fun e w' => e = .returned (.bool (PtM.right x n)) ∧ Grows w w' := by
  have HX := Lib.hid (Row.new w 45 (ptA x))
  have HG := Lib.hid (Grows.alloc w (.cells (ptA x) 45))
  have HR := Lib.hid (right_doc x n)
  have HB : Hid (PtM.born x = (decide (1 ≤ wI x.birth) && decide (wI x.birth ≤ 1073741824))) := rfl
  have HN := Lib.hid (fun W => rnode_any x W)
  have HA := Lib.hid (fun W => place_any x.a n W)
  have HP := Lib.hid (fun W => place_any x.b n W)
  generalize PtM.right x n = res at *
  generalize PtM.born x = tb at *
  by_cases h1 : wI x.birth < 1
  · obtain rfl : tb = false := by rw [HB.out, decide_eq_false (by omega)]; rfl
    obtain rfl : res = false := by rw [HR.out]; rfl
    go_enter Tryd.func37, Tryd.ntmps37
    go_wp2
    go_ret
    exact ⟨rfl, HG.out⟩
  · by_cases h2 : 1073741824 < wI x.birth
    · obtain rfl : tb = false := by rw [HB.out, decide_eq_false (p := wI x.birth ≤ 1073741824) (by omega), Bool.and_false]
      obtain rfl : res = false := by rw [HR.out]; rfl
      go_enter Tryd.func37, Tryd.ntmps37
      go_wp2
      go_ret
      exact ⟨rfl, HG.out⟩
    · obtain rfl : tb = true := by rw [HB.out, decide_eq_true (by omega), decide_eq_true (p := wI x.birth ≤ 1073741824) (by omega)]; rfl
      rw [if_pos rfl] at HR
      generalize PtM.place x.a n = ta at *
      generalize PtM.node x = tn at *
      generalize PtM.place x.b n = tp at *
      have hA' := HA.out
      go_enter Tryd.func37, Tryd.ntmps37
      cases ta
      · obtain rfl : res = false := by rw [HR.out, if_neg (by simp)]
        go_wp2_with (first
          | (go_at_call 51; (with_reducible refine (HA.out _).mono ?_); rintro e w2 ⟨rfl, hb2⟩; have HG2 := Lib.hid (HG.out.trans hb2); clear hb2))
        go_ret
        exact ⟨rfl, HG2.out⟩
      · rw [if_pos rfl] at HR
        cases tn
        · rw [if_neg (by simp)] at HR
          obtain rfl := HR.out
          clear HR
          go_wp2_with (first
            | ((with_reducible refine wpList_load_pt (o := ⟨some 21, _, _, _, _, _⟩) ?_ (.tmp 2) ?_ w.heap.size x ?_ ?_ ?_); exact rfl; exact rfl; exact rfl; exact HX2.out)
            | (go_at_call 51; (with_reducible refine (HA.out _).mono ?_); rintro e w2 ⟨rfl, hb2⟩; have HX2 := Lib.hid (Row.grows HX.out hb2); have HG2 := Lib.hid (HG.out.trans hb2); clear hb2)
            | (go_at_call 36; (with_reducible refine (HN.out _).mono ?_); rintro e w3 ⟨rfl, hb2⟩; have HX3 := Lib.hid (Row.grows HX2.out hb2); have HG3 := Lib.hid (HG2.out.trans hb2); have c0 := (HX3.out.cell 0).trans (ptA_0 x); have c2 := (HX3.out.cell 2).trans (ptA_2 x); clear hb2))
          all_goals (go_ret; exact ⟨by simp [*], HG3.out⟩)
        · rw [if_pos rfl] at HR
          go_wp2_with (first
            | ((with_reducible refine wpList_load_pt (o := ⟨some 21, _, _, _, _, _⟩) ?_ (.tmp 2) ?_ w.heap.size x ?_ ?_ ?_); exact rfl; exact rfl; exact rfl; exact HX2.out)
            | (go_at_call 51; (with_reducible refine (HP.out _).mono ?_); rintro e w4 ⟨rfl, hb2⟩; have HX4 := Lib.hid (Row.grows HX3.out hb2); have HG4 := Lib.hid (HG3.out.trans hb2); have d1 := (HX4.out.cell 1).trans (ptA_1 x); have d2 := (HX4.out.cell 2).trans (ptA_2 x); clear hb2; cases tp)
            | (go_at_call 51; (with_reducible refine (HA.out _).mono ?_); rintro e w2 ⟨rfl, hb2⟩; have HX2 := Lib.hid (Row.grows HX.out hb2); have HG2 := Lib.hid (HG.out.trans hb2); clear hb2)
            | (go_at_call 36; (with_reducible refine (HN.out _).mono ?_); rintro e w3 ⟨rfl, hb2⟩; have HX3 := Lib.hid (Row.grows HX2.out hb2); have HG3 := Lib.hid (HG2.out.trans hb2); have c0 := (HX3.out.cell 0).trans (ptA_0 x); have c2 := (HX3.out.cell 2).trans (ptA_2 x); clear hb2))
          all_goals (go_ret; exact ⟨by rw [HR.out]; rfl, HG4.out⟩)
theorem flat_ints : ∀ l : List Int, l.flatMap intE = l.map (Value.int .i64)
  | [] => rfl
  | a :: l => by rw [List.flatMap_cons, flat_ints l]; rfl
theorem els_new (w : World) (l : List Int) (t : TypeId) (n : Nat) (hn : l.length = n) (cs : Array Value) (hc : cs.toList = l.map (Value.int .i64)) (h : n ≤ maxLen) : Els 1 intE (w.heap.size + 1) (w.alloc (.cells cs t)) (.slice (some ⟨w.heap.size, 0, none⟩) n n) l := by
  subst hn
  refine ⟨fun _ _ => rfl, _, l.length, rfl, Nat.le_refl _, h, fun _ => ⟨w.heap.size, 0, rfl, Nat.lt_succ_self _, ?_⟩⟩
  intro j v hj
  rw [Nat.zero_add, (Row.new w t cs).cell, ← Array.getElem?_toList, hc]
  rw [flat_ints] at hj
  exact hj
end Go.Proofs.YtjcommodiihcdaaDoor
