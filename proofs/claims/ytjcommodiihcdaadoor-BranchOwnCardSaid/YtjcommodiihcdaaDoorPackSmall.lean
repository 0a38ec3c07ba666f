/- PackSmall -/
import Derived.Test.YtjcommodiihcdaaDoorApp
import Derived.Test.YtjcommodiihcdaaDoorStr
import Derived.Test.YtjcommodiihcdaaDoorBaseC
import Derived.Lib.SliceRun
/- Layer 2's small functions: widths, copies, rows compared. -/
namespace Go.Proofs.YtjcommodiihcdaaDoor
open Go.RowKit
set_option linter.unusedVariables false
set_option linter.unusedSimpArgs false
attribute [local go_sem] str_beq str_beq_toList
theorem inBounds_any (n : Int) (h1 : -9223372036854775808 ≤ n) (h2 : n ≤ 9223372036854775807) (w : World) :
    Calls Tryd.prog 53 #[.int .i64 n] w fun e w' => e = .returned (.int .i64 (PackM.wd n)) ∧ w = w' := by
  by_cases a : n < 1
  · have hw : Hid ((PackM.wd n : Int) = 1) := by unfold Hid PackM.wd; rw [if_pos a]; rfl
    go_enter Tryd.func53, Tryd.ntmps53
    go_wp2
    go_ret
    exact ⟨by rw [hw.out]; first | rfl | (refine congrArg (fun z => Ending.returned (Value.int IntKind.i64 z)) (a₁ := min (max n 1) 8) ?_; omega), rfl⟩
  · by_cases b : 8 < n
    · have hw : Hid ((PackM.wd n : Int) = 8) := by unfold Hid PackM.wd; rw [if_neg a, if_pos b]; rfl
      go_enter Tryd.func53, Tryd.ntmps53
      go_wp2
      go_ret
      exact ⟨by rw [hw.out]; first | rfl | (refine congrArg (fun z => Ending.returned (Value.int IntKind.i64 z)) (a₁ := min (max n 1) 8) ?_; omega), rfl⟩
    · have hw : Hid ((PackM.wd n : Int) = n) := PackM.wd_id n (by omega) (by omega)
      go_enter Tryd.func53, Tryd.ntmps53
      go_wp2
      go_ret
      exact ⟨by rw [hw.out]; first | rfl | (refine congrArg (fun z => Ending.returned (Value.int IntKind.i64 z)) (a₁ := min (max n 1) 8) ?_; omega), rfl⟩
theorem wide_any (n : Int) (h1 : -9223372036854775808 ≤ n) (h2 : n ≤ 9223372036854775807) (w : World) :
    Calls Tryd.prog 55 #[.int .i64 n] w fun e w' => e = .returned (.int .i64 (PackM.wd n)) ∧ w = w' := by
  by_cases a : n < 1
  · have hw : Hid ((PackM.wd n : Int) = 1) := by unfold Hid PackM.wd; rw [if_pos a]; rfl
    go_enter Tryd.func55, Tryd.ntmps55
    go_wp2
    go_ret
    exact ⟨by rw [hw.out]; first | rfl | (refine congrArg (fun z => Ending.returned (Value.int IntKind.i64 z)) (a₁ := min (max n 1) 8) ?_; omega), rfl⟩
  · by_cases b : 8 < n
    · have hw : Hid ((PackM.wd n : Int) = 8) := by unfold Hid PackM.wd; rw [if_neg a, if_pos b]; rfl
      go_enter Tryd.func55, Tryd.ntmps55
      go_wp2
      go_ret
      exact ⟨by rw [hw.out]; first | rfl | (refine congrArg (fun z => Ending.returned (Value.int IntKind.i64 z)) (a₁ := min (max n 1) 8) ?_; omega), rfl⟩
    · have hw : Hid ((PackM.wd n : Int) = n) := PackM.wd_id n (by omega) (by omega)
      go_enter Tryd.func55, Tryd.ntmps55
      go_wp2
      go_ret
      exact ⟨by rw [hw.out]; first | rfl | (refine congrArg (fun z => Ending.returned (Value.int IntKind.i64 z)) (a₁ := min (max n 1) 8) ?_; omega), rfl⟩
theorem clone_any (v : Value) (l : List (BitVec 8)) (w : World) (hv : Bytes w.heap.size w v l) (hl : l.length ≤ 1000000) :
    Calls Tryd.prog 40 #[v] w fun e w' => ∃ r, e = .returned r ∧ Mine w.heap.size w' r l ∧ Grows w w' := by
  have HV := Lib.hid hv
  obtain ⟨A, cap, rfl, h1, h2, h3⟩ := hv
  simp only [List.length_map] at h1 h3 ⊢
  unfold maxLen at h2
  cases A with
  | none =>
    have hl0 : l = [] := by
      by_cases hp : 0 < l.length
      · obtain ⟨_, _, h, _⟩ := h3 hp; cases h
      · exact List.length_eq_zero_iff.1 (by omega)
    subst hl0
    clear h3 HV
    have hq := fun W => Lib.run_eql_slice_nil (P := Tryd.prog) W 40 5 none 0 cap 0 0 Tryd.underlying40
    go_enter Tryd.func40, Tryd.ntmps40
    go_wp2
    go_ret
    exact ⟨_, rfl, Mine.nil _ _, Grows.refl _⟩
  | some a =>
    have hq := fun W => Lib.run_eql_slice_nil (P := Tryd.prog) W 40 5 (some a) l.length cap 0 0 Tryd.underlying40
    have hv0 : Bytes w.heap.size (w.alloc (.cells #[] 5)) (.slice (some a) l.length cap) l := by
      have := HV.out
      rw [List.length_map] at this
      exact Sl.below this (Grows.alloc w _)
    have H3 := Lib.hid hv0
    clear h3 hv0
    go_enter Tryd.func40, Tryd.ntmps40
    go_wp2_with (at_builtin; refine wpList_append_empty rfl (.tmp 5) (.tmp 6) rfl w.heap.size w.heap.size l (by exact rfl) (Row.new w _ _) (by exact H3.out) hl ?_; intro v' w1 hg1 hm1)
    go_ret
    exact ⟨_, rfl, hm1, (Grows.alloc w _).trans hg1⟩
end Go.Proofs.YtjcommodiihcdaaDoor
