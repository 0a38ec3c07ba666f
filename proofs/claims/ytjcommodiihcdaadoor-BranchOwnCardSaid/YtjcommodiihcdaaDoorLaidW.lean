/- LaidW -/
import Derived.Test.YtjcommodiihcdaaDoorPtTake
import Derived.Test.YtjcommodiihcdaaDoorRows
import Derived.ProofKit
import Derived.LaidMore
import Derived.OpenShut
import Derived.Stop.Joined
/- What the rows' word on the table of widths gives: its cells. -/
namespace Go.Proofs.YtjcommodiihcdaaDoor
open Go.ChangeShapes Go.WideShapes Go.ChangeAt Go.RowKit
set_option linter.unusedVariables false
theorem gWid : Tryd.prog.globalNamed "suture/ptr.widths" = some 0 := by kernel_rfl
theorem tWid : (Tryd.prog.globals[0]?).map (·.type) = some 71 := by kernel_rfl
/-- The one listed variable. -/
def laidW : List (String × DataW Unit) := [("suture/ptr.widths", Rows.laid_suture_ptr_widths)]
theorem laidW_door (os : Os) (args : Array Value) : laidMetH Tryd.prog laidW ((World.doorLaid Tryd.prog 400 os).forCall (fun _ _ => 0) ⟨#[], args, []⟩).memory :=
  laidMetH_of_parts3 (fuel := 8) (laidMet_of_run' 8 (by kernel_rfl) (by kernel_rfl)) (by kernel_rfl) (by kernel_rfl)
theorem glob_of_laid {W : World} (h : laidMetH Tryd.prog laidW W) : Glob W := by
  rw [MakeChecks.laidMetH_plain _ _ _ (by kernel_rfl)] at h
  obtain ⟨ps, ⟨g0, t0, cs0, f0, p0, q0, hg0, ht0, hv0, hd0, _, _⟩, _, _⟩ := h
  obtain rfl := Option.some.inj (gWid.symm.trans hg0)
  obtain rfl := Option.some.inj (tWid.symm.trans ht0)
  obtain ⟨xs, m1, rfl, hx1, hlen, hn3, hel⟩ := DataW.trod_array Tryd.underlying71 hd0
  have c3 : Tryd.prog.cellsOf 3 = 1 := by kernel_rfl
  have hmap : xs.map (·.1) = [.lit (.int .i64 1), .lit (.int .i64 2), .lit (.int .i64 2), .lit (.int .i64 4), .lit (.int .i64 8)] := by
    have := congrArg Prod.fst hx1
    unfold Rows.laid_suture_ptr_widths at this
    injection this with this
    exact this.symm
  intro j v hj
  have hlt : j < 5 := (List.getElem?_eq_some_iff.1 hj).1
  have h1 := hel j hlt
  rw [c3, Nat.mul_one, List.getElem?_eq_getElem (by omega)] at h1
  obtain ⟨n, e1, e2, _⟩ := DataW.trod_int Tryd.underlying3 h1
  have e3 : (xs.map (·.1))[j]? = some (.lit (.int .i64 n)) := by
    rw [List.getElem?_map, List.getElem?_eq_getElem (by omega), e2]; rfl
  rw [hmap] at e3
  have e4 : cs0[j]? = some (.int .i64 n) := by
    have h2 := congrArg (fun l => l[0]?) e1
    simp only [List.getElem?_cons_zero] at h2
    rw [List.getElem?_take_of_lt (by omega), List.getElem?_drop, Nat.add_zero, Array.getElem?_toList] at h2
    exact h2
  have h5 := World.var?_cell hg0 hv0 j
  rw [Nat.zero_add, h5, e4]
  rcases j with _ | _ | _ | _ | _ | j
  · simp [widV] at hj e3; rw [← hj, e3]
  · simp [widV] at hj e3; rw [← hj, e3]
  · simp [widV] at hj e3; rw [← hj, e3]
  · simp [widV] at hj e3; rw [← hj, e3]
  · simp [widV] at hj e3; rw [← hj, e3]
  · omega
end Go.Proofs.YtjcommodiihcdaaDoor
