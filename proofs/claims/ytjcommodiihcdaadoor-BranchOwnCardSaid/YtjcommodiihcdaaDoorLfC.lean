/- LfOwn LfSame LfSameO -/
import Derived.Test.YtjcommodiihcdaaDoorLfA
import Derived.Test.YtjcommodiihcdaaDoorVdA
import Derived.Test.YtjcommodiihcdaaDoorBaseA
import Derived.Test.YtjcommodiihcdaaDoorStr
import Derived.Test.YtjcommodiihcdaaDoorLfB
import Derived.Great.Walk
/- The document's Own for layer 6: items in memory of their own. -/
namespace Go.Proofs.YtjcommodiihcdaaDoor
open Go.RowKit
set_option linter.unusedVariables false
set_option linter.unusedSimpArgs false
theorem Mine.apart {base g : Nat} {w w' : World} {v : Value} {b : List (BitVec 8)} {t : TypeId} {cs : Array Value} (h : Mine base w v b) (hg : w.grownBy w' (some g)) (hr : Row w g t cs) (hne : 5 ≠ t) : Mine base w' v b := by
  have ho : Own' 5 1 (fun x => [byteV x]) base w v b := ⟨fun _ _ => rfl, by rw [flat_bytes]; exact h⟩
  have := (ho.aside hg hr hne).2
  rwa [flat_bytes] at this
end Go.Proofs.YtjcommodiihcdaaDoor
/- The document's Same for layer 6: are two rows of items the same? -/
namespace Go.Proofs.YtjcommodiihcdaaDoor
open Go.RowKit
set_option linter.unusedVariables false
set_option linter.unusedSimpArgs false
theorem its_step {a b : List It} {k : Nat} (h : a.take k = b.take k) {x y : It} (ha : a[k]? = some x) (hb : b[k]? = some y) (e1 : x.key = y.key) (e2 : x.val = y.val) (e3 : x.over = y.over) (e4 : x.size = y.size) : a.take (k + 1) = b.take (k + 1) := by
  obtain rfl : x = y := (It.eq_iff _ _).1 ⟨e1, e2, e3, e4⟩
  rw [List.take_add_one, List.take_add_one, h, ha, hb]
theorem its_ne {a b : List It} {k : Nat} {x y : It} (ha : a[k]? = some x) (hb : b[k]? = some y) (h : x ≠ y) : decide (a = b) = false := by
  refine decide_eq_false fun e => h ?_
  subst e
  rw [ha] at hb
  exact Option.some.inj hb
theorem str_ne {a b : List (BitVec 8)} (h : a ≠ b) : ((str a).toList == (str b).toList) = false := by
  rw [str_beq_toList]; simpa using h
theorem str_eq {a b : List (BitVec 8)} (h : a = b) : ((str a).toList == (str b).toList) = true := by
  rw [str_beq_toList]; simpa using h
end Go.Proofs.YtjcommodiihcdaaDoor
/- Layer 6's own answer: are two rows of items the same? -/
namespace Go.Proofs.YtjcommodiihcdaaDoor
open Go.RowKit
set_option linter.unusedVariables false
set_option linter.unusedSimpArgs false
theorem it_decide (x y : It) : decide (x = y) = (decide (x.key = y.key) && decide (x.val = y.val) && decide (x.over = y.over) && decide (hI x.size = hI y.size)) := by
  have h4 : decide (hI x.size = hI y.size) = decide (x.size = y.size) := by
    rw [Bool.eq_iff_iff]; simp only [decide_eq_true_eq]; exact ⟨fun h => by have := hI_beq x.size y.size; simpa [h] using this.symm, fun h => by rw [h]⟩
  rw [h4, Bool.eq_iff_iff]
  simp only [Bool.and_eq_true, decide_eq_true_eq]
  rw [← It.eq_iff]
  exact ⟨fun h => ⟨⟨⟨h.1, h.2.1⟩, h.2.2.1⟩, h.2.2.2⟩, fun h => ⟨h.1.1.1, h.1.1.2, h.1.2, h.2⟩⟩
end Go.Proofs.YtjcommodiihcdaaDoor
