/- VdvOwn -/
import Derived.Test.YtnigflobmiiefaaDoorBaseA
import Derived.Test.YtnigflobmiiefaaDoorVdGreat
import Derived.Lib.AppendZerosOnto
import Derived.Shelf.Spec.SlicesGrow
import Derived.Laws.CopyOwn
import Derived.Laws.Tables
/- slices.Grow from nil; vdev.own: a list, and more behind it, in memory of its own. -/
namespace Go.Proofs.YtnigflobmiiefaaDoor
open Go.RowKit
set_option linter.unusedVariables false
set_option linter.unusedSimpArgs false
section
variable {α : Type} {s : Nat} {f : α → List Value}
/-- A fresh row of noughts of which nothing is in the slice. -/
theorem own_fresh {e : TypeId} {base : Nat} {w w' : World} {cs : Array Value} {G : Nat} (hb : base ≤ w.heap.size) (hw : w' = w.drew.alloc (.cells cs e)) (h1 : G ≤ maxLen) (h2 : cs.size = G * s) :
    Own' (α := α) e s f base w' (.slice (some ⟨w.heap.size, 0, none⟩) 0 G) [] := by
  subst hw
  refine ⟨fun _ h => by simp at h, by simp, .inr ⟨w.heap.size, G, cs, rfl, hb, Row.new w.drew e cs, Nat.zero_le _, h1, h2, by simp⟩⟩
end
end Go.Proofs.YtnigflobmiiefaaDoor
