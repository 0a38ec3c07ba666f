/- VdSame -/
import Derived.Test.YtiagmlokocpboaaVdCopy
/- The document's Same: are two disks the same? -/
namespace Go.Proofs.Ytiagmlokocpboaa
open Go.RowKit
set_option linter.unusedVariables false
set_option linter.unusedSimpArgs false
theorem take_step {α : Type} {a b : List α} {k : Nat} (h : a.take k = b.take k) {x : α} (ha : a[k]? = some x) (hb : b[k]? = some x) : a.take (k + 1) = b.take (k + 1) := by
  rw [List.take_add_one, List.take_add_one, h, ha, hb]
end Go.Proofs.Ytiagmlokocpboaa
