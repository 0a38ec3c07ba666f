/- VdevOffAny -/
import Derived.Test.YtiagmlokocpboaaVdLaws
/- VdevOff: a disk that is detached is neither read, written nor flushed, and stays; a full cache takes no more. -/
namespace Go.Proofs.Ytiagmlokocpboaa
open Go.RowKit
set_option linter.unusedVariables false
set_option linter.unusedSimpArgs false
/-- A disk of one's own stays where a disk's own block is written. -/
theorem OwnDisk.form {base : Nat} {w : World} {D : Array Value} {d : Dk} (h : OwnDisk base w (.agg D) d) : ∃ pv cv bv, D = #[pv, cv, bv, .bool d.off] ∧ Own' 40 256 pageE base w pv d.pages ∧ Own' 42 257 writeE base w cv d.cache ∧ Own' 3 1 intE base w bv d.bad := by
  obtain ⟨pv, cv, bv, h0, h1, h2, h3⟩ := h
  simp only [Value.agg.injEq] at h0
  exact ⟨pv, cv, bv, h0, h1, h2, h3⟩
/-- While the cache is filled. -/
def InvO (w : World) (t12 base : Nat) (D : Array Value) (p : Pg) (d : Dk) (pv bv : Value) (c : List (Int × Pg)) (cv : Value) (W : World) : Prop :=
  Row W t12 26 #[pv, cv, bv, .bool false] ∧ Own' 42 257 writeE base W cv c ∧ Own' 40 256 pageE base W pv d.pages ∧ Own' 3 1 intE base W bv d.bad ∧ c.length ≤ 2000 ∧ VdM.mayC d.pages.length c = true ∧
  Row W w.heap.size 26 D ∧ Row W (w.heap.size + 1) 40 (pgA p) ∧ Below w.heap.size w W ∧ base ≤ W.heap.size
def measO (t12 : Nat) (W : World) : Nat := match W.cell? ⟨t12, 1, none⟩ with
  | some (.slice _ n _) => 2000 - n
  | _ => 0
end Go.Proofs.Ytiagmlokocpboaa
