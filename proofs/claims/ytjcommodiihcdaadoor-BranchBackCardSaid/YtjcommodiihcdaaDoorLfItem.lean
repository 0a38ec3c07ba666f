/- LfItem -/
import Derived.Test.YtjcommodiihcdaaDoorLfA
import Derived.Test.YtjcommodiihcdaaDoorLfC
import Derived.Test.YtjcommodiihcdaaDoorPackRef2
import Derived.Test.YtjcommodiihcdaaDoorPtTake
/- The document's item for layer 6: the item ahead in a row of bytes. -/
namespace Go.Proofs.YtjcommodiihcdaaDoor
open Go.RowKit
set_option linter.unusedVariables false
set_option linter.unusedSimpArgs false
def noR : Raw := ⟨none, 0, 0, none, 0, 0, PtM.none, 0#16⟩
theorem noR_arr : rawA noR = #[.slice none 0 0, .slice none 0 0, .int .u8 0, .int .u16 0, .int .u16 0, .int .u32 0, .int .u64 0, .int .u16 0] := rfl
theorem tbR_len (b : List (BitVec 8)) (m : Int) : (PackM.tbR b m).length ≤ b.length := by
  unfold PackM.tbR; split
  · rw [List.length_drop]; omega
  · exact Nat.le_refl _
theorem takeR_len (b : List (BitVec 8)) (m : Int) : (PackM.takeR b m).length ≤ b.length := by
  unfold PackM.takeR; split
  · exact Nat.le_refl _
  · rw [List.length_drop]; omega
theorem item_no {b : List (BitVec 8)} (h : ¬ (PackM.tbE b 8 = 0 ∧ PackM.takeE (PackM.tbR b 8) 1 = 0 ∧ (PackM.takeN (PackM.tbR b 8) 1).toNat ≤ 1)) : LeafM.item b = none := by
  unfold LeafM.item; rw [if_neg h]
theorem cells_grown {g : Nat} : ∀ (vs : List Value) (o : Nat) (w : World), w.grownBy (w.setCells g o vs) (some g)
  | [], _, w => ⟨rfl, rfl, rfl, Nat.le_refl _, fun _ _ _ => rfl⟩
  | v :: vs, o, w => by
    have h1 := setCell_grown w g o v
    have h2 := cells_grown (g := g) vs (o + 1) (w.setCell ⟨g, o, none⟩ v)
    exact h1.trans h2
/-- What item tells. -/
def ItemTold (B base : Nat) (W : World) (b : List (BitVec 8)) (r : Raw) (rest : Value) (ok : Bool) : Prop :=
  ok = (LeafM.item b).isSome ∧ ∀ x q, LeafM.item b = some (x, q) → RawOwn base W r x ∧ Bytes B W rest q
def ItemPost (B : Nat) (w : World) (b : List (BitVec 8)) (e : Ending) (w' : World) : Prop := ∃ r rest ok, e = .returned (.tuple #[.agg (rawA r), rest, .bool ok]) ∧ ItemTold B w.heap.size w' b r rest ok ∧ Grows w w'
end Go.Proofs.YtjcommodiihcdaaDoor
