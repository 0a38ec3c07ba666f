/- An array of numbers is as it is itself, in the language's '=='. No function of the program. -/
import Derived.ChangeKeysEq
import Derived.WalkKit
import Derived.Handy
import Derived.Carry
import Derived.Laws.Rows
namespace Go.Proofs.Ytfcghkmhcfgfkaa
open Go.RowKit
/-- An array of numbers is as it is itself. -/
theorem eqItems_self {P : Program} (d : Nat) {e : TypeId} {k : IntKind} (he : P.underlying e = some (.int k)) (cs : Array Value) (w : World) : ∀ (is : List Nat), (∀ j ∈ is, ∃ z, cs[j]? = some (.int k z)) → (Op.eqItems (d + 1) e 1 cs cs is).run P w = .ok true w
  | [], _ => by simp [Op.eqItems]
  | j :: is, h => by
    obtain ⟨z, hz⟩ := h j (by simp)
    have hagg : (isAgg e).run P w = .ok false w := by
      unfold isAgg
      rw [Sem.run_bind, run_underlying he w]
      rfl
    have hp : (part e cs (j * 1)).run P w = .ok (.int k z) w := by
      simp [part, hagg, hz]
    have hq := run_equalIn_int (P := P) w d e k k z z he
    have ih := eqItems_self d he cs w is fun j' hj' => h j' (by simp [hj'])
    simp only [Op.eqItems, Sem.run_bind, hp, Result.andThen_ok, hq]
    simpa using ih
theorem run_eql_arr_self {P : Program} {t e : TypeId} {n : Nat} {k : IntKind} {i : TypeInfo} (ht : P.underlying t = some (.array n e)) (he : P.underlying e = some (.int k)) (hi : P.info? e = some i) (hc : P.cellsOf e = 1) (cs : Array Value)
    (h : ∀ j, j < n → ∃ z, cs[j]? = some (.int k z)) (w : World) : (binOp .eql t (.agg cs) (.agg cs)).run P w = .ok (.bool true) w := by
  rw [run_eql_struct, show (10000 : Nat) = 9999 + 1 from rfl, run_equalIn_array w 9999 cs cs ht hi, hc, eqItems_self 9998 he cs w _ fun j hj => h j (by simpa using hj)]
  rfl
end Go.Proofs.Ytfcghkmhcfgfkaa
