/- FlLawM -/
import Derived.Test.YtiagmlokocpboaaFlCrash
import Derived.Test.YtiagmlokocpboaaFlFlip
import Derived.Test.YtiagmlokocpboaaFlSpoil
import Derived.Test.YtiagmlokocpboaaFlSame
import Derived.Test.YtiagmlokocpboaaFlGreat
import Derived.Test.YtiagmlokocpboaaFlWakes
/- What the laws of layer 4 share. -/
namespace Go.Proofs.Ytiagmlokocpboaa
open Go.RowKit
set_option linter.unusedVariables false
set_option linter.unusedSimpArgs false
theorem val_mono (v : Value) : ∀ u (w w' : World), u = v → Grows w w' → u = v := dk_mono v
theorem does_load {P : Program} {ρ : Operand → Value} {o : Oper} {w : World} {R : Value → World → Prop} (ty : TypeId) (x : Operand) (a : Addr) (v : Value) (ho : o.op = .load ty x) (hx : ρ x = .pointer (some a)) (hl : (loadVar ty a).run P w = .ok v w) (hR : R v w) : Does P o ρ w R := dk_load ty x a v ho hx hl hR
def ADisk (d : Dk) (v : Value) (w : World) : Prop := ∃ D, v = .agg D ∧ IsDisk w.heap.size w (.agg D) d
theorem ADisk.mono (d : Dk) : ∀ v w w', ADisk d v w → Grows w w' → ADisk d v w' := fun v w w' ⟨D, e, h⟩ hg => ⟨D, e, h.grows hg⟩
theorem ADisk.is {d : Dk} {v : Value} {w : World} (h : ADisk d v w) : IsDisk w.heap.size w v d := by
  obtain ⟨D, rfl, h⟩ := h
  exact h
theorem yieldsD {w : World} {d : Dk} {e : Ending} {w' : World} (h : ∃ r, e = .returned r ∧ OwnDisk w.heap.size w' r d ∧ Grows w w') : ∃ r, e = .returned r ∧ Grows w w' ∧ ADisk d r w' := by
  obtain ⟨r, h1, h2, h3⟩ := h
  obtain ⟨pv, cv, bv, rfl, o1, o2, o3⟩ := h2
  exact ⟨_, h1, h3, _, rfl, (OwnDisk.disk ⟨_, _, _, rfl, o1, o2, o3⟩)⟩
/-- The same disk twice. -/
theorem same_true {u v : Value} {d : Dk} {w : World} (hu : IsDisk w.heap.size w u d) (hv : IsDisk w.heap.size w v d) : Calls Try.prog 13 #[u, v] w fun e w' => e = .returned (.bool true) ∧ Grows w w' := by
  have := rsame4_any u v d d w hu hv
  rwa [decide_eq_true rfl] at this
theorem same_yields {u v : Value} {d : Dk} {w : World} (hu : IsDisk w.heap.size w u d) (hv : IsDisk w.heap.size w v d) : Calls Try.prog 13 #[u, v] w fun e w' => ∃ r, e = .returned r ∧ Grows w w' ∧ r = .bool true := by
  refine (same_true hu hv).mono ?_
  rintro e w' ⟨rfl, g⟩
  exact ⟨_, rfl, g, rfl⟩
namespace FlM
theorem flipE_ok {d : Dk} {k j : Nat} (hk : k < d.pages.length) (hj : j < 256) : flipE d k j = 0 := by
  unfold flipE
  rw [if_pos (by unfold onDk onPg; simp; omega)]
theorem flipD_ok {d : Dk} {k j : Nat} {p : Pg} (b : BitVec 8) (hk : d.pages[k]? = some p) (hj : j < 256) : flipD d k j b = { d with pages := d.pages.set k (flipP p j b) } := by
  have hl := (List.getElem?_eq_some_iff.1 hk).1
  unfold flipD
  rw [if_pos (by unfold onDk onPg; simp; omega), Int.toNat_natCast, Int.toNat_natCast, hk]
  rfl
theorem flipP_twice (p : Pg) (j : Nat) (b : BitVec 8) (hj : j < p.length) : flipP (flipP p j b) j b = p := by
  unfold flipP
  rw [List.getElem?_set_self hj, List.set_set, Option.getD_some, List.getElem?_eq_getElem hj, Option.getD_some, BitVec.xor_assoc, BitVec.xor_self, BitVec.xor_zero, List.set_getElem_self]
theorem flip_twice {d : Dk} {k j : Nat} {p : Pg} (b : BitVec 8) (hk : d.pages[k]? = some p) (hl : p.length = 256) (hj : j < 256) : flipD (flipD d k j b) k j b = d := by
  have h := (List.getElem?_eq_some_iff.1 hk)
  rw [flipD_ok b hk hj, flipD_ok b (p := flipP p j b) (by simp only; rw [List.getElem?_set_self h.1]) hj, flipP_twice p j b (by omega)]
  simp only [List.set_set]
  rw [← h.2, List.set_getElem_self]
theorem flipE_wrong (d : Dk) (o : Int) : flipE d d.pages.length o = 2 := by
  unfold flipE onDk
  simp
theorem flipE_below (d : Dk) (o : Int) : flipE d (-1) o = 2 := by
  unfold flipE onDk
  simp
theorem flipE_beside (d : Dk) (k : Int) : flipE d k 256 = 2 := by
  unfold flipE onPg
  simp
end FlM
end Go.Proofs.Ytiagmlokocpboaa
