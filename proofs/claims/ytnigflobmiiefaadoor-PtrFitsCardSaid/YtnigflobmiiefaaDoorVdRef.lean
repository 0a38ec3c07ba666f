/- VdRef -/
import Derived.Test.YtnigflobmiiefaaDoorBaseB
import Derived.Test.YtnigflobmiiefaaDoorBaseA
import Derived.BigQuiet
import Derived.Lib.Hide
import Derived.RangeFuncBox
/- The document's answers for layer 3: numbers compared, which disks may be. -/
namespace Go.Proofs.YtnigflobmiiefaaDoor
open Go.RowKit
set_option linter.unusedVariables false
set_option linter.unusedSimpArgs false
/-- What a slice of numbers gives at a place. -/
theorem Els.ints {B : Nat} {W : World} {v : Value} {l : List Int} (h : Els 1 intE B W v l) : ∃ A cap, v = .slice A l.length cap ∧ l.length ≤ cap ∧ cap ≤ maxLen ∧ (0 < l.length → ∃ b o, A = some ⟨b, o, none⟩ ∧ b < B ∧ ∀ j x, l[j]? = some x → W.cell? ⟨b, o + j, none⟩ = some (.int .i64 x)) := by
  obtain ⟨A, cap, hv, h1, h2, h3⟩ := h.form
  refine ⟨A, cap, hv, h1, h2, fun hp => ?_⟩
  obtain ⟨b, o, ha, hb, hr⟩ := h3 hp
  refine ⟨b, o, ha, hb, fun j x hx => ?_⟩
  have := hr j x hx 0 (.int .i64 x) rfl
  simpa using this
theorem take_eq_step {a b : List Int} {k : Nat} (h : a.take k = b.take k) {x : Int} (ha : a[k]? = some x) (hb : b[k]? = some x) : a.take (k + 1) = b.take (k + 1) := by
  rw [List.take_add_one, List.take_add_one, h, ha, hb]
theorem below_drewN' {B : Nat} {a w : World} (h : Below B a w) (n : Nat) : Below B a (w.drewN n) := ⟨h.os, h.tape, h.output, h.size, h.block⟩
/-- The document's Ints. -/
theorem rints_any (u v : Value) (a b : List Int) (w : World) (hu : Els 1 intE w.heap.size w u a) (hv : Els 1 intE w.heap.size w v b) :
    Calls Tryd.prog 25 #[u, v] w fun e w' => e = .returned (.bool (decide (a = b))) ∧ Grows w w' := by
  obtain ⟨A, cap, rfl, q1, q2, q3⟩ := hu.ints
  obtain ⟨A', cap', rfl, r1, r2, r3⟩ := hv.ints
  have HQ := Lib.hid q3; have HR := Lib.hid r3
  clear q3 r3 hu hv
  unfold maxLen at q2 r2
  by_cases hl : a.length = b.length
  · have hl' : (a.length : Int) = b.length := by omega
    have HLL := Lib.hid hl
    go_enter Tryd.func25, Tryd.ntmps25
    go_wp2
    go_loopw [5] (fun i wr => ∃ k : Nat, k ≤ a.length ∧ i = .int .i64 k ∧ a.take k = b.take k ∧ Grows w wr) (fun i _ => a.length - (intOf i).toNat)
    case atStart => exact ⟨0, Nat.zero_le _, rfl, rfl, Grows.refl _⟩
    case round =>
      obtain ⟨k, hk, rfl, ht, hb⟩ := hrel
      have HT := Lib.hid ht; have HB := Lib.hid hb
      clear ht hb
      by_cases hlt : k < a.length
      · obtain ⟨g1, o1, rfl, hg1, hcA⟩ := HQ.out (by omega)
        obtain ⟨g2, o2, rfl, hg2, hcB⟩ := HR.out (by omega)
        have e1 : a[k]? = some a[k] := List.getElem?_eq_getElem hlt
        have e2 : b[k]? = some (b[k]'(by omega)) := List.getElem?_eq_getElem (by omega)
        have hc1 := (Below.cell HB.out (p := ⟨g1, o1 + k, none⟩) hg1).trans (hcA k _ e1)
        have hc2 := (Below.cell HB.out (p := ⟨g2, o2 + k, none⟩) hg2).trans (hcB k _ e2)
        have E1 := Lib.hid e1; have E2 := Lib.hid e2
        generalize a[k] = x at *
        generalize b[k]'(by omega) = y at *
        clear e1 e2 hcA hcB HQ HR
        by_cases hxy : x = y
        · subst hxy
          go_wp2
          go_quiet (fail)
          go_wp2
          go_roundw
          case rel => exact ⟨k + 1, by omega, by go_num, take_eq_step HT.out E1.out E2.out, below_drewN' HB.out _⟩
          case measure => simp [intOf]; omega
        · go_wp2
          go_quiet (fail)
          have hne : Hid ((decide (a = b)) = false) := decide_eq_false fun h => by
            have e1 := E1.out; have e2 := E2.out
            rw [h, e2] at e1
            exact hxy (Option.some.inj e1).symm
          go_wp2
          go_ret
          exact ⟨by rw [hne.out]; rfl, below_drewN' HB.out _⟩
      · obtain rfl : k = a.length := by omega
        go_wp2
        go_ret
        have hd : decide (a = b) = true := decide_eq_true (by have := HT.out; rwa [List.take_length, HLL.out, List.take_length] at this)
        exact ⟨by rw [hd]; rfl, HB.out⟩
  · have hl' : ¬ (a.length : Int) = b.length := by omega
    have HL := Lib.hid hl
    go_enter Tryd.func25, Tryd.ntmps25
    go_wp2
    go_ret
    have hd : decide (a = b) = false := decide_eq_false fun h => HL.out (by rw [h])
    exact ⟨by rw [hd]; rfl, Grows.refl _⟩
end Go.Proofs.YtnigflobmiiefaaDoor
