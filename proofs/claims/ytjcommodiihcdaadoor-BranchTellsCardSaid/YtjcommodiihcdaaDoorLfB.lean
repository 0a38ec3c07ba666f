/- LfRight LfBytes LfRightO -/
import Derived.Test.YtjcommodiihcdaaDoorLfA
import Derived.Test.YtjcommodiihcdaaDoorPtRef
import Derived.Test.YtjcommodiihcdaaDoorStr
import Derived.Test.YtjcommodiihcdaaDoorBaseA
import Derived.Test.YtjcommodiihcdaaDoorPtRight
import Derived.Laws.Externs
import Derived.Lib.Bytealg
/- The document's answer for layer 6: may an item be, may items be? -/
namespace Go.Proofs.YtjcommodiihcdaaDoor
open Go.RowKit
set_option linter.unusedVariables false
set_option linter.unusedSimpArgs false
theorem ok_doc (x : It) : LeafM.ok x = ((decide (1 ≤ x.key.length) && decide (x.key.length ≤ 8)) &&
    (if bI x.over.kind = 0 then decide (x.val.length ≤ 16) && decide (x.over = PtM.none) && decide (hI x.size = 0)
     else decide (bI x.over.kind = 3) && decide (x.val.length = 0) && decide (16 < hI x.size) && decide (hI x.size ≤ 600) && PtM.right x.over 256)) := by
  have h0 : bI x.over.kind = 0 ↔ x.over.kind = 0#8 := bI_eq_of (x := x.over.kind) (n := 0) (by decide)
  have h3 : bI x.over.kind = 3 ↔ x.over.kind = 3#8 := bI_eq_of (x := x.over.kind) (n := 3) (by decide)
  have hs : (x.size == 0#16) = decide (hI x.size = 0) := by
    rw [← hI_zero]; rfl
  have hk : (x.over.kind == 3#8) = decide (bI x.over.kind = 3) := by
    rw [Bool.eq_iff_iff]; simp only [beq_iff_eq, decide_eq_true_eq]; exact h3.symm
  unfold LeafM.ok
  rw [hs, hk]
  simp only [h0]
end Go.Proofs.YtjcommodiihcdaaDoor
/- Two rows of bytes, as the library compares them. -/
namespace Go.Proofs.YtjcommodiihcdaaDoor
open Go.RowKit
set_option linter.unusedVariables false
set_option linter.unusedSimpArgs false
def chrs (l : List (BitVec 8)) : List UInt8 := (l.map bI).map fun n => UInt8.ofNat n.toNat
theorem loadBytes_run {P : Program} {w : World} (b : Nat) : ∀ (l : List (BitVec 8)) (o : Nat) (acc : List UInt8), (∀ j x, l[j]? = some x → w.cell? ⟨b, o + j, none⟩ = some (byteV x)) →
    (Extern.Bytes.loadBytes ⟨b, o, none⟩ l.length ⟨acc.toArray⟩).run P w = .ok ⟨(acc ++ chrs l).toArray⟩ w
  | [], o, acc, _ => by
    simp [Extern.Bytes.loadBytes, chrs, Sem.run_pure]
  | x :: l, o, acc, h => by
    have h0 := h 0 x rfl
    rw [Nat.add_zero] at h0
    have ih := loadBytes_run (P := P) (w := w) b l (o + 1) (acc ++ [UInt8.ofNat (bI x).toNat]) (fun j y hy => by
      have := h (j + 1) y (by simpa using hy)
      rwa [show o + (j + 1) = o + 1 + j from by omega] at this)
    rw [List.length_cons, Extern.Bytes.loadBytes, Sem.run_bind, run_load, h0]
    simp only [Result.andThen, byteV, Addr.add_lit]
    rw [show (⟨acc.toArray⟩ : ByteArray).push (bI x).toNat.toUInt8 = ⟨(acc ++ [UInt8.ofNat (bI x).toNat]).toArray⟩ from by simp [ByteArray.push], ih]
    simp [chrs]
theorem bytesOf_run {P : Program} {B : Nat} {w : World} {v : Value} {l : List (BitVec 8)} (h : Bytes B w v l) : (Extern.Bytes.bytesOf v).run P w = .ok (str l) w := by
  have hs : str l = ⟨(chrs l).toArray⟩ := by
    have := strOfNums_data (l.map bI)
    unfold str chrs
    rw [← this]
  obtain ⟨A, cap, rfl, h1, h2, h3⟩ := h
  simp only [List.length_map] at h1 h3 ⊢
  rw [hs]
  by_cases hl : 0 < l.length
  · obtain ⟨b, o, rfl, _, hc⟩ := h3 hl
    have := loadBytes_run (P := P) (w := w) b l o [] (fun j x hx => hc j (byteV x) (by rw [List.getElem?_map, hx]; rfl))
    rw [List.nil_append] at this
    exact this
  · obtain rfl : l = [] := List.length_eq_zero_iff.1 (by omega)
    cases A with
    | none => rfl
    | some a => rfl
/-- How the library compares them. -/
def cmpI (a b : List (BitVec 8)) : Int := Lib.compareBytes (str a).toList (str b).toList
theorem compare_less : ∀ a b : List UInt8, decide (0 ≤ Lib.compareBytes a b) = !Op.bytesLess a b
  | [], [] => rfl
  | [], _ :: _ => rfl
  | _ :: _, [] => rfl
  | x :: a, y :: b => by
    have ih := compare_less a b
    unfold Lib.compareBytes Op.bytesLess
    by_cases h1 : x < y
    · simp [h1]
    · by_cases h2 : y < x
      · have hne : (x == y) = false := by
          rw [beq_eq_false_iff_ne]
          intro e
          rw [e] at h2
          exact UInt8.lt_irrefl _ h2
        simp [h1, h2, hne]
      · have he : x = y := UInt8.le_antisymm (UInt8.not_lt.1 h2) (UInt8.not_lt.1 h1)
        subst he
        simp only [h1, if_false, ih, decide_false, Bool.false_or, BEq.rfl, Bool.true_and]
theorem cmpI_lt (a b : List (BitVec 8)) : decide (0 ≤ cmpI a b) = !LeafM.lt a b := compare_less _ _
theorem bcompare_any (u v : Value) (a b : List (BitVec 8)) (w : World) (hu : Bytes w.heap.size w u a) (hv : Bytes w.heap.size w v b) :
    Calls Tryd.prog 50 #[u, v] w fun e w' => e = .returned (.int .i64 (cmpI a b)) ∧ Grows w w' := by
  have hc : (callFunc 61 #[u, v]).run Tryd.prog w = .ok (.value (.int .i64 (cmpI a b))) w := by
    rw [run_callFunc_extern (fn := Tryd.f61) Tryd.func61 (by kernel_rfl) (by kernel_rfl) (by kernel_rfl) (e := Extern.BytealgCompare.compare) (by kernel_rfl)]
    change (Sem.run Tryd.prog (do pure (goInt (Extern.BytealgCompare.cmp (← Extern.Bytes.bytesOf u) (← Extern.Bytes.bytesOf v)))) w).andThen _ = _
    simp only [Sem.run_bind, Sem.run_pure, Result.andThen, bytesOf_run hu, bytesOf_run hv]
    rw [Lib.cmp_eq]
    unfold cmpI
    rw [ByteArray.toList_eq, ByteArray.toList_eq]
    rfl
  obtain ⟨A, cap, rfl, _⟩ := hu
  obtain ⟨A', cap', rfl, _⟩ := hv
  simp only [List.length_map] at hc ⊢
  generalize a.length = n at *
  generalize b.length = m at *
  go_enter Tryd.func50, Tryd.ntmps50
  go_wp2
  go_ret
  exact ⟨rfl, Grows.refl _⟩
theorem bequal_any (u v : Value) (a b : List (BitVec 8)) (w : World) (hu : Bytes w.heap.size w u a) (hv : Bytes w.heap.size w v b) :
    Calls Tryd.prog 52 #[u, v] w fun e w' => e = .returned (.bool (decide (a = b))) ∧ Grows w w' := by
  have e1 := run_str (P := Tryd.prog) hu 40 5 9 Tryd.underlying40 Tryd.underlying5 Tryd.underlying9
  have e2 := run_str (P := Tryd.prog) hv 40 5 9 Tryd.underlying40 Tryd.underlying5 Tryd.underlying9
  have he : ((str a).toList == (str b).toList) = decide (a = b) := by
    rw [str_beq_toList, Bool.eq_iff_iff]; simp
  have HE := Lib.hid he
  clear he
  obtain ⟨A, cap, rfl, _⟩ := hu
  obtain ⟨A', cap', rfl, _⟩ := hv
  simp only [List.length_map] at e1 e2 ⊢
  generalize a.length = n at *
  generalize b.length = m at *
  go_enter Tryd.func52, Tryd.ntmps52
  go_wp2
  go_ret
  exact ⟨by rw [← HE.out]; rfl, Grows.refl _⟩
end Go.Proofs.YtjcommodiihcdaaDoor
/- Layer 6's own answer: may items be? -/
namespace Go.Proofs.YtjcommodiihcdaaDoor
open Go.RowKit
set_option linter.unusedVariables false
set_option linter.unusedSimpArgs false
theorem LeafM.right_long {l : List It} (h : 6 < l.length) : LeafM.right l = false := by
  unfold LeafM.right
  rw [decide_eq_false (p := l.length ≤ 6) (by omega), Bool.and_false]
theorem LeafM.right_short {l : List It} (h : (List.range l.length).all (LeafM.okAt l) = true) (hl : l.length ≤ 6) : LeafM.right l = true := by
  rw [LeafM.right_end h]; exact decide_eq_true hl
end Go.Proofs.YtjcommodiihcdaaDoor
