/- CrcSum CrcWakes CrcRef CrcThreeAny CrcPages -/
import Derived.Test.YtjcommodiihcdaaDoorCrcA
import Derived.Test.YtjcommodiihcdaaDoorBaseA
import Derived.BigRegionIn
import Derived.Stop.RegionWithIn
import Derived.Shelf.Abstract
import Derived.ProofKit
import Derived.OpenShut
import Derived.Lib.SlBytesConst
/- crc.Sum, for whatever parts. -/
namespace Go.Proofs.YtjcommodiihcdaaDoor
open Go.RowKit Go.Shelf
set_option linter.unusedVariables false
attribute [local go_sem] Oper.semAt_some bits_xor_u bits_and_u bits_not_u wrap_u64_bI wrap_u8_uI uI_shr1 uI_shr8
end Go.Proofs.YtjcommodiihcdaaDoor
/- 'wakes': what the document says of nine digits, and of nothing. -/
namespace Go.Proofs.YtjcommodiihcdaaDoor
open Go.RowKit
set_option linter.unusedVariables false
def digits : List (BitVec 8) := [49#8, 50#8, 51#8, 52#8, 53#8, 54#8, 55#8, 56#8, 57#8]
theorem sum_of_digits : CrcM.sum ([digits] : List (List (BitVec 8))).flatten = 11051210869376104954#64 := by decide +kernel
theorem sum_of_none : CrcM.sum ([] : List (List (BitVec 8))).flatten = 0#64 := by decide +kernel
theorem step_of_none : CrcM.step 0#64 0#8 = 0#64 := by decide +kernel
end Go.Proofs.YtjcommodiihcdaaDoor
/- The document's own answers for layer 1, 'great', and the sums of pages. -/
namespace Go.Proofs.YtjcommodiihcdaaDoor
open Go.RowKit
set_option linter.unusedVariables false
set_option linter.unusedSimpArgs false
attribute [local go_sem] bits_xor_u bits_and_u wrap_u64_bI wrap_u8_uI uI_shr1 uI_shr8 bits_not_u
theorem tarr_zero : tarr 0 = tz := by
  unfold tarr tz
  rw [tab_const]
  refine tab_ext _ _ _ fun i _ => ?_
  simp [tv, uI]
end Go.Proofs.YtjcommodiihcdaaDoor
/- The law on three rows, as a call. -/
namespace Go.Proofs.YtjcommodiihcdaaDoor
open Go.RowKit
set_option linter.unusedVariables false
set_option linter.unusedSimpArgs false
attribute [local go_sem] uI_beq bI_beq bits_xor_b bits_xor_u cutA_zero Nat.sub_zero
attribute [local go_sem high] sliced_cut
theorem parts_mono (l : List (BitVec 8)) : ∀ v w w', Parts w.heap.size w v [l] → Grows w w' → Parts w'.heap.size w' v [l] := fun _ _ _ h hg => (h.below hg).more (Below.size hg)
theorem val_mono (x : Value) : ∀ (v : Value) (w w' : World), v = x → Grows w w' → v = x := fun _ _ _ h _ => h
theorem bytes_grow {W w : World} {v : Value} {l : List (BitVec 8)} (h : Bytes W.heap.size W v l) (hg : Grows W.drew w) : Bytes w.heap.size w v l := (Sl.below (W := W.drew) h hg).more (show W.drew.heap.size ≤ w.heap.size from Below.size hg)
/-- Three rows combined. -/
def x3 (a b c : List (BitVec 8)) : List (BitVec 8) := List.zipWith (· ^^^ ·) (List.zipWith (· ^^^ ·) a b) c
theorem x3_get (a b c : List (BitVec 8)) (k : Nat) (x y z : BitVec 8) (hx : a[k]? = some x) (hy : b[k]? = some y) (hz : c[k]? = some z) : (x3 a b c)[k]? = some (x ^^^ y ^^^ z) := by
  simp [x3, List.getElem?_zipWith, hx, hy, hz]
end Go.Proofs.YtjcommodiihcdaaDoor
/- 'great', and the sums of pages. -/
namespace Go.Proofs.YtjcommodiihcdaaDoor
open Go.RowKit
set_option linter.unusedVariables false
set_option linter.unusedSimpArgs false
def SomeBool (e : Ending) : Prop := ∃ b, e = .returned (.bool b)
/-- A page in its box, and a row of one part that is it. -/
theorem page_parts (l : List (BitVec 8)) (hl : l.length = 256) (w : World) (t u : TypeId) :
    Parts ((w.alloc (.cells (l.map byteV).toArray t)).alloc (.cells #[.slice (some ⟨w.heap.size, 0, none⟩) 256 256] u)).heap.size ((w.alloc (.cells (l.map byteV).toArray t)).alloc (.cells #[.slice (some ⟨w.heap.size, 0, none⟩) 256 256] u)) (.slice (some ⟨w.heap.size + 1, 0, none⟩) 1 1) [l] := by
  have h0 : Row ((w.alloc (.cells (l.map byteV).toArray t)).alloc (.cells #[.slice (some ⟨w.heap.size, 0, none⟩) 256 256] u)) (w.heap.size + 1) u #[.slice (some ⟨w.heap.size, 0, none⟩) 256 256] := by
    have := Row.new (w.alloc (.cells (l.map byteV).toArray t)) u #[.slice (some ⟨w.heap.size, 0, none⟩) 256 256]
    simpa using this
  refine Parts.of_row (cs := #[.slice (some ⟨w.heap.size, 0, none⟩) 256 256]) [l] h0 h0.lt rfl rfl (by unfold maxLen; omega) ?_
  intro i x l' hx hl'
  obtain rfl : i = 0 := by
    have := (List.getElem?_eq_some_iff.1 hx).1
    simp at this
    exact this
  simp only [List.getElem?_cons_zero, Option.some.injEq] at hx hl'
  subst hx hl'
  have hr := (Row.new w t (l.map byteV).toArray).alloc (.cells #[.slice (some ⟨w.heap.size, 0, none⟩) 256 256] u)
  have := Sl.of_row hr hr.lt 256 (l.map byteV) rfl (by simp [hl]) (by unfold maxLen; omega)
  rw [List.length_map, hl] at this
  exact this
end Go.Proofs.YtjcommodiihcdaaDoor
