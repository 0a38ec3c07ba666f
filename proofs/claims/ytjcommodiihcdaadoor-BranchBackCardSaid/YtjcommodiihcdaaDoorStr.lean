/- Str -/
import Derived.Test.YtjcommodiihcdaaDoorBaseA
import Derived.Laws.BytesArg
/- Bytes read as a string. No function of the program. -/
namespace Go.Proofs.YtjcommodiihcdaaDoor
open Go.RowKit
/-- The string of these bytes. -/
def str (l : List (BitVec 8)) : ByteArray := strOfNums (l.map bI)
theorem chr_inj {x y : BitVec 8} (h : UInt8.ofNat (bI x).toNat = UInt8.ofNat (bI y).toNat) : x = y := by
  have e : ∀ z : BitVec 8, (UInt8.ofNat (bI z).toNat).toNat = z.toNat := fun z => by
    unfold bI
    simp
  have h2 := congrArg UInt8.toNat h
  rw [e, e] at h2
  exact BitVec.eq_of_toNat_eq h2
theorem chrs_inj : ∀ {a b : List (BitVec 8)}, (a.map bI).map (fun n => UInt8.ofNat n.toNat) = (b.map bI).map (fun n => UInt8.ofNat n.toNat) → a = b
  | [], [], _ => rfl
  | [], _ :: _, h => by simp at h
  | _ :: _, [], h => by simp at h
  | x :: a, y :: b, h => by
    simp only [List.map_cons, List.cons.injEq] at h
    rw [chr_inj h.1, chrs_inj h.2]
theorem str_inj {a b : List (BitVec 8)} (h : str a = str b) : a = b := by
  have h1 := congrArg (fun s : ByteArray => s.data.toList) h
  simp only [str, strOfNums_data] at h1
  exact chrs_inj h1
theorem str_beq_toList (a b : List (BitVec 8)) : ((str a).toList == (str b).toList) = (a == b) := by
  rw [ByteArray.toList_eq, ByteArray.toList_eq, Bool.eq_iff_iff]
  simp only [beq_iff_eq]
  exact ⟨fun h => chrs_inj (by simpa [str, strOfNums_data] using h), fun h => by rw [h]⟩
theorem str_beq (a b : List (BitVec 8)) : (str a == str b) = (a == b) := by rw [beq_toListBytes, str_beq_toList]
/-- 'string(b)' on bytes that are known. -/
theorem run_str {P : Program} {B : Nat} {w : World} {v : Value} {l : List (BitVec 8)} (h : Bytes B w v l) (src e dst : TypeId) (hs : P.underlying src = some (.slice e)) (he : P.underlying e = some (.int .u8)) (hd : P.underlying dst = some .string) :
    (convert src dst v).run P w = .ok (.string (str l)) w := by
  obtain ⟨A, cap, rfl, h1, h2, h3⟩ := h
  simp only [List.length_map] at h1 h3 ⊢
  by_cases hl : 0 < l.length
  · obtain ⟨b, o, rfl, _, hc⟩ := h3 hl
    refine run_convert_bytes_arg w src e hs he b o l.length cap (l.map bI) (by simp) (fun i hi => ?_) dst hd
    rw [hc i (byteV l[i]) (by simp [hi])]
    simp [byteV, List.getD, hi]
  · obtain rfl : l = [] := List.length_eq_zero_iff.1 (by omega)
    cases A with
    | none => exact run_convert_bytes_nil w src e hs he 0 cap dst hd
    | some a =>
      obtain ⟨b, o, f⟩ := a
      have hl0 : (loadCells ⟨b, o, f⟩ 0).run P w = .ok (([] : List Int).map (Value.int .u8)).toArray w := by
        have := run_loadCells_list (P := P) w ⟨b, o, f⟩ [] (fun j v hj => by simp at hj)
        simpa using this
      show (convert src dst (.slice (some ⟨b, o, f⟩) 0 cap)).run P w = _
      rw [run_convert_bytes_string w src dst e _ 0 cap hs he hd, run_bytesToString w _ 0 cap [] hl0]
      rfl
end Go.Proofs.YtjcommodiihcdaaDoor
