/- CrcRef -/
import Derived.Test.YtnigflobmiiefaaDoorCrcWakes
/- The document's own answers for layer 1, 'great', and the sums of pages. -/
namespace Go.Proofs.YtnigflobmiiefaaDoor
open Go.RowKit
set_option linter.unusedVariables false
set_option linter.unusedSimpArgs false
attribute [local go_sem] bits_xor_u bits_and_u wrap_u64_bI wrap_u8_uI uI_shr1 uI_shr8 bits_not_u
theorem rstep_at (c b : Int) (x : BitVec 64) (y : BitVec 8) (hx : c = uI x) (hy : b = bI y) (w : World) :
    Calls Tryd.prog 48 #[.int .u64 c, .int .u8 b] w fun e w' => e = .returned (.int .u64 (uI (CrcM.step x y))) ∧ w = w' := by
  subst hx hy; exact rstep_any x y w
theorem tarr_zero : tarr 0 = tz := by
  unfold tarr tz
  rw [tab_const]
  refine tab_ext _ _ _ fun i _ => ?_
  simp [tv, uI]
set_option maxRecDepth 10000 in
set_option maxHeartbeats 1000000 in
theorem rsum_any (v : Value) (ls : List (List (BitVec 8))) (w : World) (hp : Parts w.heap.size w v ls) :
    Calls Tryd.prog 41 #[v] w fun e w' => e = .returned (.int .u64 (uI (CrcM.sum ls.flatten))) ∧ w = w' := by
  obtain ⟨vs, hvl, ⟨A, cap, rfl, hl1, hl2, hcs⟩, hbs⟩ := hp
  unfold maxLen at hl2
  have HN := Lib.hid hvl
  have hvi0 : ∀ i, i < vs.length → ∃ li, ls[i]? = some li := fun i h => ⟨_, List.getElem?_eq_getElem (by omega)⟩
  have HLI := Lib.hid hvi0
  have HS : Hid (CrcM.sum ls.flatten = ~~~CrcM.run (BitVec.allOnes 64) ls.flatten) := rfl
  have hsg : IntKind.u64.signed = false := rfl
  clear hvl hvi0
  have HC := Lib.hid hcs; have HB := Lib.hid hbs
  clear hcs hbs
  go_enter Tryd.func41, Tryd.ntmps41
  go_wp2
  go_loop [3, 4] (fun c i => ∃ k : Nat, k ≤ vs.length ∧ i = .int .i64 k ∧ c = .int .u64 (uI (CrcM.run (BitVec.allOnes 64) (ls.take k).flatten))) (fun _ i => vs.length - (intOf i).toNat)
  case atStart => exact ⟨0, Nat.zero_le _, rfl, rfl⟩
  case round =>
    obtain ⟨i, hi, rfl, rfl⟩ := hrel
    by_cases hlt : i < vs.length
    · obtain ⟨b, o, rfl, hb, hcell⟩ := HC.out (by omega)
      have hvi : vs[i]? = some vs[i] := List.getElem?_eq_getElem hlt
      obtain ⟨li, hli⟩ := HLI.out i hlt
      have hcx : w.cell? ⟨b, o + i, none⟩ = some vs[i] := hcell i _ hvi
      obtain ⟨A', cap', hv', hl1', hl2', hcs'⟩ := HB.out i _ _ hvi hli
      unfold maxLen at hl2'
      rw [hv'] at hcx
      clear hv'
      have HF := Lib.hid (flat_succ ls i _ hli)
      clear hli hvi hcell HC HB HLI
      simp only [List.length_map] at hcx hl1' hcs'
      have HC := Lib.hid hcs'
      clear hcs'
      generalize hc0 : CrcM.run (BitVec.allOnes 64) (ls.take i).flatten = c0 at *
      have HC0 := Lib.hid hc0; clear hc0
      have H0 : Hid (uI c0 = uI (CrcM.run c0 (li.take 0))) := rfl
      go_wp2
      go_loop [3, 5] (fun c i => ∃ k : Nat, k ≤ li.length ∧ i = .int .i64 k ∧ c = .int .u64 (uI (CrcM.run c0 (li.take k)))) (fun _ i => li.length - (intOf i).toNat)
      case atStart => exact ⟨0, Nat.zero_le _, rfl, rfl⟩
      case round =>
        obtain ⟨k, hk, rfl, rfl⟩ := hrel
        by_cases hlk : k < li.length
        · obtain ⟨b', o', rfl, hb', hcell'⟩ := HC.out (by omega)
          have ek : li[k]? = some li[k] := List.getElem?_eq_getElem hlk
          have hck := hcell' k (byteV li[k]) (by simp [hlk])
          have HT := Lib.hid (take_snoc' li k li[k] ek)
          generalize li[k] = x at *
          generalize hc1 : CrcM.run c0 (li.take k) = c1 at *
          have HC1 := Lib.hid hc1
          clear ek hcell' hc1 HC
          unfold byteV at hck
          go_wp2_with (go_at_call 48; (with_reducible refine (rstep_any _ _ _).mono ?_); rintro e w' ⟨rfl, rfl⟩)
          go_round
          case rel => exact ⟨k + 1, by omega, by go_num, by rw [HT.out, CrcM.run_snoc, HC1.out]⟩
          case measure => simp [intOf]; omega
        · obtain rfl : k = li.length := by omega
          have HE : Hid (CrcM.run c0 (li.take li.length) = CrcM.run (BitVec.allOnes 64) (ls.take (i + 1)).flatten) := by
            show _ = _
            rw [List.take_length, HF.out, CrcM.run_append, HC0.out]
          generalize CrcM.run c0 (li.take li.length) = c1 at *
          clear HC
          go_wp2
          go_round
          case rel => exact ⟨i + 1, by omega, by go_num, by rw [HE.out]⟩
          case measure => simp [intOf]; omega
    · obtain rfl : i = vs.length := by omega
      have HE : Hid (CrcM.run (BitVec.allOnes 64) (ls.take vs.length).flatten = CrcM.run (BitVec.allOnes 64) ls.flatten) := by
        show _ = _
        rw [HN.out, List.take_length]
      generalize CrcM.run (BitVec.allOnes 64) (ls.take vs.length).flatten = c1 at *
      clear HC HB HLI
      go_wp2
      go_ret
      exact ⟨by rw [HS.out, ← HE.out]; rfl, rfl⟩
end Go.Proofs.YtnigflobmiiefaaDoor
