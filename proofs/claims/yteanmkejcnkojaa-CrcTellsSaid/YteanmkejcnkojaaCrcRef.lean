/- The document's own answers for layer 1, 'great', and the sums of pages. -/
import Derived.Test.YteanmkejcnkojaaCrcWakes
namespace Go.Proofs.Yteanmkejcnkojaa
open Go.RowKit
set_option linter.unusedVariables false
set_option linter.unusedSimpArgs false
attribute [local go_sem] bits_xor_u bits_and_u wrap_u64_bI wrap_u8_uI uI_shr1 uI_shr8 bits_not_u
theorem rstep_at (c b : Int) (x : BitVec 64) (y : BitVec 8) (hx : c = uI x) (hy : b = bI y) (w : World) :
    Calls Try.prog 11 #[.int .u64 c, .int .u8 b] w fun e w' => e = .returned (.int .u64 (uI (CrcM.step x y))) ∧ w = w' := by
  subst hx hy; exact rstep_any x y w
theorem tarr_zero : tarr 0 = tz := by
  unfold tarr tz
  rw [tab_const]
  refine tab_ext _ _ _ fun i _ => ?_
  simp [tv, uI]
set_option maxRecDepth 10000 in
set_option maxHeartbeats 1000000 in
theorem rtable_any (w : World) :
    Calls Try.prog 13 #[] w fun e w' => e = .returned (.agg (tarr 256)) ∧ Below w.heap.size w w' := by
  have hz := fun w => zero_tab w
  go_enter Try.func13, Try.ntmps13
  go_wp2
  go_loopw [2] (fun i wr => ∃ k : Nat, k ≤ 256 ∧ i = .int .i64 k ∧ Row wr (w.heap.size + 1) 29 (tarr k) ∧ Row wr w.heap.size 29 tz ∧ Below w.heap.size w wr) (fun i _ => 256 - (intOf i).toNat)
  case atStart =>
    refine ⟨0, by omega, rfl, ?_, ?_, ?_⟩
    · rw [tarr_zero]; have := Row.new (w.alloc (.cells tz 29)) 29 tz; simpa using this
    · exact (Row.new w 29 tz).alloc _
    · exact ((Below.refl _ w).alloc (Nat.le_refl _) _).alloc (by simp) _
  case round =>
    obtain ⟨k, hk, rfl, hr, hr0, hb⟩ := hrel
    by_cases hlt : k < 256
    · have hf := hr.frozen k
      have hck : wr.cell? ⟨w.heap.size + 1, k, none⟩ = some (tv k k) := by rw [hr.cell, tarr_get _ _ hlt]
      have hT := tarr_set k
      have hT0 : Hid (CrcM.step 0#64 (BitVec.ofNat 8 k) = CrcM.T (BitVec.ofNat 8 k)) := rfl
      have HH := Lib.hid (And.intro hT (And.intro hr hr0)); clear hT hr hr0
      go_wp2_with (go_at_call 11; refine (rstep_at _ _ 0#64 (BitVec.ofNat 8 k) rfl (bI_ofNat k (by omega)).symm _).mono ?_; rintro e w' ⟨rfl, rfl⟩)
      go_roundw
      case rel =>
        obtain ⟨hT, hr, hr0⟩ := HH.out
        refine ⟨k + 1, by omega, by go_num, ?_, ?_, ?_⟩
        · rw [← hT, ← hT0.out]; exact hr.set k _
        · exact hr0.far (by simp) _
        · exact hb.setCell (by simp) _
      case measure => simp [intOf]; omega
    · obtain rfl : k = 256 := by omega
      have hr' := hr
      unfold Row at hr'
      have hR := Lib.hid hr'; clear hr'
      go_wp2_with (first | (refine wpList_load_row rfl 29 (.tmp 1) rfl (w.heap.size + 1) (by exact rfl) 29 (tarr 256) (0, 0) _ (by exact hR.out) Try.underlying29 rfl (by kernel_rfl) ?_) | (refine wpList_store_row rfl 29 (.tmp 0) (.tmp 12) rfl w.heap.size (tarr 256) (by exact rfl) (by exact rfl) 29 tz (by exact hr0) (by kernel_rfl) rfl (tab_one _ _ fun _ _ => rfl) ?_) | (refine bodyPost_ret (results_cell_row (p := 0) (ty := 29) (by exact rfl) _ _ w.heap.size 29 (tarr 256) (0, 0) _ (by exact rfl) (by exact hr0.setRow _) Try.underlying29 rfl (by kernel_rfl)) rfl ?_; exact ⟨rfl, below_setRow hb (Nat.le_refl _) _⟩))

set_option maxRecDepth 10000 in
set_option maxHeartbeats 1000000 in
theorem rsum_any (v : Value) (ls : List (List (BitVec 8))) (w : World) (hp : Parts w.heap.size w v ls) :
    Calls Try.prog 15 #[v] w fun e w' => e = .returned (.int .u64 (uI (CrcM.sum ls.flatten))) ∧ w = w' := by
  obtain ⟨vs, hvl, ⟨A, cap, rfl, hl1, hl2, hcs⟩, hbs⟩ := hp
  unfold maxLen at hl2
  have HN := Lib.hid hvl
  have hvi0 : ∀ i, i < vs.length → ∃ li, ls[i]? = some li := fun i h => ⟨_, List.getElem?_eq_getElem (by omega)⟩
  have HLI := Lib.hid hvi0
  have HS : Hid (CrcM.sum ls.flatten = ~~~CrcM.run (BitVec.allOnes 64) ls.flatten) := rfl
  have hsg : IntKind.u64.signed = false := rfl
  clear hvl hvi0
  have HC := Lib.hid hcs; have HB := Lib.hid hbs
  clear hcs hbs
  go_enter Try.func15, Try.ntmps15
  go_wp2
  go_loop [3, 4] (fun c i => ∃ k : Nat, k ≤ vs.length ∧ i = .int .i64 k ∧ c = .int .u64 (uI (CrcM.run (BitVec.allOnes 64) (ls.take k).flatten))) (fun _ i => vs.length - (intOf i).toNat)
  case atStart => exact ⟨0, Nat.zero_le _, rfl, rfl⟩
  case round =>
    obtain ⟨i, hi, rfl, rfl⟩ := hrel
    by_cases hlt : i < vs.length
    · obtain ⟨b, o, rfl, hb, hcell⟩ := HC.out (by omega)
      have hvi : vs[i]? = some vs[i] := List.getElem?_eq_getElem hlt
      obtain ⟨li, hli⟩ := HLI.out i hlt
      have hcx : w.cell? ⟨b, o + i, none⟩ = some vs[i] := hcell i _ hvi
      obtain ⟨A', cap', hv', hl1', hl2', hcs'⟩ := HB.out i _ _ hvi hli
      unfold maxLen at hl2'
      rw [hv'] at hcx
      clear hv'
      have HF := Lib.hid (flat_succ ls i _ hli)
      clear hli hvi hcell HC HB HLI
      simp only [List.length_map] at hcx hl1' hcs'
      have HC := Lib.hid hcs'
      clear hcs'
      generalize hc0 : CrcM.run (BitVec.allOnes 64) (ls.take i).flatten = c0 at *
      have HC0 := Lib.hid hc0; clear hc0
      have H0 : Hid (uI c0 = uI (CrcM.run c0 (li.take 0))) := rfl
      go_wp2
      go_loop [3, 5] (fun c i => ∃ k : Nat, k ≤ li.length ∧ i = .int .i64 k ∧ c = .int .u64 (uI (CrcM.run c0 (li.take k)))) (fun _ i => li.length - (intOf i).toNat)
      case atStart => exact ⟨0, Nat.zero_le _, rfl, rfl⟩
      case round =>
        obtain ⟨k, hk, rfl, rfl⟩ := hrel
        by_cases hlk : k < li.length
        · obtain ⟨b', o', rfl, hb', hcell'⟩ := HC.out (by omega)
          have ek : li[k]? = some li[k] := List.getElem?_eq_getElem hlk
          have hck := hcell' k (byteV li[k]) (by simp [hlk])
          have HT := Lib.hid (take_snoc' li k li[k] ek)
          generalize li[k] = x at *
          generalize hc1 : CrcM.run c0 (li.take k) = c1 at *
          have HC1 := Lib.hid hc1
          clear ek hcell' hc1 HC
          unfold byteV at hck
          go_wp2_with (go_at_call 11; (with_reducible refine (rstep_any _ _ _).mono ?_); rintro e w' ⟨rfl, rfl⟩)
          go_round
          case rel => exact ⟨k + 1, by omega, by go_num, by rw [HT.out, CrcM.run_snoc, HC1.out]⟩
          case measure => simp [intOf]; omega
        · obtain rfl : k = li.length := by omega
          have HE : Hid (CrcM.run c0 (li.take li.length) = CrcM.run (BitVec.allOnes 64) (ls.take (i + 1)).flatten) := by
            show _ = _
            rw [List.take_length, HF.out, CrcM.run_append, HC0.out]
          generalize CrcM.run c0 (li.take li.length) = c1 at *
          clear HC
          go_wp2
          go_round
          case rel => exact ⟨i + 1, by omega, by go_num, by rw [HE.out]⟩
          case measure => simp [intOf]; omega
    · obtain rfl : i = vs.length := by omega
      have HE : Hid (CrcM.run (BitVec.allOnes 64) (ls.take vs.length).flatten = CrcM.run (BitVec.allOnes 64) ls.flatten) := by
        show _ = _
        rw [HN.out, List.take_length]
      generalize CrcM.run (BitVec.allOnes 64) (ls.take vs.length).flatten = c1 at *
      clear HC HB HLI
      go_wp2
      go_ret
      exact ⟨by rw [HS.out, ← HE.out]; rfl, rfl⟩
end Go.Proofs.Yteanmkejcnkojaa
