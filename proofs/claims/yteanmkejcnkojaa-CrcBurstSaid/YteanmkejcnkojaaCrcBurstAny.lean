/- The law on bursts, as a call. -/
import Derived.Test.YteanmkejcnkojaaCrcThreeAny
import Derived.Test.YteanmkejcnkojaaCrcBurstMath
import Derived.Deep.AppendLies
namespace Go.Proofs.Yteanmkejcnkojaa
open Go.RowKit
set_option linter.unusedVariables false
set_option linter.unusedSimpArgs false
attribute [local go_sem] uI_beq bI_beq bits_xor_b bits_xor_u uI_bne
set_option maxHeartbeats 1000000 in
set_option maxRecDepth 100000 in
theorem crcBurst_any (v : Value) (s : List (BitVec 8)) (at_ : Int) (by_ : List (BitVec 8)) (w : World) (hs : Bytes w.heap.size w v s) (a1 : -9223372036854775808 ≤ at_) (a2 : at_ ≤ 9223372036854775807) (hby : by_.length = 8) :
    Calls Try.prog 5 #[v, .int .i64 at_, .agg (by_.map byteV).toArray] w fun e w' => e = .returned (.bool true) ∧ Below w.heap.size w w' := by
  have HS := Lib.hid hs
  obtain ⟨A, cap, rfl, h1, h2, h3⟩ := hs
  simp only [List.length_map] at h1 h3
  unfold maxLen at h2
  simp only [List.length_map]
  have H3 := Lib.hid h3
  have HBY := Lib.hid hby
  clear h3 hby
  by_cases hgt : 3000 < s.length
  · go_enter Try.func5, Try.ntmps5
    go_wp2_with (go_at_call 9; refine (wakes_any _).mono ?_; rintro e w2 ⟨rfl, hb2⟩)
    go_ret
    exact ⟨rfl, (Grows.alloc w _).trans hb2⟩
  · by_cases hz : s.length = 0
    · have hz1 : ((s.length : Int) == 0) = true := by rw [beq_iff_eq]; omega
      go_enter Try.func5, Try.ntmps5
      go_wp2_with (go_at_call 9; refine (wakes_any _).mono ?_; rintro e w2 ⟨rfl, hb2⟩)
      go_ret
      exact ⟨rfl, (Grows.alloc w _).trans hb2⟩
    · have hz1 : ((s.length : Int) == 0) = false := by rw [beq_eq_false_iff_ne]; omega
      obtain ⟨⟨m1, m2⟩, p, hp, e1⟩ := into' at_ s.length (by omega)
      have hpos : (1 : Int) ≤ s.length := by omega
      obtain ⟨i0, hi, hz0, hz1', hz2⟩ := info_parts (show (Try.prog.info? 5).map (fun i => (i.zero, i.size, i.bytes)) = some (some (.int .u8 0), 1, 1) by kernel_rfl)
      have e2 : at_.tmod s.length % (s.length : Int) = p := by rw [← e1]; simp
      obtain ⟨g1, o1, rfl, hg1, hcA⟩ := H3.out (by omega)
      have hown0 : ((w.alloc (.cells (by_.map byteV).toArray 36)).alloc (.cells #[] 5)).ownsRow w.heap.size 5 1 (.slice (some ⟨w.heap.size + 1, 0, none⟩) 0 0) 0 [] :=
        ⟨rfl, .inr ⟨w.heap.size + 1, 0, #[], rfl, by omega, heap_alloc2_new w _ _, Nat.le_refl _, Nat.zero_le _, rfl, rfl⟩⟩
      have hby0 : Row ((w.alloc (.cells (by_.map byteV).toArray 36)).alloc (.cells #[] 5)) w.heap.size 36 (by_.map byteV).toArray := (Row.new w _ _).alloc _
      have hb0 : Grows w ((w.alloc (.cells (by_.map byteV).toArray 36)).alloc (.cells #[] 5)) := (Grows.alloc w _).trans (Grows.alloc _ _)
      have hsz0 : w.heap.size ≤ ((w.alloc (.cells (by_.map byteV).toArray 36)).alloc (.cells #[] 5)).heap.size := hb0.size
      have O0 := Lib.hid hown0; have B0 := Lib.hid hby0; have G0 := Lib.hid hb0; have C0 := Lib.hid hcA; have E1 := Lib.hid e1
      clear hown0 hby0 hb0 hcA e1
      go_enter Try.func5, Try.ntmps5
      go_wp2_with (at_builtin; refine wpList_append_own _ rfl (.tmp 29) (.tmp 30) 34 rfl w.heap.size 5 i0 (.int .u8 0) 1 1 Try.underlying34 hi hz0 hz1' hz2 rfl (by decide) _ _ _ rfl O0.out ⟨g1, o1, none⟩ s.length cap (s.map byteV) rfl (by simp) (fun j u hu => by rw [add_lit]; exact ((G0.out).cell (C0.out j u hu))) (by simp [byteV, Value.oneCell']) (by unfold maxLen; omega) (by omega) hsz0 ?_; intro v' w1 hownA hgrowA _)
      have hown1 : w1.ownsRow w.heap.size 5 1 v' s.length (s.map byteV) := by simpa using hownA
      have hgrow1 : ((w.alloc (.cells (by_.map byteV).toArray 36)).alloc (.cells #[] 5)).grownBy w1 (some (w.heap.size + 1)) := hgrowA
      clear hownA hgrowA
      obtain ⟨g, cp, rfl, hgw, hglt⟩ := hown1.form (by omega)
      have hby1 : Row w1 w.heap.size 36 (by_.map byteV).toArray := B0.out.grown hgrow1 (by simp)
      have hgne := own_ne_row hown1 hby1 (by decide)
      have hb1 : Below w.heap.size w w1 := Below.grown G0.out hgrow1 hsz0 (fun k hk => by cases hk; omega)
      have HL := Lib.hid (CrcM.burst_zero s p by_ (Nat.le_of_lt hp))
      have hpp : (p : Int) < s.length := by omega
      clear O0 B0 hgrow1
      go_loopw [8, 9] (fun c i wr => ∃ k : Nat, k ≤ 8 ∧ p + k ≤ s.length ∧ i = .int .i64 k ∧ c = .bool (CrcM.chg k by_) ∧ wr.ownsRow w.heap.size 5 1 (.slice (some ⟨g, 0, none⟩) s.length cp) s.length ((CrcM.burst s p k by_).map byteV) ∧ Row wr w.heap.size 36 (by_.map byteV).toArray ∧ Below w.heap.size w wr) (fun _ i _ => 8 - (intOf i).toNat)
      case atStart => exact ⟨0, by omega, by omega, rfl, rfl, by rw [HL.out]; exact hown1, hby1, hb1⟩
      case round =>
        obtain ⟨k, hk, hpk, rfl, rfl, hown, hby, hbr⟩ := hrel
        clear hown1 hby1 hb1
        by_cases hlt : k < 8 ∧ p + k < s.length
        · obtain ⟨hk8, hkn⟩ := hlt
          have hbl := HBY.out
          have ex : s[p + k]? = some (s[p + k]'hkn) := List.getElem?_eq_getElem hkn
          have eb : by_[k]? = some (by_[k]'(by omega)) := List.getElem?_eq_getElem (by omega)
          have ec := CrcM.chg_snoc k by_ _ eb
          have es := CrcM.burst_set s p k by_ _ _ ex eb
          have eg := CrcM.burst_get s p k by_ _ ex (by omega)
          have c1 : wr.cell? ⟨g, p + k, none⟩ = some (byteV (s[p + k]'hkn)) := by rw [hown.cellAt _ (by omega), List.getElem?_map, eg]; rfl
          have c2 : wr.cell? ⟨w.heap.size, k, none⟩ = some (byteV (by_[k]'(by omega))) := by rw [hby.cell]; simp [eb]
          have c3 := hown.frozenAt (p + k)
          generalize s[p + k]'hkn = x at *
          generalize by_[k]'(by omega) = b at *
          have EC := Lib.hid ec; have ES := Lib.hid es
          clear ex eb ec es eg hbl H3
          unfold byteV at c1 c2
          generalize hchg : CrcM.chg k by_ = c at *
          clear hchg
          have hI1 : ((p : Int) + k < s.length) := by omega
          have hI2 : ((k : Int) < 8) := by omega
          have hI3 : (0 : Int) ≤ (p : Int) + k := by omega
          have w6 : IntKind.i64.wrap ((p : Int) + k) = (p : Int) + k := IntWalk.i64_in _ (by omega)
          have w7 : ((p : Int) + k).toNat = p + k := by omega
          have hst := hown.stored (p + k) (Value.int .u8 (bI (x ^^^ b)))
          have hE : ((CrcM.burst s p k by_).map byteV).set (p + k) (Value.int .u8 (bI (x ^^^ b))) = (CrcM.burst s p (k + 1) by_).map byteV := by
            rw [← ES.out, List.map_set]; rfl
          rw [hE] at hst
          have ST := Lib.hid hst
          have hne : w.heap.size ≠ g := fun e => hgne e.symm
          have BY := Lib.hid (hby.far (p := ⟨g, p + k, none⟩) hne (Value.int .u8 (bI (x ^^^ b))))
          have BR := Lib.hid (hbr.setCell (p := ⟨g, p + k, none⟩) hgw (Value.int .u8 (bI (x ^^^ b))))
          have c2' : (wr.setCell ⟨g, p + k, none⟩ (Value.int .u8 (bI (x ^^^ b)))).cell? ⟨w.heap.size, k, none⟩ = some (.int .u8 (bI b)) := by
            rw [World.cell?_setCell_other _ _ _ _ (by intro e; exact hgne (congrArg Addr.block e))]; exact c2
          have hb0 : (bI b == 0) = (b == 0#8) := bI_beq b 0#8
          clear hst hE hown hby hbr
          have hbn : ∃ z, (b == 0#8) = z := ⟨_, rfl⟩
          obtain ⟨z, hz9⟩ := hbn
          rw [hz9] at hb0 EC
          clear hz9
          have hb1 : (bI b != 0) = !z := by rw [bne, hb0]
          cases c <;> cases z
          all_goals
            go_wp2_with fail
            go_still_tail 15, (by kernel_rfl)
            go_wp2
            go_roundw
            case rel => exact ⟨k + 1, by omega, by omega, by go_num, by rw [EC.out]; rfl, ST.out.1, BY.out, BR.out.drew⟩
            case measure => simp [intOf]; omega
        · have hbl := HBY.out
          have hq : ((!(CrcM.sum (CrcM.burst s p k by_) == CrcM.sum s)) == CrcM.chg k by_) = true := by rw [CrcM.burst_sum s p k by_ hpk (by omega) hk]; simp
          have hT : Bytes wr.heap.size wr (.slice (some ⟨g, 0, none⟩) s.length cp) (CrcM.burst s p k by_) := Sl.of_own hown
          have hS : Bytes wr.heap.size wr (.slice (some ⟨g1, o1, none⟩) s.length cap) s := by
            have := (Sl.below HS.out hbr).more hbr.size
            rwa [List.length_map] at this
          have T1 := Lib.hid hT; have S1 := Lib.hid hS; have BR := Lib.hid hbr
          clear hT hS hown hby hbr hbl H3 HS HL
          generalize CrcM.burst s p k by_ = t at *
          generalize CrcM.chg k by_ = c at *
          have hif : (k : Int) < 8 → ¬ ((p : Int) + k < s.length) := by omega
          by_cases hk8 : k < 8
          all_goals
            have hif2 : k < 8 → (s.length : Int) ≤ (p : Int) + k := by omega
            first | (have hj1 := hif2 hk8) | (have hj1 : True := trivial)
            clear hif hif2
            go_wp2_with fail
            refine (sum1 (l := t) (by simpa using Parts.new T1.out)).mono ?_
            rintro e w2 ⟨rfl, hg2⟩
            have hG2 : Grows wr w2 := (Grows.alloc wr _).trans hg2
            have S2 := (Sl.below (W := wr) S1.out hG2).more hG2.size
            have HG2 := Lib.hid hG2; have HS2 := Lib.hid S2
            clear hG2 S2 hg2
            go_wp2_with fail
            refine (sum1 (l := s) (by simpa using Parts.new HS2.out)).mono ?_
            rintro e w3 ⟨rfl, hg3⟩
            have HG3 := Lib.hid (HG2.out.trans ((Grows.alloc w2 _).trans hg3))
            clear hg3
            go_wp2_with (go_at_call 9; refine (wakes_any _).mono ?_; rintro e w4 ⟨rfl, hb4⟩)
            go_ret
            exact ⟨rfl, BR.out.trans (Below.mono (HG3.out.trans hb4) BR.out.size)⟩
end Go.Proofs.Yteanmkejcnkojaa
