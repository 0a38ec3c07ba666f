/- The law on what is too short, as a call. -/
import Derived.Test.YtohidggifcnjgaaPackWakes
import Derived.Test.YtohidggifcnjgaaZeros
namespace Go.Proofs.Ytohidggifcnjgaa
open Go.RowKit
set_option linter.unusedVariables false
set_option linter.unusedSimpArgs false
attribute [local go_sem high] sliced_cut
attribute [local go_sem] cutA_zero Nat.sub_zero
/-- Bytes with their length ahead. -/
def rowS (s : List (BitVec 8)) : List (BitVec 8) := BitVec.ofNat 8 s.length :: s
theorem put_rowS (s : List (BitVec 8)) (h : s.length ≤ 255) : PackM.putBytes [] s = rowS s := by
  unfold PackM.putBytes rowS
  rw [Nat.min_eq_left h, List.take_of_length_le h]; rfl
theorem many_rowS (s : List (BitVec 8)) (h : s.length ≤ 255) : PackM.many (rowS s) = s.length := by
  show (BitVec.ofNat 8 s.length).toNat = s.length
  rw [BitVec.toNat_ofNat, Nat.mod_eq_of_lt (by omega)]
theorem rowS_length (s : List (BitVec 8)) : (rowS s).length = s.length + 1 := rfl
theorem many_take (b : List (BitVec 8)) (n : Nat) (h : 0 < n) : PackM.many (b.take n) = PackM.many b := by
  cases n with
  | zero => omega
  | succ n => cases b <;> rfl
theorem tbE_short (s : List (BitVec 8)) (h : s.length ≤ 255) (ct : Nat) (h1 : 1 ≤ ct) (h2 : ct ≤ s.length + 1) : PackM.tbE ((rowS s).take (s.length + 1 - ct)) 255 = 20 := by
  unfold PackM.tbE
  rw [if_pos]
  rw [List.length_take, rowS_length]
  by_cases h0 : s.length + 1 - ct = 0
  · left; omega
  · right; rw [many_take _ _ (by omega), many_rowS s h]; omega
theorem tbE_long (s : List (BitVec 8)) (h : s.length ≤ 255) : PackM.tbE (rowS s) ((s.length : Int) - 1) = 21 := by
  unfold PackM.tbE
  rw [if_neg, if_pos]
  · rw [many_rowS s h]; omega
  · rw [many_rowS s h, rowS_length]; omega
theorem tb_none (b : List (BitVec 8)) (m : Int) (h : PackM.tbE b m ≠ 0) : PackM.tbS b m = [] ∧ PackM.tbR b m = b := by
  unfold PackM.tbS PackM.tbR
  rw [if_neg h, if_neg h]; exact ⟨rfl, rfl⟩
theorem take_none (n : Nat) (width : Int) (h1 : 1 ≤ width) (h2 : width ≤ 8) (hn : (n : Int) = width - 1) : PackM.takeN (List.replicate n 0#8) width = 0#64 ∧ PackM.takeR (List.replicate n 0#8) width = List.replicate n 0#8 ∧ PackM.takeE (List.replicate n 0#8) width = 20 := by
  have := PackM.wd_id width h1 h2
  unfold PackM.takeN PackM.takeR PackM.takeE
  rw [if_pos (by rw [List.length_replicate]; omega), if_pos (by rw [List.length_replicate]; omega), if_pos (by rw [List.length_replicate]; omega)]
  exact ⟨rfl, rfl, rfl⟩
set_option maxHeartbeats 2000000 in
set_option maxRecDepth 100000 in
theorem packShort_any (v : Value) (s : List (BitVec 8)) (cut width : Int) (w : World) (hs : Bytes w.heap.size w v s) (a1 : -9223372036854775808 ≤ cut) (a2 : cut ≤ 9223372036854775807) (t1 : -9223372036854775808 ≤ width) (t2 : width ≤ 9223372036854775807) :
    Calls Try.prog 5 #[v, .int .i64 cut, .int .i64 width] w fun e w' => e = .returned (.bool true) ∧ Below w.heap.size w w' := by
  have HS := Lib.hid hs
  obtain ⟨A, cap, rfl, q1, q2, _⟩ := hs
  simp only [List.length_map] at q1 HS ⊢
  unfold maxLen at q2
  by_cases hG : 255 < s.length ∨ cut < 1 ∨ (s.length : Int) + 1 < cut ∨ width < 1 ∨ 8 < width
  · by_cases g1 : 255 < s.length
    · have g1' : (255 : Int) < s.length := by omega
      clear hG
      go_enter Try.func5, Try.ntmps5
      go_wp2_with (go_at_call 8; refine (wakes_any _).mono ?_; rintro e w2 ⟨rfl, hb2⟩)
      go_ret
      exact ⟨rfl, hb2⟩
    · have g1' : (s.length : Int) ≤ 255 := by omega
      by_cases g2 : cut < 1
      · clear hG
        go_enter Try.func5, Try.ntmps5
        go_wp2_with (go_at_call 8; refine (wakes_any _).mono ?_; rintro e w2 ⟨rfl, hb2⟩)
        go_ret
        exact ⟨rfl, hb2⟩
      · by_cases g3 : (s.length : Int) + 1 < cut
        · clear hG
          go_enter Try.func5, Try.ntmps5
          go_wp2_with (go_at_call 8; refine (wakes_any _).mono ?_; rintro e w2 ⟨rfl, hb2⟩)
          go_ret
          exact ⟨rfl, hb2⟩
        · by_cases g4 : width < 1
          · clear hG
            go_enter Try.func5, Try.ntmps5
            go_wp2_with (go_at_call 8; refine (wakes_any _).mono ?_; rintro e w2 ⟨rfl, hb2⟩)
            go_ret
            exact ⟨rfl, hb2⟩
          · have g5 : 8 < width := by omega
            clear hG
            go_enter Try.func5, Try.ntmps5
            go_wp2_with (go_at_call 8; refine (wakes_any _).mono ?_; rintro e w2 ⟨rfl, hb2⟩)
            go_ret
            exact ⟨rfl, hb2⟩
  · have g1 : s.length ≤ 255 := by omega
    have h1 : 1 ≤ cut := by omega
    have h2 : cut ≤ (s.length : Int) + 1 := by omega
    have h3 : 1 ≤ width := by omega
    have h4 : width ≤ 8 := by omega
    clear hG
    obtain ⟨ct, hct⟩ : ∃ ct : Nat, (ct : Int) = cut := ⟨cut.toNat, by omega⟩
    subst hct
    obtain ⟨wn, hwn⟩ : ∃ wn : Nat, (wn : Int) = width - 1 := ⟨(width - 1).toNat, by omega⟩
    obtain ⟨tn, tr, te⟩ := take_none wn width h3 h4 hwn
    have hwn7 : wn ≤ 7 := by omega
    have ts := tbE_short s g1 ct (by omega) (by omega)
    have tl := tbE_long s g1
    obtain ⟨tsS, tsR⟩ := tb_none _ _ (show PackM.tbE ((rowS s).take (s.length + 1 - ct)) 255 ≠ 0 by rw [ts]; decide)
    obtain ⟨tlS, tlR⟩ := tb_none _ _ (show PackM.tbE (rowS s) ((s.length : Int) - 1) ≠ 0 by rw [tl]; decide)
    have P1 := Lib.hid (fun W (h : Bytes (World.heap W).size W (.slice A s.length cap) s) => putBytes_any (.slice none 0 0) (.slice A s.length cap) [] s W (Sl.nil _ _) h (by simp))
    rw [put_rowS s g1] at P1
    have P2 := Lib.hid (fun W u (h : Bytes (World.heap W).size W u ((rowS s).take (s.length + 1 - ct))) => takeBytes_any u ((rowS s).take (s.length + 1 - ct)) 255 W h (by rw [List.length_take, rowS_length]; omega) (by decide) (by decide))
    rw [ts, tsS, tsR] at P2
    have P3 := Lib.hid (fun W u (h : Bytes (World.heap W).size W u (rowS s)) => takeBytes_any u (rowS s) ((s.length : Int) - 1) W h (by rw [rowS_length]; omega) (by omega) (by omega))
    rw [tl, tlS, tlR] at P3
    have P4 := Lib.hid (fun W u (h : Bytes (World.heap W).size W u (List.replicate wn 0#8)) => take_any u (List.replicate wn 0#8) width W h (by rw [List.length_replicate]; omega) t1 t2)
    rw [tn, tr, te, show uI 0#64 = 0 from rfl] at P4
    have HRL := Lib.hid (rowS_length s)
    clear ts tl tsS tsR tlS tlR tn tr te
    generalize rowS s = R at *
    go_enter Try.func5, Try.ntmps5
    have q1 : ((wn : Int) == width - 1) = true := by rw [beq_iff_eq]; omega
    have q2 : ((wn : Int) != width - 1) = false := by rw [bne, q1]; rfl
    have q3 : (wn : Int) ≤ 7 := by omega
    have HW := Lib.hid hwn
    have HSame : Hid ((R.take (s.length + 1 - ct) == R.take (s.length + 1 - ct)) = true ∧ (R == R) = true) := ⟨by simp, by simp⟩
    clear hwn
    go_wp2_with (first
      | (go_at_call 18; refine (P1.out _ HS.out).mono ?_; rintro e w1 ⟨r1, rfl, m1, g1⟩; obtain ⟨A1, c1, rfl, hc1, hc2⟩ := m1.form; rw [HRL.out] at hc1 m1 ⊢; have HM1 := Lib.hid m1; have HG1 := Lib.hid g1; unfold maxLen at hc2; clear m1 g1)
      | (go_at_call 11; (with_reducible refine (P2.out _ _ ?_).mono ?_); exact Bytes.take HM1.out.bytes (by rw [HRL.out]; omega); rintro e w2 ⟨s2, r2, rfl, m2, n2, g2⟩; obtain ⟨A2, c2, rfl, _, _⟩ := m2.form; obtain ⟨A3, c3, rfl, _, _⟩ := n2.form; have HN2 := Lib.hid n2; have HM2 := Lib.hid (HM1.out.grows g2); have HG2 := Lib.hid (HG1.out.trans g2); clear m2 n2 g2)
      | (go_at_call 11; (with_reducible refine (P3.out _ _ ?_).mono ?_); exact HM2.out.bytes; rintro e w3 ⟨s3, r3, rfl, m3, n3, g3⟩; obtain ⟨A4, c4, rfl, _, _⟩ := m3.form; obtain ⟨A5, c5, rfl, _, _⟩ := n3.form; have HN3 := Lib.hid n3; have HM3 := Lib.hid (HM2.out.grows g3); have HG3 := Lib.hid (HG2.out.trans g3); have HN2' := Lib.hid (HN2.out.grows g3); clear m3 n3 g3)
      | ((with_reducible refine wpList_make_zeros (o := ⟨some 71, _, _, _, _, _⟩) ?_ (.tmp 70) (.tmp 70) ?_ w.heap.size wn (width - 1) ?_ ?_ ?_ ?_ ?_ ?_); exact rfl; exact rfl; exact rfl; exact rfl; exact HW.out.symm; omega; exact HG3.out.size; intro w4 m4 g4; have HM4 := Lib.hid m4; have HG4 := Lib.hid g4; clear m4 g4)
      | (go_at_call 9; (with_reducible refine (P4.out _ _ ?_).mono ?_); exact HM4.out.bytes; rintro e w5 ⟨r5, rfl, m5, g5⟩; obtain ⟨A6, c6, rfl, _, _⟩ := m5.form; have HB5 := Lib.hid (HG3.out.trans (HG4.out.trans g5)); have HM5 := Lib.hid (HM3.out.grows (HG4.out.trans g5)); have HN5 := Lib.hid (HN2'.out.grows (HG4.out.trans g5)); have HN6 := Lib.hid (HN3.out.grows (HG4.out.trans g5)); clear m5 g5)
      | (go_at_call 13; (with_reducible refine (same_any _ _ (R.take (s.length + 1 - ct)) (R.take (s.length + 1 - ct)) _ ?_ ?_).mono ?_); (have h := HN5.out.bytes; rw [List.length_take] at h; exact h); exact Bytes.take HM5.out.bytes (by rw [HRL.out]; omega); rw [HSame.out.1]; rintro e w6 ⟨rfl, rfl⟩)
      | (go_at_call 13; (with_reducible refine (same_any _ _ R R _ ?_ ?_).mono ?_); exact HN6.out.bytes; exact HM5.out.bytes; rw [HSame.out.2]; rintro e w6 ⟨rfl, rfl⟩)
      | (go_at_call 8; refine (wakes_any _).mono ?_; rintro e w7 ⟨rfl, hb7⟩; have HB7 := Lib.hid hb7; clear hb7))
    go_ret
    exact ⟨rfl, HB5.out.trans HB7.out⟩
end Go.Proofs.Ytohidggifcnjgaa
