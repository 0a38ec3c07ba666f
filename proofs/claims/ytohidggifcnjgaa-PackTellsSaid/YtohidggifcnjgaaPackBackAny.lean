/- The law on what is put and taken again, as a call. -/
import Derived.Test.YtohidggifcnjgaaPackShortAny
namespace Go.Proofs.Ytohidggifcnjgaa
open Go.RowKit
set_option linter.unusedVariables false
set_option linter.unusedSimpArgs false
attribute [local go_sem high] sliced_cut
attribute [local go_sem] cutA_zero Nat.sub_zero
theorem take_back (n : BitVec 64) (width : Int) (tail : List (BitVec 8)) :
    PackM.takeN (PackM.put [] n width ++ tail) width = Num.low n (PackM.wd width) ∧ PackM.takeR (PackM.put [] n width ++ tail) width = tail ∧ PackM.takeE (PackM.put [] n width ++ tail) width = 0 := by
  have e : PackM.put [] n width = Num.bytes n (PackM.wd width) := rfl
  have h : ¬ (Num.bytes n (PackM.wd width) ++ tail).length < PackM.wd width := by rw [List.length_append, Num.bytes_length]; omega
  unfold PackM.takeN PackM.takeR PackM.takeE
  rw [e, if_neg h, if_neg h, if_neg h, List.take_left' (Num.bytes_length _ _), List.drop_left' (Num.bytes_length _ _), Num.num_bytes _ _ (PackM.wd_hi _)]
  exact ⟨rfl, rfl, rfl⟩
theorem tb_back (s tail : List (BitVec 8)) (h : s.length ≤ 255) :
    PackM.tbE (rowS s ++ tail) 255 = 0 ∧ PackM.tbS (rowS s ++ tail) 255 = s ∧ PackM.tbR (rowS s ++ tail) 255 = tail := by
  have hm : PackM.many (rowS s ++ tail) = s.length := many_rowS s h
  have hE : PackM.tbE (rowS s ++ tail) 255 = 0 := by
    unfold PackM.tbE
    rw [if_neg, if_neg]
    · rw [hm]; omega
    · rw [hm, List.length_append, rowS_length]; omega
  refine ⟨hE, ?_, ?_⟩
  · unfold PackM.tbS
    rw [if_pos hE, hm]
    show (s ++ tail).take s.length = s
    exact List.take_left
  · unfold PackM.tbR
    rw [if_pos hE, hm]
    exact List.drop_left' (by rw [rowS_length]; omega)
/-- Its lowest bytes, as the statement reckons them. -/
theorem low_lt (n : BitVec 64) (w : Nat) (h : w < 8) : Num.low n w = n &&& BitVec.ofNat 64 (2 ^ (8 * w) - 1) := by
  unfold Num.low
  rw [if_pos h]
  congr 1
  have hp : 2 ^ (8 * w) < 2 ^ 64 := Nat.pow_lt_pow_right (by decide) (by omega)
  have hp1 : 0 < 2 ^ (8 * w) := Nat.two_pow_pos _
  apply BitVec.eq_of_toNat_eq
  rw [BitVec.toNat_sub, BitVec.toNat_shiftLeft, BitVec.toNat_ofNat, BitVec.toNat_ofNat, Nat.shiftLeft_eq]
  have e : 1 % 2 ^ 64 * 2 ^ (8 * w) % 2 ^ 64 = 2 ^ (8 * w) := by rw [Nat.one_mod_eq_one.2 (by decide), Nat.one_mul, Nat.mod_eq_of_lt hp]
  rw [e, Nat.mod_eq_of_lt (a := 2 ^ (8 * w) - 1) (by omega)]
  omega
/-- A row of one's own that lies below another one stays when that one is appended to. -/
theorem mine_apart {B B' : Nat} {w w' : World} {v u : Value} {l m : List (BitVec 8)} (h : Mine B w v l) (hl : ∀ k, v.ownBlock = some k → k < B') (h' : Mine B' w u m) (hg : w.grownBy w' u.ownBlock) : Mine B w' v l := by
  refine World.ownsRow.kept h hg ?_
  cases hv : v.ownBlock with
  | none => exact .inl rfl
  | some k =>
    right
    intro e
    have h1 := hl k hv
    have h2 := (h'.lt k e.symm).1
    omega
set_option maxHeartbeats 4000000 in
set_option maxRecDepth 100000 in
theorem packBack_any (n : BitVec 64) (width : Int) (v : Value) (s : List (BitVec 8)) (u : Value) (tail : List (BitVec 8)) (w : World) (t1 : -9223372036854775808 ≤ width) (t2 : width ≤ 9223372036854775807) (hs : Bytes w.heap.size w v s) (ht : Bytes w.heap.size w u tail) :
    Calls Try.prog 4 #[.int .u64 (uI n), .int .i64 width, v, u] w fun e w' => e = .returned (.bool true) ∧ Below w.heap.size w w' := by
  have HS := Lib.hid hs
  obtain ⟨A, cap, rfl, q1, q2, _⟩ := hs
  have HT := Lib.hid ht
  obtain ⟨A', cap', rfl, p1, p2, _⟩ := ht
  simp only [List.length_map] at q1 HS p1 HT ⊢
  unfold maxLen at q2 p2
  by_cases hG : width < 1 ∨ 8 < width ∨ 255 < s.length ∨ 100 < tail.length
  · by_cases g1 : width < 1
    · clear hG
      go_enter Try.func4, Try.ntmps4
      go_wp2_with (go_at_call 8; refine (wakes_any _).mono ?_; rintro e w2 ⟨rfl, hb2⟩)
      go_ret
      exact ⟨rfl, hb2⟩
    · by_cases g2 : 8 < width
      · clear hG
        go_enter Try.func4, Try.ntmps4
        go_wp2_with (go_at_call 8; refine (wakes_any _).mono ?_; rintro e w2 ⟨rfl, hb2⟩)
        go_ret
        exact ⟨rfl, hb2⟩
      · by_cases g3 : 255 < s.length
        · have g3' : (255 : Int) < s.length := by omega
          clear hG
          go_enter Try.func4, Try.ntmps4
          go_wp2_with (go_at_call 8; refine (wakes_any _).mono ?_; rintro e w2 ⟨rfl, hb2⟩)
          go_ret
          exact ⟨rfl, hb2⟩
        · have g3' : (s.length : Int) ≤ 255 := by omega
          have g4 : (100 : Int) < tail.length := by omega
          have g4' : 100 < tail.length := by omega
          clear hG
          go_enter Try.func4, Try.ntmps4
          go_wp2_with (go_at_call 8; refine (wakes_any _).mono ?_; rintro e w2 ⟨rfl, hb2⟩)
          go_ret
          exact ⟨rfl, hb2⟩
  · have g1 : 1 ≤ width := by omega
    have g2 : width ≤ 8 := by omega
    have g3 : s.length ≤ 255 := by omega
    have g4 : tail.length ≤ 100 := by omega
    have g3' : (s.length : Int) ≤ 255 := by omega
    have g4' : (tail.length : Int) ≤ 100 := by omega
    clear hG
    obtain ⟨b1, b2, b3⟩ := take_back n width tail
    have P1 := Lib.hid (fun W => put_any (.slice none 0 0) [] n width W (Sl.nil _ _) (by simp) t1 t2)
    have P2 := Lib.hid (fun W x (h : Bytes (World.heap W).size W x (PackM.put [] n width ++ tail)) => take_any x (PackM.put [] n width ++ tail) width W h (by rw [List.length_append]; have := PackM.wd_hi width; unfold PackM.put; simp; omega) t1 t2)
    rw [b1, b2, b3] at P2
    have hpl : (PackM.put [] n width).length = PackM.wd width := by unfold PackM.put; simp
    have hwd := PackM.wd_id width g1 g2
    have hlow := low_lt n (PackM.wd width)
    have hlow8 : ¬ PackM.wd width < 8 → Num.low n (PackM.wd width) = n := fun h => by unfold Num.low; rw [if_neg h]
    generalize PackM.put [] n width = pb at *
    obtain ⟨c1, c2, c3⟩ := tb_back s tail g3
    have P3 := Lib.hid (fun W (h : Bytes (World.heap W).size W (.slice A s.length cap) s) => putBytes_any (.slice none 0 0) (.slice A s.length cap) [] s W (Sl.nil _ _) h (by simp))
    rw [put_rowS s g3] at P3
    have P4 := Lib.hid (fun W x (h : Bytes (World.heap W).size W x (rowS s ++ tail)) => takeBytes_any x (rowS s ++ tail) 255 W h (by rw [List.length_append, rowS_length]; omega) (by decide) (by decide))
    rw [c1, c2, c3] at P4
    have HRL := Lib.hid (rowS_length s)
    clear c1 c2 c3 b1 b2 b3
    generalize rowS s = R at *
    generalize hlw : Num.low n (PackM.wd width) = lw at *
    obtain ⟨wn, hwn⟩ : ∃ wn, wn = PackM.wd width := ⟨_, rfl⟩
    rw [← hwn] at hpl hwd hlow hlow8
    clear hlw
    have HPL := Lib.hid hpl
    have P5 := Lib.hid (fun W (x : BitVec 64) (h : Bytes (World.heap W).size W (.slice A' tail.length cap') tail) => put_any (.slice A' tail.length cap') tail x width W h (by omega) t1 t2)
    have P6 := Lib.hid (fun W (h : Bytes (World.heap W).size W (.slice A s.length cap) s) (h' : Bytes (World.heap W).size W (.slice A' tail.length cap') tail) => putBytes_any (.slice A' tail.length cap') (.slice A s.length cap) tail s W h' h (by omega))
    have hp5 : ∀ x : BitVec 64, (PackM.put tail x width).length = tail.length + wn := fun x => by unfold PackM.put; rw [List.length_append, Num.bytes_length, hwn]
    have hp6 : (PackM.putBytes tail s).length = tail.length + 1 + s.length := by
      unfold PackM.putBytes
      rw [Nat.min_eq_left g3, List.take_of_length_le g3, List.length_append, List.length_cons]; omega
    have HP5 := Lib.hid hp5; have HP6 := Lib.hid hp6; have HWN := Lib.hid hwn
    have h8 : 1 ≤ wn := by omega
    have h9 : wn ≤ 8 := by omega
    clear hp5 hp6 hwn hpl
    obtain rfl : width = (wn : Int) := hwd.symm
    have HEQ : Hid (∀ l : List (BitVec 8), (l == l) = true) := fun l => by simp
    by_cases hw8 : wn < 8
    · have hw8' : (wn : Int) < 8 := by omega
      have hmask : bits BinOp.and IntKind.u64 (uI n) (IntKind.u64.wrap (IntKind.u64.wrap (2 ^ (8 * wn)) - 1)) = uI lw := by
        have hp : 2 ^ (8 * wn) < 2 ^ 64 := Nat.pow_lt_pow_right (by decide) (by omega)
        have hp1 : 0 < 2 ^ (8 * wn) := Nat.two_pow_pos _
        have e : ((2 : Int) ^ (8 * wn)) = ((2 ^ (8 * wn) : Nat) : Int) := by simp
        generalize 2 ^ (8 * wn) = pw at *
        rw [e, IntWalk.u64_in (pw : Int) (by omega), IntWalk.u64_in ((pw : Int) - 1) (by omega), show ((pw : Int) - 1) = uI (BitVec.ofNat 64 (pw - 1)) by rw [uI_ofNat _ (by omega)]; omega, bits_and_u, ← hlow hw8]
      clear hlow hlow8 hwd
      go_enter Try.func4, Try.ntmps4
      go_wp2_with (first
        | (go_at_call 16; (with_reducible refine (P1.out _).mono ?_); rintro e w1 ⟨r1, rfl, m1, k1⟩; obtain ⟨A1, e1, rfl, _, _⟩ := m1.form; have HM1 := Lib.hid m1; have HG1 := Lib.hid k1; clear m1 k1)
        | ((with_reducible refine wpList_append_mine (o := ⟨some 37, _, _, _, _, _⟩) ?_ (.tmp 35) (.tmp 36) ?_ w.heap.size w.heap.size pb tail ?_ ?_ ?_ ?_ ?_); exact rfl; exact rfl; exact HM1.out; exact Sl.below HT.out HG1.out; (rw [HPL.out]; omega); exact HG1.out.size; intro v2 w2 hv2 hgr2 _ _; have HG2 := Lib.hid (below_mine HG1.out HM1.out hgr2 (Nat.le_refl _) HG1.out.size); obtain ⟨A2, e2, rfl, _, _⟩ := hv2.form; have HM2 := Lib.hid hv2; clear hv2 hgr2)
        | (go_at_call 9; (with_reducible refine (P2.out _ _ ?_).mono ?_); (have h := HM2.out.bytes; rw [List.length_append] at h; exact h); rintro e w3 ⟨r3, rfl, m3, k3⟩; obtain ⟨A3, e3, rfl, _, _⟩ := m3.form; have HM3 := Lib.hid m3; have HG3 := Lib.hid (HG2.out.trans (Below.mono k3 HG2.out.size)); clear m3 k3)
        | (go_at_call 18; (with_reducible refine (P3.out _ ?_).mono ?_); exact Bytes.more (Sl.below HS.out HG3.out) HG3.out.size; rintro e w4 ⟨r4, rfl, m4, k4⟩; obtain ⟨A4, e4, rfl, _, _⟩ := m4.form; have HM4 := Lib.hid m4; have HG4 := Lib.hid (HG3.out.trans (Below.mono k4 HG3.out.size)); have HM3' := Lib.hid (HM3.out.grows k4); have HL3 := Lib.hid k4.size; have HL3n : Hid (∀ k, (Value.slice A3 tail.length e3).ownBlock = some k → k < w3.heap.size) := fun k hk => (HM3.out.lt k hk).2; clear m4 k4)
        | ((with_reducible refine wpList_append_mine (o := ⟨some 56, _, _, _, _, _⟩) ?_ (.tmp 54) (.tmp 55) ?_ w3.heap.size w.heap.size R tail ?_ ?_ ?_ ?_ ?_); exact rfl; exact rfl; exact HM4.out; exact Sl.below HT.out HG4.out; (rw [HRL.out]; omega); exact HL3.out; intro v5 w5 hv5 hgr5 _ _; have HG5 := Lib.hid (below_mine HG4.out HM4.out hgr5 HG3.out.size HG4.out.size); obtain ⟨A5, e5, rfl, _, _⟩ := hv5.form; have HM5 := Lib.hid hv5; have HM35 := Lib.hid (mine_apart HM3'.out HL3n.out HM4.out hgr5); clear hv5 hgr5)
        | (go_at_call 11; (with_reducible refine (P4.out _ _ ?_).mono ?_); (have h := HM5.out.bytes; rw [List.length_append] at h; exact h); rintro e w6 ⟨s6, r6, rfl, m6, n6, k6⟩; obtain ⟨A6, e6, rfl, _, _⟩ := m6.form; obtain ⟨A7, e7, rfl, _, _⟩ := n6.form; have HM6 := Lib.hid m6; have HN6 := Lib.hid n6; have HM36 := Lib.hid (HM35.out.grows k6); have HG6 := Lib.hid (HG5.out.trans (Below.mono k6 HG5.out.size)); clear m6 n6 k6)
        | (go_at_call 13; (with_reducible refine (same_any (.slice A3 tail.length e3) _ tail tail _ ?_ ?_).mono ?_); exact HM36.out.bytes; exact Bytes.more (Sl.below HT.out HG6.out) HG6.out.size; rw [HEQ.out tail]; rintro e w7 ⟨rfl, rfl⟩)
        | (go_at_call 13; (with_reducible refine (same_any (.slice A6 s.length e6) _ s s _ ?_ ?_).mono ?_); exact HM6.out.bytes; exact Bytes.more (Sl.below HS.out HG6.out) HG6.out.size; rw [HEQ.out s]; rintro e w7 ⟨rfl, rfl⟩)
        | (go_at_call 13; (with_reducible refine (same_any (.slice A7 tail.length e7) _ tail tail _ ?_ ?_).mono ?_); exact HN6.out.bytes; exact Bytes.more (Sl.below HT.out HG6.out) HG6.out.size; rw [HEQ.out tail]; rintro e w7 ⟨rfl, rfl⟩)
        | (go_at_call 16; (with_reducible refine (P5.out _ lw ?_).mono ?_); exact Bytes.more (Sl.below HT.out HG6.out) HG6.out.size; rintro e w8 ⟨r8, rfl, m8, k8⟩; obtain ⟨A8, e8, rfl, _, _⟩ := m8.form; rw [HP5.out]; have HG8 := Lib.hid (HG6.out.trans (Below.mono k8 HG6.out.size)); clear m8 k8)
        | (go_at_call 18; (with_reducible refine (P6.out _ ?_ ?_).mono ?_); exact Bytes.more (Sl.below HS.out HG8.out) HG8.out.size; exact Bytes.more (Sl.below HT.out HG8.out) HG8.out.size; rintro e w9 ⟨r9, rfl, m9, k9⟩; obtain ⟨A9, e9, rfl, _, _⟩ := m9.form; rw [HP6.out]; have HG9 := Lib.hid (HG8.out.trans (Below.mono k9 HG8.out.size)); clear m9 k9)
        | (go_at_call 8; refine (wakes_any _).mono ?_; rintro e w10 ⟨rfl, hb10⟩; have HB10 := Lib.hid hb10; clear hb10))
      go_ret
      exact ⟨rfl, HG9.out.trans (Below.mono HB10.out HG9.out.size)⟩
    · have hw8' : ¬ (wn : Int) < 8 := by omega
      obtain rfl := hlow8 hw8
      clear hlow hlow8 hwd
      go_enter Try.func4, Try.ntmps4
      go_wp2_with (first
        | (go_at_call 16; (with_reducible refine (P1.out _).mono ?_); rintro e w1 ⟨r1, rfl, m1, k1⟩; obtain ⟨A1, e1, rfl, _, _⟩ := m1.form; have HM1 := Lib.hid m1; have HG1 := Lib.hid k1; clear m1 k1)
        | ((with_reducible refine wpList_append_mine (o := ⟨some 37, _, _, _, _, _⟩) ?_ (.tmp 35) (.tmp 36) ?_ w.heap.size w.heap.size pb tail ?_ ?_ ?_ ?_ ?_); exact rfl; exact rfl; exact HM1.out; exact Sl.below HT.out HG1.out; (rw [HPL.out]; omega); exact HG1.out.size; intro v2 w2 hv2 hgr2 _ _; have HG2 := Lib.hid (below_mine HG1.out HM1.out hgr2 (Nat.le_refl _) HG1.out.size); obtain ⟨A2, e2, rfl, _, _⟩ := hv2.form; have HM2 := Lib.hid hv2; clear hv2 hgr2)
        | (go_at_call 9; (with_reducible refine (P2.out _ _ ?_).mono ?_); (have h := HM2.out.bytes; rw [List.length_append] at h; exact h); rintro e w3 ⟨r3, rfl, m3, k3⟩; obtain ⟨A3, e3, rfl, _, _⟩ := m3.form; have HM3 := Lib.hid m3; have HG3 := Lib.hid (HG2.out.trans (Below.mono k3 HG2.out.size)); clear m3 k3)
        | (go_at_call 18; (with_reducible refine (P3.out _ ?_).mono ?_); exact Bytes.more (Sl.below HS.out HG3.out) HG3.out.size; rintro e w4 ⟨r4, rfl, m4, k4⟩; obtain ⟨A4, e4, rfl, _, _⟩ := m4.form; have HM4 := Lib.hid m4; have HG4 := Lib.hid (HG3.out.trans (Below.mono k4 HG3.out.size)); have HM3' := Lib.hid (HM3.out.grows k4); have HL3 := Lib.hid k4.size; have HL3n : Hid (∀ k, (Value.slice A3 tail.length e3).ownBlock = some k → k < w3.heap.size) := fun k hk => (HM3.out.lt k hk).2; clear m4 k4)
        | ((with_reducible refine wpList_append_mine (o := ⟨some 56, _, _, _, _, _⟩) ?_ (.tmp 54) (.tmp 55) ?_ w3.heap.size w.heap.size R tail ?_ ?_ ?_ ?_ ?_); exact rfl; exact rfl; exact HM4.out; exact Sl.below HT.out HG4.out; (rw [HRL.out]; omega); exact HL3.out; intro v5 w5 hv5 hgr5 _ _; have HG5 := Lib.hid (below_mine HG4.out HM4.out hgr5 HG3.out.size HG4.out.size); obtain ⟨A5, e5, rfl, _, _⟩ := hv5.form; have HM5 := Lib.hid hv5; have HM35 := Lib.hid (mine_apart HM3'.out HL3n.out HM4.out hgr5); clear hv5 hgr5)
        | (go_at_call 11; (with_reducible refine (P4.out _ _ ?_).mono ?_); (have h := HM5.out.bytes; rw [List.length_append] at h; exact h); rintro e w6 ⟨s6, r6, rfl, m6, n6, k6⟩; obtain ⟨A6, e6, rfl, _, _⟩ := m6.form; obtain ⟨A7, e7, rfl, _, _⟩ := n6.form; have HM6 := Lib.hid m6; have HN6 := Lib.hid n6; have HM36 := Lib.hid (HM35.out.grows k6); have HG6 := Lib.hid (HG5.out.trans (Below.mono k6 HG5.out.size)); clear m6 n6 k6)
        | (go_at_call 13; (with_reducible refine (same_any (.slice A3 tail.length e3) _ tail tail _ ?_ ?_).mono ?_); exact HM36.out.bytes; exact Bytes.more (Sl.below HT.out HG6.out) HG6.out.size; rw [HEQ.out tail]; rintro e w7 ⟨rfl, rfl⟩)
        | (go_at_call 13; (with_reducible refine (same_any (.slice A6 s.length e6) _ s s _ ?_ ?_).mono ?_); exact HM6.out.bytes; exact Bytes.more (Sl.below HS.out HG6.out) HG6.out.size; rw [HEQ.out s]; rintro e w7 ⟨rfl, rfl⟩)
        | (go_at_call 13; (with_reducible refine (same_any (.slice A7 tail.length e7) _ tail tail _ ?_ ?_).mono ?_); exact HN6.out.bytes; exact Bytes.more (Sl.below HT.out HG6.out) HG6.out.size; rw [HEQ.out tail]; rintro e w7 ⟨rfl, rfl⟩)
        | (go_at_call 16; (with_reducible refine (P5.out _ lw ?_).mono ?_); exact Bytes.more (Sl.below HT.out HG6.out) HG6.out.size; rintro e w8 ⟨r8, rfl, m8, k8⟩; obtain ⟨A8, e8, rfl, _, _⟩ := m8.form; rw [HP5.out]; have HG8 := Lib.hid (HG6.out.trans (Below.mono k8 HG6.out.size)); clear m8 k8)
        | (go_at_call 18; (with_reducible refine (P6.out _ ?_ ?_).mono ?_); exact Bytes.more (Sl.below HS.out HG8.out) HG8.out.size; exact Bytes.more (Sl.below HT.out HG8.out) HG8.out.size; rintro e w9 ⟨r9, rfl, m9, k9⟩; obtain ⟨A9, e9, rfl, _, _⟩ := m9.form; rw [HP6.out]; have HG9 := Lib.hid (HG8.out.trans (Below.mono k9 HG8.out.size)); clear m9 k9)
        | (go_at_call 8; refine (wakes_any _).mono ?_; rintro e w10 ⟨rfl, hb10⟩; have HB10 := Lib.hid hb10; clear hb10))
      go_ret
      exact ⟨rfl, HG9.out.trans (Below.mono HB10.out HG9.out.size)⟩
end Go.Proofs.Ytohidggifcnjgaa
