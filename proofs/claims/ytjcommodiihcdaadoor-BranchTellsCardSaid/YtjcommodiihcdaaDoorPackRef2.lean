/- PackRef2 -/
import Derived.Test.YtjcommodiihcdaaDoorPackRef
/- The document's Put, PutBytes, TakeBytes. -/
namespace Go.Proofs.YtjcommodiihcdaaDoor
open Go.RowKit
set_option linter.unusedVariables false
set_option linter.unusedSimpArgs false
attribute [local go_sem high] sliced_cut
attribute [local go_sem] cutA_zero Nat.sub_zero
/-- append onto an empty literal, then what it holds. -/
theorem rput_any (v : Value) (b : List (BitVec 8)) (x : BitVec 64) (width : Int) (w : World) (hv : Bytes w.heap.size w v b) (hl : b.length ≤ 900000) (b1 : -9223372036854775808 ≤ width) (b2 : width ≤ 9223372036854775807) :
    Calls Tryd.prog 43 #[v, .int .u64 (uI x), .int .i64 width] w fun e w' => ∃ r, e = .returned r ∧ Mine w.heap.size w' r (PackM.put b x width) ∧ Grows w w' := by
  have HV := Lib.hid hv
  obtain ⟨A, cap, rfl, q1, q2, _⟩ := hv
  simp only [List.length_map] at q1 HV ⊢
  unfold maxLen at q2
  have k1 := PackM.wd_lo width
  have k2 := PackM.wd_hi width
  have HI := Lib.hid (fun w => wide_any width b1 b2 w)
  have HD := Lib.hid (show PackM.put b x width = b ++ Num.bytes x (PackM.wd width) from rfl)
  generalize PackM.wd width = wd at *
  have q3 : (b.length : Int) ≤ 900000 := by omega
  have q4 : (wd : Int) ≤ 8 := by omega
  have HV0 : Hid (Bytes w.heap.size (w.alloc (.cells #[] 5)) (.slice A b.length cap) b) := Sl.below HV.out (Grows.alloc w _)
  go_enter Tryd.func43, Tryd.ntmps43
  go_wp2_with (first
    | ((with_reducible refine wpList_append_empty (o := ⟨some 11, _, _, _, _, _⟩) ?_ (.tmp 9) (.tmp 10) ?_ w.heap.size w.heap.size b ?_ ?_ ?_ ?_ ?_); exact rfl; exact rfl; exact rfl; exact Row.new w _ _; exact HV0.out; omega; intro v1 w1 hg1 hm1; obtain ⟨A1, c1, rfl, _, _⟩ := hm1.form; have HG1 := Lib.hid ((Grows.alloc w (.cells #[] 5)).trans hg1); have HM1 := Lib.hid hm1; clear hg1 hm1))
  go_loopw [7, 8] (fun o i wr => ∃ k : Nat, k ≤ wd ∧ i = .int .i64 k ∧ Mine w.heap.size wr o (b ++ Num.bytes x k) ∧ Below w.heap.size w wr) (fun _ i _ => wd - (intOf i).toNat)
  case atStart => exact ⟨0, Nat.zero_le _, rfl, by rw [Num.bytes_zero, List.append_nil]; exact HM1.out, HG1.out⟩
  case round =>
    obtain ⟨k, hk, rfl, hm, hb⟩ := hrel
    obtain ⟨A2, c2, rfl, _, _⟩ := hm.form
    have HM := Lib.hid hm; have HB := Lib.hid hb
    clear hm hb HM1 HG1
    have hln : (b ++ Num.bytes x k).length = b.length + k := by rw [List.length_append, Num.bytes_length]
    have HLN := Lib.hid hln
    have hb8 : uI x / 2 ^ (8 * k) % 256 = bI (Num.byteAt x k) := by
      rw [uI_shr]; unfold Num.byteAt uI bI; rw [BitVec.toNat_setWidth]; omega
    have HT := Lib.hid (Num.bytes_succ x k)
    by_cases hlt : k < wd
    · have hk8 : (k : Int) < 8 := by omega
      have hkw : (k : Int) < wd := by omega
      generalize Num.byteAt x k = y at *
      generalize hBs : b ++ Num.bytes x k = Bs at *
      have hbs := Lib.hid hBs
      clear hBs hln
      go_wp2_with (first
        | (go_at_call 55; refine (HI.out _).mono ?_; rintro e w' ⟨rfl, rfl⟩)
        | ((with_reducible refine wpList_append_mine (o := ⟨some 26, _, _, _, _, _⟩) ?_ (.tmp 18) (.tmp 25) ?_ w.heap.size (wr.heap.size + 1) Bs [y] ?_ ?_ ?_ ?_ ?_); exact rfl; exact rfl; exact HM.out.grows (Grows.alloc _ _); exact Bytes.one wr y; (rw [HLN.out]; simp; omega); (have := HB.out.size; simp; omega); intro v5 w5 hv5 hgr5 _ _; have HB5 := Lib.hid (below_mine (HB.out.trans ((Below.refl _ _).alloc HB.out.size _)) (HM.out.grows (Grows.alloc _ _)) hgr5 (Nat.le_refl _) (by have := HB.out.size; simp; omega)); obtain ⟨A5, c5, rfl, _, _⟩ := hv5.form; have HM5 := Lib.hid hv5; clear hv5 hgr5))
      go_roundw
      case rel => exact ⟨k + 1, by omega, by go_num, by rw [HT.out, ← List.append_assoc, hbs.out]; simpa using HM5.out, HB5.out⟩
      case measure => simp [intOf]; omega
    · obtain rfl : k = wd := by omega
      clear hb8
      go_wp2_with (first
        | (go_at_call 55; refine (HI.out _).mono ?_; rintro e w' ⟨rfl, rfl⟩))
      go_ret
      exact ⟨_, rfl, by rw [HD.out]; have h := HM.out; rw [HLN.out] at h; exact h, HB.out⟩
set_option maxHeartbeats 1000000 in
theorem rputBytes_any (v u : Value) (b s : List (BitVec 8)) (w : World) (hv : Bytes w.heap.size w v b) (hu : Bytes w.heap.size w u s) (hl : b.length ≤ 900000) :
    Calls Tryd.prog 27 #[v, u] w fun e w' => ∃ r, e = .returned r ∧ Mine w.heap.size w' r (PackM.putBytes b s) ∧ Grows w w' := by
  have HV := Lib.hid hv
  obtain ⟨A, cap, rfl, q1, q2, _⟩ := hv
  have HU := Lib.hid hu
  obtain ⟨A', cap', rfl, p1, p2, _⟩ := hu
  simp only [List.length_map] at q1 HV p1 HU ⊢
  unfold maxLen at q2 p2
  have HD := Lib.hid (show PackM.putBytes b s = b ++ BitVec.ofNat 8 (min s.length 255) :: s.take 255 from rfl)
  have q3 : (b.length : Int) ≤ 900000 := by omega
  have HV0 : Hid (Bytes w.heap.size (w.alloc (.cells #[] 5)) (.slice A b.length cap) b) := Sl.below HV.out (Grows.alloc w _)
  by_cases h : s.length ≤ 255
  · rw [Nat.min_eq_left h, List.take_of_length_le h] at HD
    have HT := HU
    have h1 : (s.length : Int) ≤ 255 := by omega
    have hmn : min (s.length : Int) 255 = s.length := by omega
    have hmx : max (s.length : Int) 0 = s.length := by omega
    have HB1 : Hid (∀ W : World, Bytes (W.heap.size + 1) (W.alloc (.cells #[.int .u8 s.length] 5)) (.slice (some ⟨W.heap.size, 0, none⟩) 1 1) [BitVec.ofNat 8 s.length]) := fun W => by
      have := Bytes.one W (BitVec.ofNat 8 s.length)
      rw [bI_ofNat _ (by omega)] at this
      exact this
    go_enter Tryd.func27, Tryd.ntmps27
    go_wp2_with (first
      | ((with_reducible refine wpList_append_empty (o := ⟨some 13, _, _, _, _, _⟩) ?_ (.tmp 11) (.tmp 12) ?_ w.heap.size w.heap.size b ?_ ?_ ?_ ?_ ?_); exact rfl; exact rfl; exact rfl; exact Row.new w _ _; exact HV0.out; omega; intro v2 w2 hg1 hv2; obtain ⟨A2, c2, rfl, _, _⟩ := hv2.form; have hb2 : Hid (Below w.heap.size w w2) := (Grows.alloc w (.cells #[] 5)).trans hg1; have HM2 := Lib.hid hv2; clear hg1 hv2)
      | ((with_reducible refine wpList_append_mine (o := ⟨some 18, _, _, _, _, _⟩) ?_ (.tmp 13) (.tmp 17) ?_ w.heap.size (w2.heap.size + 1) b [BitVec.ofNat 8 s.length] ?_ ?_ ?_ ?_ ?_); exact rfl; exact rfl; exact HM2.out.grows (Grows.alloc _ _); exact HB1.out w2; (simp; omega); (have := hb2.out.size; simp; omega); intro v3 w3 hv3 hgr3 _ _; have hb3 := Lib.hid (below_mine (hb2.out.trans ((Below.refl _ _).alloc hb2.out.size _)) (HM2.out.grows (Grows.alloc _ _)) hgr3 (Nat.le_refl _) (by have := hb2.out.size; simp; omega)); obtain ⟨A3, c3, rfl, _, _⟩ := hv3.form; simp only [List.length_append, List.length_singleton] at hv3; clear hgr3)
      | ((with_reducible refine wpList_append_mine (o := ⟨some 21, _, _, _, _, _⟩) ?_ (.tmp 19) (.tmp 20) ?_ w.heap.size w.heap.size (b ++ [BitVec.ofNat 8 s.length]) s ?_ ?_ ?_ ?_ ?_); exact rfl; exact rfl; exact hv3; exact Sl.below HT.out hb3.out; (simp; omega); (exact hb3.out.size); intro v4 w4 hv4 hgr4 _ _; have hb4 := Lib.hid (below_mine hb3.out hv3 hgr4 (Nat.le_refl _) hb3.out.size); obtain ⟨A4, c4, rfl, _, _⟩ := hv4.form; clear hgr4))
    go_ret
    exact ⟨_, rfl, by rw [HD.out]; simpa using hv4, hb4.out⟩
  · rw [Nat.min_eq_right (by omega)] at HD
    have HT := Lib.hid (Bytes.take (n := 255) HU.out (by omega))
    have h1 : ¬ (s.length : Int) ≤ 255 := by omega
    have h2 : (255 : Int) < s.length := by omega
    have hmn : min (s.length : Int) 255 = 255 := by omega
    have h3 : (255 : Int) ≤ cap' := by omega
    have hln : (s.take 255).length = 255 := by rw [List.length_take]; omega
    generalize s.take 255 = s' at *
    have hln2 : s'.length ≤ 255 := by omega
    clear hln
    have HB1 : Hid (∀ W : World, Bytes (W.heap.size + 1) (W.alloc (.cells #[.int .u8 255] 5)) (.slice (some ⟨W.heap.size, 0, none⟩) 1 1) [BitVec.ofNat 8 255]) := fun W => by
      have := Bytes.one W (BitVec.ofNat 8 255)
      rw [bI_ofNat _ (by omega)] at this
      exact this
    go_enter Tryd.func27, Tryd.ntmps27
    go_wp2_with (first
      | ((with_reducible refine wpList_append_empty (o := ⟨some 13, _, _, _, _, _⟩) ?_ (.tmp 11) (.tmp 12) ?_ w.heap.size w.heap.size b ?_ ?_ ?_ ?_ ?_); exact rfl; exact rfl; exact rfl; exact Row.new w _ _; exact HV0.out; omega; intro v2 w2 hg1 hv2; obtain ⟨A2, c2, rfl, _, _⟩ := hv2.form; have hb2 : Hid (Below w.heap.size w w2) := (Grows.alloc w (.cells #[] 5)).trans hg1; have HM2 := Lib.hid hv2; clear hg1 hv2)
      | ((with_reducible refine wpList_append_mine (o := ⟨some 18, _, _, _, _, _⟩) ?_ (.tmp 13) (.tmp 17) ?_ w.heap.size (w2.heap.size + 1) b [BitVec.ofNat 8 255] ?_ ?_ ?_ ?_ ?_); exact rfl; exact rfl; exact HM2.out.grows (Grows.alloc _ _); exact HB1.out w2; (simp; omega); (have := hb2.out.size; simp; omega); intro v3 w3 hv3 hgr3 _ _; have hb3 := Lib.hid (below_mine (hb2.out.trans ((Below.refl _ _).alloc hb2.out.size _)) (HM2.out.grows (Grows.alloc _ _)) hgr3 (Nat.le_refl _) (by have := hb2.out.size; simp; omega)); obtain ⟨A3, c3, rfl, _, _⟩ := hv3.form; simp only [List.length_append, List.length_singleton] at hv3; clear hgr3)
      | ((with_reducible refine wpList_append_mine (o := ⟨some 21, _, _, _, _, _⟩) ?_ (.tmp 19) (.tmp 20) ?_ w.heap.size w.heap.size (b ++ [BitVec.ofNat 8 255]) s' ?_ ?_ ?_ ?_ ?_); exact rfl; exact rfl; exact hv3; exact Sl.below HT.out hb3.out; (simp; omega); (exact hb3.out.size); intro v4 w4 hv4 hgr4 _ _; have hb4 := Lib.hid (below_mine hb3.out hv3 hgr4 (Nat.le_refl _) hb3.out.size); obtain ⟨A4, c4, rfl, _, _⟩ := hv4.form; clear hgr4))
    go_ret
    exact ⟨_, rfl, by rw [HD.out]; simpa using hv4, hb4.out⟩
theorem does_append_bytes {B : Nat} {w : World} {o : Oper} {ρ : Operand → Value} {g : Nat} {m : List (BitVec 8)} (s x : Operand)
    (ho : o.op = .call { callee := .builtin .append, args := #[s, x], argTypes := #[40, 40] })
    (hs : ρ s = .slice (some ⟨g, 0, none⟩) 0 0) (hr : Row w g 5 #[]) (hx : Bytes B w (ρ x) m) (hlen : m.length ≤ 1000000) :
    Does Tryd.prog o ρ w fun v' w' => Grows w w' ∧ Bytes w'.heap.size w' v' m := by
  obtain ⟨v', w', hrun, h2, h3⟩ := run_append_empty o.type hr hx hlen
  unfold Does execOp
  simp only [ho, resolve, invoke, builtin, Sem.run_bind, Sem.run_pure, Result.andThen_ok, List.map_toArray, List.map_cons, List.map_nil, hs, hrun]
  exact ⟨h2, h3.bytes⟩
/-- An empty literal, just laid. -/
def EmptyLit (base : Nat) (v : Value) (w : World) : Prop := ∃ g, v = .slice (some ⟨g, 0, none⟩) 0 0 ∧ base ≤ g ∧ Row w g 5 #[]
theorem EmptyLit.mono (base : Nat) : ∀ v w w', EmptyLit base v w → Grows w w' → EmptyLit base v w' := fun v w w' ⟨g, e1, e0, e2⟩ hg => ⟨g, e1, e0, e2.grows hg⟩
theorem mine_mono (base : Nat) (l : List (BitVec 8)) : ∀ v w w', Mine base w v l → Grows w w' → Mine base w' v l := fun v w w' h hg => h.grows hg
theorem does_append_lit {B base : Nat} {w : World} {o : Oper} {ρ : Operand → Value} {m : List (BitVec 8)} (s x : Operand)
    (ho : o.op = .call { callee := .builtin .append, args := #[s, x], argTypes := #[40, 40] })
    (hs : EmptyLit base (ρ s) w) (hx : Bytes B w (ρ x) m) (hlen : m.length ≤ 1000000) :
    Does Tryd.prog o ρ w fun v' w' => Grows w w' ∧ Mine base w' v' m := by
  obtain ⟨g, e1, e0, e2⟩ := hs
  obtain ⟨v', w', hrun, h2, h3⟩ := run_append_empty o.type e2 hx hlen
  unfold Does execOp
  simp only [ho, resolve, invoke, builtin, Sem.run_bind, Sem.run_pure, Result.andThen_ok, List.map_toArray, List.map_cons, List.map_nil, e1, hrun]
  exact ⟨h2, h3.more e0⟩
set_option maxRecDepth 20000 in
set_option maxHeartbeats 1000000 in
theorem rtakeBytesB_any {B : Nat} (v : Value) (b : List (BitVec 8)) (most : Int) (w : World) (hB : B ≤ w.heap.size) (hv : Bytes B w v b) (hl : b.length ≤ 900000) (b1 : -9223372036854775808 ≤ most) (b2 : most ≤ 9223372036854775807) :
    Calls Tryd.prog 31 #[v, .int .i64 most] w fun e w' => ∃ s r, e = .returned (.tuple #[s, r, .int .i64 (PackM.tbE b most)]) ∧ Mine w.heap.size w' s (PackM.tbS b most) ∧ Bytes B w' r (PackM.tbR b most) ∧ Grows w w' := by
  have HV := Lib.hid hv
  obtain ⟨A, cap, rfl, q1, q2, q3⟩ := hv
  simp only [List.length_map] at q1 q3 HV ⊢
  unfold maxLen at q2
  have H3 := Lib.hid q3
  clear q3
  have q4 : (b.length : Int) ≤ 900000 := by omega
  have HSd := Lib.hid (show PackM.tbS b most = if PackM.tbE b most = 0 then (b.drop 1).take (PackM.many b) else [] from rfl)
  have HRd := Lib.hid (show PackM.tbR b most = if PackM.tbE b most = 0 then b.drop (1 + PackM.many b) else b from rfl)
  have HEd := Lib.hid (show PackM.tbE b most = if b.length = 0 ∨ b.length - 1 < PackM.many b then 20 else if most < PackM.many b then 21 else 0 from rfl)
  by_cases h0 : b.length = 0
  · rw [if_pos (.inl h0)] at HEd
    have HTS : Hid (PackM.tbS b most = []) := by rw [HSd.out, HEd.out]; rfl
    have HTR : Hid (PackM.tbR b most = b) := by rw [HRd.out, HEd.out]; rfl
    have hbb : ((b.length : Int) == 0) = true := by rw [beq_iff_eq]; omega
    clear h0 HSd HRd H3
    go_enter Tryd.func31, Tryd.ntmps31
    go_wp2
    refine bodyPost_ret (v := .tuple #[.slice none 0 0, .slice A b.length cap, .int .i64 20]) (by simp [results, Tryd.f31, go_sem]) rfl ?_
    exact ⟨_, _, by rw [HEd.out], by rw [HTS.out]; exact Mine.nil _ _, by rw [HTR.out]; exact HV.out, Grows.refl _⟩
  · have hbb : ((b.length : Int) == 0) = false := by rw [beq_eq_false_iff_ne]; omega
    have hb1 : (1 : Int) ≤ b.length := by omega
    obtain ⟨x, l, rfl⟩ : ∃ x l, b = x :: l := by
      cases b with
      | nil => simp at h0
      | cons x l => exact ⟨x, l, rfl⟩
    obtain ⟨g1, o1, rfl, hg1, hcA⟩ := H3.out (by omega)
    have hc0 := hcA 0 (byteV x) rfl
    rw [Nat.add_zero] at hc0
    unfold byteV at hc0
    have hm : PackM.many (x :: l) = x.toNat := rfl
    have hx0 := bI_nonneg x
    have hx1 := bI_lt x
    have hxm : bI x = (x.toNat : Int) := rfl
    rw [hm] at HSd HRd HEd
    generalize x.toNat = m at *
    generalize hn : (x :: l).length = n at *
    have HN := Lib.hid hn
    clear h0 hm H3 hcA hn
    by_cases h1 : n - 1 < m
    · rw [if_pos (.inr h1)] at HEd
      have HTS : Hid (PackM.tbS (x :: l) most = []) := by rw [HSd.out, HEd.out]; rfl
      have HTR : Hid (PackM.tbR (x :: l) most = x :: l) := by rw [HRd.out, HEd.out]; rfl
      have h1' : (n : Int) - 1 < bI x := by omega
      have h1'' : (n : Int) - 1 < m := by omega
      have hm1 : (m : Int) < 256 := by omega
      clear HSd HRd h1
      rw [hxm] at hc0
      have hxm' := Lib.hid hxm
      clear hxm
      go_enter Tryd.func31, Tryd.ntmps31
      go_wp2
      refine bodyPost_ret (v := .tuple #[.slice none 0 0, .slice (some ⟨g1, o1, none⟩) n cap, .int .i64 20]) (by simp [results, Tryd.f31, go_sem]) rfl ?_
      exact ⟨_, _, by rw [HEd.out], by rw [HTS.out]; exact Mine.nil _ _, by rw [HTR.out]; exact HV.out, Grows.refl _⟩
    · rw [if_neg (by rintro (h | h); omega; exact h1 h)] at HEd
      have h1' : ¬ (n : Int) - 1 < m := by omega
      have h1'' : (m : Int) + 1 ≤ n := by omega
      have hm1 : (m : Int) < 256 := by omega
      rw [hxm] at hc0
      have hxm' := Lib.hid hxm
      clear hxm hx0 hx1
      by_cases h2 : most < m
      · rw [if_pos h2] at HEd
        have HTS : Hid (PackM.tbS (x :: l) most = []) := by rw [HSd.out, HEd.out]; rfl
        have HTR : Hid (PackM.tbR (x :: l) most = x :: l) := by rw [HRd.out, HEd.out]; rfl
        clear HSd HRd h1
        go_enter Tryd.func31, Tryd.ntmps31
        go_wp2
        refine bodyPost_ret (v := .tuple #[.slice none 0 0, .slice (some ⟨g1, o1, none⟩) n cap, .int .i64 21]) (by simp [results, Tryd.f31, go_sem]) rfl ?_
        exact ⟨_, _, by rw [HEd.out], by rw [HTS.out]; exact Mine.nil _ _, by rw [HTR.out]; exact HV.out, Grows.refl _⟩
      · rw [if_neg h2] at HEd
        have HTS : Hid (PackM.tbS (x :: l) most = ((x :: l).drop 1).take m) := by rw [HSd.out, HEd.out]; rfl
        have HTR : Hid (PackM.tbR (x :: l) most = (x :: l).drop (1 + m)) := by rw [HRd.out, HEd.out]; rfl
        have u1 : IntKind.i64.wrap (1 + (m : Int)) = 1 + (m : Int) := IntWalk.i64_in _ (by omega)
        have u2 : (1 + (m : Int)).toNat = 1 + m := by omega
        have u3 : (1 : Int) + m ≤ n := by omega
        have u4 : (1 : Int) + m ≤ cap := by omega
        have u5 : (0 : Int) ≤ 1 + m := by omega
        have u6 : (1 : Int) ≤ 1 + m := by omega
        clear HSd HRd h1
        go_enter Tryd.func31, Tryd.ntmps31
        go_wp2
        refine wp_region_free 13 40 (by kernel_rfl) (by kernel_rfl) rfl (by kernel_rfl) ?_; simp only [List.take_succ_cons, List.take_zero, List.drop_succ_cons, List.drop_zero]
        refine free_op (EmptyLit w.heap.size) rfl (EmptyLit.mono _) (fun vs wq hg hd => by
          (try simp [Region.binds] at hd); simp only [Does]; simp only [execOp, resolve, Option.map_some, Option.map_none, List.map_toArray, List.map_cons, List.map_nil, rho_const, rho_func]; (repeat (conv in rho _ _ _ _ (Operand.tmp _) => whnf)); (try simp only [hd]); go_simp; (repeat (conv in rho _ _ _ _ (Operand.tmp _) => whnf))
          exact ⟨Grows.alloc _ _, wq.heap.size, rfl, (Grows.of_drew hg).size, Row.new _ _ _⟩) ?_
        repeat (apply free_pure rfl; focus (intro vs w hg hd;  (try simp [Region.binds] at hd); simp only [execOp, resolve, Option.map_some, Option.map_none, List.map_toArray, List.map_cons, List.map_nil, rho_const, rho_func]; (repeat (conv in rho _ _ _ _ (Operand.tmp _) => whnf)); (try simp only [hd]); go_simp; (repeat (conv in rho _ _ _ _ (Operand.tmp _) => whnf)); (try simp only [hd]);  rfl))
        refine free_op (fun v_ w_ => Mine w.heap.size w_ v_ (((x :: l).drop 1).take m)) rfl (mine_mono _ _) (fun vs wq hg hd => by
          simp [Region.binds] at hd
          obtain ⟨e2, e3⟩ := hd
          have hcut := Bytes.cut (l := 1) (h := 1 + m) (Sl.below HV.out (Below.mono (Grows.of_drew hg) hB)) (by omega) (by rw [HN.out]; omega)
          rw [Nat.add_sub_cancel_left, Option.map_some, add_lit, List.drop_take, Nat.add_sub_cancel_left] at hcut
          rw [← e3] at hcut
          exact does_append_lit (.tmp 30) (.tmp 34) rfl e2 hcut (by rw [List.length_take]; omega)) ?_
        repeat (apply free_pure rfl; focus (intro vs w hg hd;  (try simp [Region.binds] at hd); simp only [execOp, resolve, Option.map_some, Option.map_none, List.map_toArray, List.map_cons, List.map_nil, rho_const, rho_func]; (repeat (conv in rho _ _ _ _ (Operand.tmp _) => whnf)); (try simp only [hd]); go_simp; (repeat (conv in rho _ _ _ _ (Operand.tmp _) => whnf)); (try simp only [hd]);  rfl))
        refine free_op (fun v_ w_ => Mine w.heap.size w_ v_ (((x :: l).drop 1).take m)) rfl (mine_mono _ _) (fun vs wq hg hd => by
          (try simp [Region.binds] at hd); simp only [Does]; simp only [execOp, resolve, Option.map_some, Option.map_none, List.map_toArray, List.map_cons, List.map_nil, rho_const, rho_func]; (repeat (conv in rho _ _ _ _ (Operand.tmp _) => whnf)); (try simp only [hd]); go_simp; (repeat (conv in rho _ _ _ _ (Operand.tmp _) => whnf))
          exact Grows.refl _) ?_
        repeat (apply free_pure rfl; focus (intro vs w hg hd;  (try simp [Region.binds] at hd); simp only [execOp, resolve, Option.map_some, Option.map_none, List.map_toArray, List.map_cons, List.map_nil, rho_const, rho_func]; (repeat (conv in rho _ _ _ _ (Operand.tmp _) => whnf)); (try simp only [hd]); go_simp; (repeat (conv in rho _ _ _ _ (Operand.tmp _) => whnf)); (try simp only [hd]);  rfl))
        intro vs w' hg hv; have h10 := hv 10 (by omega); simp at h10; have h11 := hv 11 (by omega); simp at h11; have h12 := hv 12 (by omega); simp at h12; simp only [putL, dstAt, List.range, List.range.loop, if_true, List.getElem?_toArray, List.getElem?_cons_zero, List.getElem?_cons_succ, Option.bind_some, Act.put, List.setIfInBounds_toArray, List.set_cons_zero, List.set_cons_succ]
        rw [h12]
        have hgW := Grows.of_drew hg
        have hB11 : Bytes B w' (vs 11) ((x :: l).drop (1 + m)) := by
          rw [h11]
          have hcut := Bytes.cut (l := 1 + m) (h := n) (Sl.below HV.out (Below.mono hgW hB)) (by omega) (by rw [HN.out]; exact Nat.le_refl _)
          rw [← HN.out, List.take_length, HN.out] at hcut
          simpa [add_lit] using hcut
        clear hv h11 h12 hg
        generalize vs 0 = z0, vs 1 = z1, vs 2 = z2, vs 3 = z3, vs 4 = z4, vs 5 = z5, vs 6 = z6, vs 7 = z7, vs 8 = z8, vs 9 = z9, vs 10 = z10, vs 11 = z11, vs 12 = z12 at *
        have h10' := Lib.hid h10
        have h11' := Lib.hid hB11
        obtain ⟨A5, c5, rfl, _⟩ := h10.form
        obtain ⟨A6, c6, rfl, _⟩ := hB11
        go_wp2
        refine bodyPost_ret (v := .tuple #[.slice A5 (((x :: l).drop 1).take m).length c5, .slice A6 (((x :: l).drop (1 + m)).map byteV).length c6, .int .i64 0]) (by simp [results, Tryd.f31, go_sem]) rfl ?_
        exact ⟨_, _, by rw [HEd.out], by rw [HTS.out]; exact h10'.out, by rw [HTR.out]; exact h11'.out, hgW⟩
theorem rtakeBytes_any (v : Value) (b : List (BitVec 8)) (most : Int) (w : World) (hv : Bytes w.heap.size w v b) (hl : b.length ≤ 900000) (b1 : -9223372036854775808 ≤ most) (b2 : most ≤ 9223372036854775807) :
    Calls Tryd.prog 31 #[v, .int .i64 most] w fun e w' => ∃ s r, e = .returned (.tuple #[s, r, .int .i64 (PackM.tbE b most)]) ∧ Bytes w'.heap.size w' s (PackM.tbS b most) ∧ Bytes w'.heap.size w' r (PackM.tbR b most) ∧ Grows w w' :=
  (rtakeBytesB_any v b most w (Nat.le_refl _) hv hl b1 b2).mono fun e w' ⟨s, r, h1, h2, h3, h4⟩ => ⟨s, r, h1, h2.bytes, h3.more h4.size, h4⟩
end Go.Proofs.YtjcommodiihcdaaDoor
