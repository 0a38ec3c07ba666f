/- PackRef -/
import Derived.Test.YtnigflobmiiefaaDoorPackPagesAny
/- The document's answers for layer 2. -/
namespace Go.Proofs.YtnigflobmiiefaaDoor
open Go.RowKit
set_option linter.unusedVariables false
set_option linter.unusedSimpArgs false
attribute [local go_sem high] sliced_cut
attribute [local go_sem] cutA_zero Nat.sub_zero wrap_u64_bI wrap_u8_uI uI_shl uI_shr bits_or_u
set_option maxHeartbeats 1000000 in
/-- The document's Take. -/
theorem rtakeB_any {B : Nat} (v : Value) (b : List (BitVec 8)) (width : Int) (w : World) (hB : B ≤ w.heap.size) (hv : Bytes B w v b) (hl : b.length ≤ 900000) (b1 : -9223372036854775808 ≤ width) (b2 : width ≤ 9223372036854775807) :
    Calls Tryd.prog 37 #[v, .int .i64 width] w fun e w' => ∃ r, e = .returned (.tuple #[.int .u64 (uI (PackM.takeN b width)), r, .int .i64 (PackM.takeE b width)]) ∧ Bytes B w' r (PackM.takeR b width) ∧ Grows w w' := by
  have HV := Lib.hid hv
  obtain ⟨A, cap, rfl, q1, q2, q3⟩ := hv
  simp only [List.length_map] at q1 q3 HV ⊢
  unfold maxLen at q2
  have H3 := Lib.hid q3
  clear q3
  have k1 := PackM.wd_lo width
  have k2 := PackM.wd_hi width
  have HI := Lib.hid (fun w => wide_any width b1 b2 w)
  have HDn := Lib.hid (show PackM.takeN b width = if b.length < PackM.wd width then 0#64 else Num.num (b.take (PackM.wd width)) from rfl)
  have HDr := Lib.hid (show PackM.takeR b width = if b.length < PackM.wd width then b else b.drop (PackM.wd width) from rfl)
  have HDe := Lib.hid (show PackM.takeE b width = if b.length < PackM.wd width then 20 else 0 from rfl)
  generalize PackM.wd width = wd at *
  have q3 : (b.length : Int) ≤ 900000 := by omega
  have q4 : (wd : Int) ≤ 8 := by omega
  by_cases hlt : b.length < wd
  · rw [if_pos hlt] at HDn HDr HDe
    go_enter Tryd.func37, Tryd.ntmps37
    go_wp2_with (go_at_call 46; refine (HI.out _).mono ?_; rintro e w' ⟨rfl, rfl⟩)
    refine bodyPost_ret (v := .tuple #[.int .u64 0, .slice A b.length cap, .int .i64 20]) (by simp [results, Tryd.f37, go_sem]) rfl ?_
    exact ⟨_, by rw [HDn.out, HDe.out]; rfl, by rw [HDr.out]; exact HV.out, Grows.refl _⟩
  · rw [if_neg hlt] at HDn HDr HDe
    go_enter Tryd.func37, Tryd.ntmps37
    go_wp2_with (go_at_call 46; refine (HI.out _).mono ?_; rintro e w' ⟨rfl, rfl⟩)
    go_loop [8, 9] (fun c i => ∃ k : Nat, k ≤ wd ∧ i = .int .i64 k ∧ c = .int .u64 (uI (Num.num (b.take k)))) (fun _ i => wd - (intOf i).toNat)
    case atStart => exact ⟨0, Nat.zero_le _, rfl, rfl⟩
    case round =>
      obtain ⟨k, hk, rfl, rfl⟩ := hrel
      by_cases hkw : k < wd
      · obtain ⟨g1, o1, rfl, hg1, hcA⟩ := H3.out (by omega)
        have e1 : b[k]? = some b[k] := List.getElem?_eq_getElem (by omega)
        have hck := hcA k (byteV b[k]) (by rw [List.getElem?_map, e1]; rfl)
        have HK := Lib.hid (Num.num_take b k _ e1)
        generalize b[k] = x at *
        generalize Num.num (b.take k) = c at *
        unfold byteV at hck
        have hk8 : (k : Int) < 8 := by omega
        clear e1 hcA H3
        go_wp2
        go_round
        case rel => exact ⟨k + 1, by omega, by go_num, by rw [HK.out]⟩
        case measure => simp [intOf]; omega
      · obtain rfl : k = wd := by omega
        have d1 : (k : Int) ≤ b.length := by omega
        have d2 : (k : Int) ≤ cap := by omega
        clear H3
        generalize hnum : Num.num (b.take k) = c at *
        have HNum := Lib.hid hnum
        clear hnum
        go_wp2
        refine wp_region_free 7 37 (by kernel_rfl) (by kernel_rfl) rfl (by kernel_rfl) ?_; simp only [List.take_succ_cons, List.take_zero, List.drop_succ_cons, List.drop_zero]
        repeat (apply free_pure rfl; focus (intro vs w hg hd;  (try simp [Region.binds] at hd); simp only [execOp, resolve, Option.map_some, Option.map_none, List.map_toArray, List.map_cons, List.map_nil, rho_const, rho_func]; (repeat (conv in rho _ _ _ _ (Operand.tmp _) => whnf)); (try simp only [hd]); go_simp; (repeat (conv in rho _ _ _ _ (Operand.tmp _) => whnf)); (try simp only [hd]);  rfl))
        intro vs w' hg hv; have h4 := hv 4 (by omega); simp at h4; have h5 := hv 5 (by omega); simp at h5; have h6 := hv 6 (by omega); simp at h6; simp only [putL, dstAt, List.range, List.range.loop, if_true, List.getElem?_toArray, List.getElem?_cons_zero, List.getElem?_cons_succ, Option.bind_some, Act.put, List.setIfInBounds_toArray, List.set_cons_zero, List.set_cons_succ]
        rw [h4, h6]
        have hgW := Grows.of_drew hg
        have hB5 : Bytes B w' (vs 5) (b.drop k) := by
          rw [h5]
          have hcut := Bytes.cut (l := k) (h := b.length) (Sl.below HV.out (Below.mono hgW hB)) (by omega) (Nat.le_refl _)
          rw [List.take_length] at hcut
          exact hcut
        clear hv h4 h5 h6 hg
        generalize vs 0 = z0, vs 1 = z1, vs 2 = z2, vs 3 = z3, vs 4 = z4, vs 5 = z5, vs 6 = z6 at *
        have h5' := Lib.hid hB5
        obtain ⟨A5, c5, rfl, _⟩ := hB5
        go_wp2
        refine bodyPost_ret (v := .tuple #[.int .u64 (uI c), .slice A5 ((b.drop k).map byteV).length c5, .int .i64 0]) (by simp [results, Tryd.f37, go_sem]) rfl ?_
        exact ⟨_, by rw [HDn.out, HDe.out], by rw [HDr.out]; exact h5'.out, hgW⟩
theorem rtake_any (v : Value) (b : List (BitVec 8)) (width : Int) (w : World) (hv : Bytes w.heap.size w v b) (hl : b.length ≤ 900000) (b1 : -9223372036854775808 ≤ width) (b2 : width ≤ 9223372036854775807) :
    Calls Tryd.prog 37 #[v, .int .i64 width] w fun e w' => ∃ r, e = .returned (.tuple #[.int .u64 (uI (PackM.takeN b width)), r, .int .i64 (PackM.takeE b width)]) ∧ Bytes w'.heap.size w' r (PackM.takeR b width) ∧ Grows w w' :=
  (rtakeB_any v b width w (Nat.le_refl _) hv hl b1 b2).mono fun e w' ⟨r, h1, h2, h3⟩ => ⟨r, h1, h2.more h3.size, h3⟩
theorem fillk_set (b : List (BitVec 8)) (k : Nat) (hk : k < b.length) (hb : b.length ≤ 256) : (b.take k ++ List.replicate (256 - k) 0#8).set k b[k] = b.take (k + 1) ++ List.replicate (256 - (k + 1)) 0#8 := by
  have hl : (b.take k).length = k := by rw [List.length_take]; omega
  rw [List.set_append_right _ _ (by omega), hl, Nat.sub_self]
  obtain ⟨m, hm⟩ : ∃ m, 256 - k = m + 1 := ⟨256 - (k + 1), by omega⟩
  rw [hm, show 256 - (k + 1) = m by omega, List.replicate_succ, List.set_cons_zero, List.take_add_one, List.getElem?_eq_getElem hk, List.append_assoc]
  rfl
theorem fillk_get (b : List (BitVec 8)) (k : Nat) (hk : k < b.length) (hb : b.length ≤ 256) : (b.take k ++ List.replicate (256 - k) 0#8)[k]? = some 0#8 := by
  have hl : (b.take k).length = k := by rw [List.length_take]; omega
  rw [List.getElem?_append_right (by omega), hl, Nat.sub_self, List.getElem?_replicate, if_pos (by omega)]
theorem fillk_len (b : List (BitVec 8)) (k : Nat) (hk : k ≤ b.length) (hb : b.length ≤ 256) : (b.take k ++ List.replicate (256 - k) 0#8).length = 256 := by
  rw [List.length_append, List.length_take, List.length_replicate]; omega
theorem halfk_set (old now : List (BitVec 8)) (k : Nat) (h1 : old.length = 256) (h2 : now.length = 256) (hk : k < 128) : (now.take k ++ old.drop k).set k (now[k]'(by omega)) = now.take (k + 1) ++ old.drop (k + 1) := by
  have hl : (now.take k).length = k := by rw [List.length_take]; omega
  rw [List.set_append_right _ _ (by omega), hl, Nat.sub_self, List.drop_eq_getElem_cons (show k < old.length by omega), List.set_cons_zero, List.take_add_one, List.getElem?_eq_getElem (show k < now.length by omega), List.append_assoc]
  rfl
theorem halfk_get (old now : List (BitVec 8)) (k : Nat) (h1 : old.length = 256) (h2 : now.length = 256) (hk : k < 128) : (now.take k ++ old.drop k)[k]? = some (old[k]'(by omega)) := by
  have hl : (now.take k).length = k := by rw [List.length_take]; omega
  rw [List.getElem?_append_right (by omega), hl, Nat.sub_self, List.getElem?_drop, Nat.add_zero, List.getElem?_eq_getElem]
end Go.Proofs.YtnigflobmiiefaaDoor
