/- PackRef -/
import Derived.Test.YtjcommodiihcdaaDoorPackPagesAny
/- The document's answers for layer 2. -/
namespace Go.Proofs.YtjcommodiihcdaaDoor
open Go.RowKit
set_option linter.unusedVariables false
set_option linter.unusedSimpArgs false
attribute [local go_sem high] sliced_cut
attribute [local go_sem] cutA_zero Nat.sub_zero wrap_u64_bI wrap_u8_uI uI_shl uI_shr bits_or_u
set_option maxHeartbeats 1000000 in
/-- The document's Take. -/
theorem rtakeB_any {B : Nat} (v : Value) (b : List (BitVec 8)) (width : Int) (w : World) (hB : B ≤ w.heap.size) (hv : Bytes B w v b) (hl : b.length ≤ 900000) (b1 : -9223372036854775808 ≤ width) (b2 : width ≤ 9223372036854775807) :
    Calls Tryd.prog 47 #[v, .int .i64 width] w fun e w' => ∃ r, e = .returned (.tuple #[.int .u64 (uI (PackM.takeN b width)), r, .int .i64 (PackM.takeE b width)]) ∧ Bytes B w' r (PackM.takeR b width) ∧ Grows w w' := by
  have HV := Lib.hid hv
  obtain ⟨A, cap, rfl, q1, q2, q3⟩ := hv
  simp only [List.length_map] at q1 q3 HV ⊢
  unfold maxLen at q2
  have H3 := Lib.hid q3
  clear q3
  have k1 := PackM.wd_lo width
  have k2 := PackM.wd_hi width
  have HI := Lib.hid (fun w => wide_any width b1 b2 w)
  have HDn := Lib.hid (show PackM.takeN b width = if b.length < PackM.wd width then 0#64 else Num.num (b.take (PackM.wd width)) from rfl)
  have HDr := Lib.hid (show PackM.takeR b width = if b.length < PackM.wd width then b else b.drop (PackM.wd width) from rfl)
  have HDe := Lib.hid (show PackM.takeE b width = if b.length < PackM.wd width then 20 else 0 from rfl)
  generalize PackM.wd width = wd at *
  have q3 : (b.length : Int) ≤ 900000 := by omega
  have q4 : (wd : Int) ≤ 8 := by omega
  by_cases hlt : b.length < wd
  · rw [if_pos hlt] at HDn HDr HDe
    go_enter Tryd.func47, Tryd.ntmps47
    go_wp2_with (go_at_call 55; refine (HI.out _).mono ?_; rintro e w' ⟨rfl, rfl⟩)
    refine bodyPost_ret (v := .tuple #[.int .u64 0, .slice A b.length cap, .int .i64 20]) (by simp [results, Tryd.f47, go_sem]) rfl ?_
    exact ⟨_, by rw [HDn.out, HDe.out]; rfl, by rw [HDr.out]; exact HV.out, Grows.refl _⟩
  · rw [if_neg hlt] at HDn HDr HDe
    go_enter Tryd.func47, Tryd.ntmps47
    go_wp2_with (go_at_call 55; refine (HI.out _).mono ?_; rintro e w' ⟨rfl, rfl⟩)
    go_loop [8, 9] (fun c i => ∃ k : Nat, k ≤ wd ∧ i = .int .i64 k ∧ c = .int .u64 (uI (Num.num (b.take k)))) (fun _ i => wd - (intOf i).toNat)
    case atStart => exact ⟨0, Nat.zero_le _, rfl, rfl⟩
    case round =>
      obtain ⟨k, hk, rfl, rfl⟩ := hrel
      by_cases hkw : k < wd
      · obtain ⟨g1, o1, rfl, hg1, hcA⟩ := H3.out (by omega)
        have e1 : b[k]? = some b[k] := List.getElem?_eq_getElem (by omega)
        have hck := hcA k (byteV b[k]) (by rw [List.getElem?_map, e1]; rfl)
        have HK := Lib.hid (Num.num_take b k _ e1)
        generalize b[k] = x at *
        generalize Num.num (b.take k) = c at *
        unfold byteV at hck
        have hk8 : (k : Int) < 8 := by omega
        clear e1 hcA H3
        go_wp2
        go_round
        case rel => exact ⟨k + 1, by omega, by go_num, by rw [HK.out]⟩
        case measure => simp [intOf]; omega
      · obtain rfl : k = wd := by omega
        have d1 : (k : Int) ≤ b.length := by omega
        have d2 : (k : Int) ≤ cap := by omega
        clear H3
        generalize hnum : Num.num (b.take k) = c at *
        have HNum := Lib.hid hnum
        clear hnum
        go_wp2
        refine wp_region_free 7 37 (by kernel_rfl) (by kernel_rfl) rfl (by kernel_rfl) ?_; simp only [List.take_succ_cons, List.take_zero, List.drop_succ_cons, List.drop_zero]
        repeat (apply free_pure rfl; focus (intro vs w hg hd;  (try simp [Region.binds] at hd); simp only [execOp, resolve, Option.map_some, Option.map_none, List.map_toArray, List.map_cons, List.map_nil, rho_const, rho_func]; (repeat (conv in rho _ _ _ _ (Operand.tmp _) => whnf)); (try simp only [hd]); go_simp; (repeat (conv in rho _ _ _ _ (Operand.tmp _) => whnf)); (try simp only [hd]);  rfl))
        intro vs w' hg hv; have h4 := hv 4 (by omega); simp at h4; have h5 := hv 5 (by omega); simp at h5; have h6 := hv 6 (by omega); simp at h6; simp only [putL, dstAt, List.range, List.range.loop, if_true, List.getElem?_toArray, List.getElem?_cons_zero, List.getElem?_cons_succ, Option.bind_some, Act.put, List.setIfInBounds_toArray, List.set_cons_zero, List.set_cons_succ]
        rw [h4, h6]
        have hgW := Grows.of_drew hg
        have hB5 : Bytes B w' (vs 5) (b.drop k) := by
          rw [h5]
          have hcut := Bytes.cut (l := k) (h := b.length) (Sl.below HV.out (Below.mono hgW hB)) (by omega) (Nat.le_refl _)
          rw [List.take_length] at hcut
          exact hcut
        clear hv h4 h5 h6 hg
        generalize vs 0 = z0, vs 1 = z1, vs 2 = z2, vs 3 = z3, vs 4 = z4, vs 5 = z5, vs 6 = z6 at *
        have h5' := Lib.hid hB5
        obtain ⟨A5, c5, rfl, _⟩ := hB5
        go_wp2
        refine bodyPost_ret (v := .tuple #[.int .u64 (uI c), .slice A5 ((b.drop k).map byteV).length c5, .int .i64 0]) (by simp [results, Tryd.f47, go_sem]) rfl ?_
        exact ⟨_, by rw [HDn.out, HDe.out], by rw [HDr.out]; exact h5'.out, hgW⟩
theorem rtake_any (v : Value) (b : List (BitVec 8)) (width : Int) (w : World) (hv : Bytes w.heap.size w v b) (hl : b.length ≤ 900000) (b1 : -9223372036854775808 ≤ width) (b2 : width ≤ 9223372036854775807) :
    Calls Tryd.prog 47 #[v, .int .i64 width] w fun e w' => ∃ r, e = .returned (.tuple #[.int .u64 (uI (PackM.takeN b width)), r, .int .i64 (PackM.takeE b width)]) ∧ Bytes w'.heap.size w' r (PackM.takeR b width) ∧ Grows w w' :=
  (rtakeB_any v b width w (Nat.le_refl _) hv hl b1 b2).mono fun e w' ⟨r, h1, h2, h3⟩ => ⟨r, h1, h2.more h3.size, h3⟩
theorem fillk_set (b : List (BitVec 8)) (k : Nat) (hk : k < b.length) (hb : b.length ≤ 256) : (b.take k ++ List.replicate (256 - k) 0#8).set k b[k] = b.take (k + 1) ++ List.replicate (256 - (k + 1)) 0#8 := by
  have hl : (b.take k).length = k := by rw [List.length_take]; omega
  rw [List.set_append_right _ _ (by omega), hl, Nat.sub_self]
  obtain ⟨m, hm⟩ : ∃ m, 256 - k = m + 1 := ⟨256 - (k + 1), by omega⟩
  rw [hm, show 256 - (k + 1) = m by omega, List.replicate_succ, List.set_cons_zero, List.take_add_one, List.getElem?_eq_getElem hk, List.append_assoc]
  rfl
theorem fillk_get (b : List (BitVec 8)) (k : Nat) (hk : k < b.length) (hb : b.length ≤ 256) : (b.take k ++ List.replicate (256 - k) 0#8)[k]? = some 0#8 := by
  have hl : (b.take k).length = k := by rw [List.length_take]; omega
  rw [List.getElem?_append_right (by omega), hl, Nat.sub_self, List.getElem?_replicate, if_pos (by omega)]
theorem fillk_len (b : List (BitVec 8)) (k : Nat) (hk : k ≤ b.length) (hb : b.length ≤ 256) : (b.take k ++ List.replicate (256 - k) 0#8).length = 256 := by
  rw [List.length_append, List.length_take, List.length_replicate]; omega
theorem halfk_set (old now : List (BitVec 8)) (k : Nat) (h1 : old.length = 256) (h2 : now.length = 256) (hk : k < 128) : (now.take k ++ old.drop k).set k (now[k]'(by omega)) = now.take (k + 1) ++ old.drop (k + 1) := by
  have hl : (now.take k).length = k := by rw [List.length_take]; omega
  rw [List.set_append_right _ _ (by omega), hl, Nat.sub_self, List.drop_eq_getElem_cons (show k < old.length by omega), List.set_cons_zero, List.take_add_one, List.getElem?_eq_getElem (show k < now.length by omega), List.append_assoc]
  rfl
theorem halfk_get (old now : List (BitVec 8)) (k : Nat) (h1 : old.length = 256) (h2 : now.length = 256) (hk : k < 128) : (now.take k ++ old.drop k)[k]? = some (old[k]'(by omega)) := by
  have hl : (now.take k).length = k := by rw [List.length_take]; omega
  rw [List.getElem?_append_right (by omega), hl, Nat.sub_self, List.getElem?_drop, Nat.add_zero, List.getElem?_eq_getElem]
set_option maxRecDepth 20000 in
set_option maxHeartbeats 2000000 in
/-- The document's Fill. -/
theorem rfill_any (v : Value) (b : List (BitVec 8)) (w : World) (hv : Bytes w.heap.size w v b) (hl : b.length ≤ 900000) :
    Calls Tryd.prog 28 #[v] w fun e w' => e = .returned (.tuple #[.agg (pageA (PackM.fill b)), .int .i64 (PackM.fillE b)]) ∧ Grows w w' := by
  obtain ⟨A, cap, rfl, q1, q2, q3⟩ := hv
  simp only [List.length_map] at q1 q3 ⊢
  unfold maxLen at q2
  have H3 := Lib.hid q3
  clear q3
  have q4 : (b.length : Int) ≤ 900000 := by omega
  have hz := fun w => zero_page w
  have R4 : Hid (PRow ((w.alloc (.cells (pageA noughts) 24)).alloc (.cells (pageA noughts) 24)) (w.heap.size + 1) noughts) := by
    have := PRow.new (w.alloc (.cells (pageA noughts) 24)) noughts_length
    rwa [World.size_alloc] at this
  have R2 := Lib.hid ((PRow.new w noughts_length).alloc (.cells (pageA noughts) 24))
  have HG := Lib.hid ((Grows.alloc w (.cells (pageA noughts) 24)).trans (Grows.alloc _ (.cells (pageA noughts) 24)))
  by_cases h : 256 < b.length
  · have h' : (256 : Int) < b.length := by omega
    have HF : Hid (PackM.fill b = noughts) := by unfold Hid PackM.fill; rw [if_pos h]; rfl
    have HE : Hid (PackM.fillE b = 21) := by unfold Hid PackM.fillE; rw [if_pos h]
    go_enter Tryd.func28, Tryd.ntmps28
    go_wp2_with (first
      | ((with_reducible refine wpList_load_page (o := ⟨some 9, _, _, _, _, _⟩) ?_ (.tmp 4) ?_ (w.heap.size + 1) noughts ?_ ?_ ?_); exact rfl; exact rfl; exact rfl; exact R4.out)
      | ((with_reducible refine wpList_store_page ?_ (.tmp 2) (.tmp 9) ?_ w.heap.size noughts noughts ?_ ?_ ?_ ?_ ?_); exact rfl; exact rfl; exact rfl; exact rfl; exact noughts_length; exact R2.out; intro w1 hp1 hg1)
      | (refine bodyPost_ret (results_page_two (p := 2) (q := 3) (by exact rfl) _ (.int .i64 21) (by exact rfl) (by exact rfl) hp1) rfl ?_; exact ⟨by rw [HF.out, HE.out], HG.out.grown hg1 HG.out.size (fun k e => by cases e; exact Nat.le_refl _)⟩))
  · have h' : ¬ (256 : Int) < b.length := by omega
    have h2 : b.length ≤ 256 := by omega
    have HE : Hid (PackM.fillE b = 0) := by unfold Hid PackM.fillE; rw [if_neg h]
    have HFd : Hid (PackM.fill b = b ++ List.replicate (256 - b.length) 0#8) := by unfold Hid PackM.fill; rw [if_neg h]
    go_enter Tryd.func28, Tryd.ntmps28
    go_wp2
    go_loopw [5] (fun i wr => ∃ k : Nat, k ≤ b.length ∧ i = .int .i64 k ∧ PRow wr (w.heap.size + 1) (b.take k ++ List.replicate (256 - k) 0#8) ∧ PRow wr w.heap.size noughts ∧ Below w.heap.size w wr) (fun i _ => b.length - (intOf i).toNat)
    case atStart => exact ⟨0, Nat.zero_le _, rfl, R4.out, R2.out, HG.out⟩
    case round =>
      obtain ⟨k, hk, rfl, hp, hp2, hb⟩ := hrel
      have HP := Lib.hid hp; have HP2 := Lib.hid hp2; have HB := Lib.hid hb
      clear hp hp2
      by_cases hlt : k < b.length
      · obtain ⟨g1, o1, rfl, hg1, hcA⟩ := H3.out (by omega)
        have e1 : b[k]? = some b[k] := List.getElem?_eq_getElem hlt
        have hck := (Below.cell hb (p := ⟨g1, o1 + k, none⟩) hg1).trans (hcA k (byteV b[k]) (by rw [List.getElem?_map, e1]; rfl))
        have hc0 := HP.out.cell k 0#8 (fillk_get b k hlt h2)
        have hf0 := HP.out.frozen k
        have HS := Lib.hid (fillk_set b k hlt h2)
        have hk2 : (k : Int) < 256 := by omega
        generalize b[k] = x at *
        unfold byteV at hck
        clear e1 hcA H3 hb
        go_wp2
        go_roundw
        case rel => exact ⟨k + 1, by omega, by go_num, by rw [← HS.out]; exact HP.out.set k x, HP2.out.far (by simp) _, HB.out.setCell (by simp) _⟩
        case measure => simp [intOf]; omega
      · obtain rfl : k = b.length := by omega
        have HP' : Hid (PRow wr (w.heap.size + 1) (PackM.fill b)) := by have := HP.out; rw [List.take_length, ← HFd.out] at this; exact this
        clear H3 HP hb HFd
        obtain ⟨F, hF⟩ : ∃ F, F = PackM.fill b := ⟨_, rfl⟩
        rw [← hF] at HP'
        have HFF := Lib.hid hF
        clear hF
        go_wp2_with (first
          | ((with_reducible refine wpList_load_page (o := ⟨some 22, _, _, _, _, _⟩) ?_ (.tmp 4) ?_ (w.heap.size + 1) F ?_ ?_ ?_); exact rfl; exact rfl; exact rfl; exact HP'.out)
          | ((with_reducible refine wpList_store_page ?_ (.tmp 2) (.tmp 22) ?_ w.heap.size F noughts ?_ ?_ ?_ ?_ ?_); exact rfl; exact rfl; exact rfl; exact rfl; exact HP'.out.1; exact HP2.out; intro w1 hp1 hg1)
          | (refine bodyPost_ret (results_page_two (p := 2) (q := 3) (by exact rfl) _ (.int .i64 0) (by exact rfl) (by exact rfl) hp1) rfl ?_; exact ⟨by rw [HE.out, ← HFF.out], HB.out.grown hg1 HB.out.size (fun k e => by cases e; exact Nat.le_refl _)⟩))
end Go.Proofs.YtjcommodiihcdaaDoor
