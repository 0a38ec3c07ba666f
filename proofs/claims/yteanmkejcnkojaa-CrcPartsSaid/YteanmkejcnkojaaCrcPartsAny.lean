/- The law on cuts, as a call. -/
import Derived.Test.YteanmkejcnkojaaCrcThreeAny
namespace Go.Proofs.Yteanmkejcnkojaa
open Go.RowKit
set_option linter.unusedVariables false
set_option linter.unusedSimpArgs false
attribute [local go_sem] uI_beq bI_beq bits_xor_b bits_xor_u cutA_zero Nat.sub_zero bits_not_u
attribute [local go_sem high] sliced_cut
theorem Bytes.cut {B : Nat} {W : World} {A : Option Addr} {cap l h len : Nat} {xs : List (BitVec 8)} (hs : Bytes B W (.slice A len cap) xs) (hl : l ≤ h) (hh : h ≤ xs.length) :
    Bytes B W (.slice (if cap = l then A else Option.map (fun x => x.add l) A) (h - l) (cap - l)) ((xs.take h).drop l) := by
  have := Sl.cut (l := l) (h := h) hs hl (by simpa using hh)
  unfold cutA at this
  unfold Bytes
  rw [List.map_drop, List.map_take]
  simpa using this
theorem cut_four (s : List (BitVec 8)) (p q : Nat) : ([s.take p, [], (s.take (p + q)).drop p, s.drop (p + q)] : List (List (BitVec 8))).flatten = s := by
  simp
  rw [← List.append_assoc, show s.take p ++ (s.take (p + q)).drop p = s.take (p + q) from ?_, List.take_append_drop]
  conv => rhs; rw [← List.take_append_drop p (s.take (p + q))]
  rw [List.take_take, Nat.min_eq_left (by omega)]
set_option maxHeartbeats 1000000 in
set_option maxRecDepth 100000 in
theorem crcParts_any (v : Value) (s : List (BitVec 8)) (at_ to : Int) (w : World) (hs : Bytes w.heap.size w v s) (a1 : -9223372036854775808 ≤ at_) (a2 : at_ ≤ 9223372036854775807) (t1 : -9223372036854775808 ≤ to) (t2 : to ≤ 9223372036854775807) :
    Calls Try.prog 4 #[v, .int .i64 at_, .int .i64 to] w fun e w' => e = .returned (.bool true) ∧ Below w.heap.size w w' := by
  have HS := Lib.hid hs
  obtain ⟨A, cap, rfl, h1, h2, h3⟩ := hs
  simp only [List.length_map] at h1 h3
  unfold maxLen at h2
  simp only [List.length_map]
  have H3 := Lib.hid h3
  clear h3
  by_cases hgt : 3000 < s.length
  · go_enter Try.func4, Try.ntmps4
    go_wp2_with (go_at_call 9; refine (wakes_any _).mono ?_; rintro e w2 ⟨rfl, hb2⟩)
    go_ret
    exact ⟨rfl, hb2⟩
  · obtain ⟨⟨m1, m2⟩, p, hp, e1⟩ := into at_ s.length
    obtain ⟨⟨m3, m4⟩, q, hq, e2⟩ := into to (s.length - p)
    have ec : ((s.length - p : Nat) : Int) = (s.length : Int) - p := by omega
    rw [ec] at m3 m4 e2
    have e2' : (to.tmod ((s.length : Int) - p + 1) + s.length - p + 1) % ((s.length : Int) - p + 1) = q := by rw [← e2]; congr 1; omega
    clear e2 ec
    go_enter Try.func4, Try.ntmps4
    go_wp2_with fail
    simp only [e1, e2']
    have g0 : Grows w (w.alloc (.cells #[Value.slice A s.length cap] 34)) := Grows.alloc _ _
    have hS : Bytes w.heap.size w (.slice A s.length cap) s := by have := HS.out; rwa [List.length_map] at this
    refine (sum1 (l := s) (by simpa using Parts.new hS)).mono ?_
    rintro e w1 ⟨rfl, hg1⟩
    have hb1 : Grows w w1 := g0.trans hg1
    have hS1 : Bytes w1.heap.size w1 (.slice A s.length cap) s := (Sl.below (W := w) hS hb1).more hb1.size
    have X1 := Lib.hid hS1
    have c1 : (p : Int) ≤ cap := by omega
    have c2 : (p : Int) + q ≤ cap := by omega
    have c3 : (p : Int) + q ≤ s.length := by omega
    have c4 : (p : Int) ≤ p + q := by omega
    have c5 : (0 : Int) ≤ (p : Int) + q := by omega
    have c6 : IntKind.i64.wrap ((p : Int) + q) = (p : Int) + q := IntWalk.i64_in _ (by omega)
    have c7 : ((p : Int) + q).toNat = p + q := by omega
    clear hS hS1 HS g0 m1 m2 m3 m4 e1 e2'
    go_wp2_with fail
    refine wp_region_free 18 86 (by kernel_rfl) (by kernel_rfl) rfl (by kernel_rfl) ?_; simp only [List.take_succ_cons, List.take_zero, List.drop_succ_cons, List.drop_zero]
    repeat (apply free_pure rfl; focus (intro vs w hg hd;  (try simp [Region.binds] at hd); simp only [execOp, resolve, Option.map_some, Option.map_none, List.map_toArray, List.map_cons, List.map_nil, rho_const, rho_func]; (repeat (conv in rho _ _ _ _ (Operand.tmp _) => whnf)); (try simp only [hd]); go_simp; (repeat (conv in rho _ _ _ _ (Operand.tmp _) => whnf)); (try simp only [hd]); rfl))
    refine free_op (fun v w' => Parts w'.heap.size w' v [s.take p, [], (s.take (p + q)).drop p, s.drop (p + q)]) rfl (fun _ _ _ h hg => (h.below hg).more hg.size) (fun vs w hg hd => by
      (try simp [Region.binds] at hd); simp only [Does]; simp only [execOp, resolve, Option.map_some, Option.map_none, List.map_toArray, List.map_cons, List.map_nil, rho_const, rho_func]; (repeat (conv in rho _ _ _ _ (Operand.tmp _) => whnf)); (try simp only [hd]); go_simp; (repeat (conv in rho _ _ _ _ (Operand.tmp _) => whnf))
      have X2 := bytes_grow X1.out hg
      refine ⟨Grows.alloc _ _, Parts.of_row _ (heap_alloc_new w _) (by omega) rfl rfl (by decide) fun i x l hx hl => ?_⟩
      have up : ∀ {v : Value} {l : List (BitVec 8)}, Bytes w.heap.size w v l → Bytes (w.heap.size + 1) (w.alloc (.cells #[Value.slice A p cap, Value.slice none 0 0, Value.slice (if cap = p then A else Option.map (fun x => x.add p) A) q (cap - p), Value.slice (if cap = p + q then A else Option.map (fun x => x.add (p + q)) A) (s.length - (p + q)) (cap - (p + q))] 34)) v l :=
        fun h => (Sl.below h (Grows.alloc w _)).more (by omega)
      match i with
      | 0 => simp at hx hl; subst hx hl; exact up (Bytes.take (n := p) X2 (by omega))
      | 1 => simp at hx hl; subst hx hl; exact up (Sl.nil _ _)
      | 2 => simp at hx hl; subst hx hl; have := Bytes.cut (l := p) (h := p + q) X2 (by omega) (by omega); rw [Nat.add_sub_cancel_left] at this; exact up this
      | 3 => simp at hx hl; subst hx hl; have := Bytes.cut (l := p + q) (h := s.length) X2 (by omega) (by omega); rw [List.take_length] at this; exact up this
      | k + 4 => simp at hx) ?_
    refine free_op (fun v _ => v = .int .u64 (uI (CrcM.sum s))) rfl (val_mono _) (fun vs w hg hd => by
      (try simp [Region.binds] at hd); simp only [Does]; simp only [execOp, resolve, Option.map_some, Option.map_none, List.map_toArray, List.map_cons, List.map_nil, rho_const, rho_func]; (repeat (conv in rho _ _ _ _ (Operand.tmp _) => whnf)); (try simp only [hd]); go_simp; (repeat (conv in rho _ _ _ _ (Operand.tmp _) => whnf))
      have := sum_any _ _ _ hd
      rw [cut_four] at this
      exact this) ?_
    repeat (apply free_pure rfl; focus (intro vs w hg hd;  (try simp [Region.binds] at hd); simp only [execOp, resolve, Option.map_some, Option.map_none, List.map_toArray, List.map_cons, List.map_nil, rho_const, rho_func]; (repeat (conv in rho _ _ _ _ (Operand.tmp _) => whnf)); (try simp only [hd]); go_simp; (repeat (conv in rho _ _ _ _ (Operand.tmp _) => whnf)); (try simp only [hd]); rfl))
    intro vs w' hg hv; have h17 := hv 17 (by omega); simp at h17; simp only [putL, dstAt, List.range, List.range.loop, if_true, List.getElem?_toArray, List.getElem?_cons_zero, List.getElem?_cons_succ, Option.bind_some, Act.put, List.setIfInBounds_toArray, List.set_cons_zero, List.set_cons_succ]
    rw [h17]
    have hb2 : Grows w w' := hb1.trans hg.of_drew
    clear hv h17
    generalize vs 0 = z0, vs 1 = z1, vs 2 = z2, vs 3 = z3, vs 4 = z4, vs 5 = z5, vs 6 = z6, vs 7 = z7, vs 8 = z8, vs 9 = z9, vs 10 = z10, vs 11 = z11, vs 12 = z12, vs 13 = z13, vs 14 = z14, vs 15 = z15, vs 16 = z16 at *
    have HR : Hid (∀ k b, s[k]? = some b → CrcM.run (BitVec.allOnes 64) (s.take (k + 1)) = CrcM.step (CrcM.run (BitVec.allOnes 64) (s.take k)) b) := fun k b h => by rw [take_snoc' _ _ _ h, CrcM.run_snoc]
    have HQ : Hid (CrcM.sum s = ~~~CrcM.run (BitVec.allOnes 64) (s.take s.length)) := by rw [List.take_length]; rfl
    generalize hn0 : CrcM.sum s = n at *
    clear hn0
    go_wp2_with fail
    go_loop [8, 9] (fun c i => ∃ k : Nat, k ≤ s.length ∧ i = .int .i64 k ∧ c = .int .u64 (uI (CrcM.run (BitVec.allOnes 64) (s.take k)))) (fun _ i => s.length - (intOf i).toNat)
    case atStart => exact ⟨0, Nat.zero_le _, rfl, rfl⟩
    case round =>
      obtain ⟨k, hk, rfl, rfl⟩ := hrel
      by_cases hlt : k < s.length
      · obtain ⟨g1, o1, rfl, hg1, hcA⟩ := H3.out (by omega)
        have e1 : s[k]? = some (s[k]'(by omega)) := List.getElem?_eq_getElem (by omega)
        have HK := Lib.hid (HR.out k _ e1)
        have d1 := (Below.cell hb2 (p := ⟨g1, o1 + k, none⟩) hg1).trans (hcA k _ (by rw [List.getElem?_map, e1]; rfl))
        generalize s[k]'(by omega) = x at *
        generalize CrcM.run (BitVec.allOnes 64) (s.take k) = c at *
        clear e1 hcA H3 HR
        unfold byteV at d1
        go_wp2_with (go_at_call 10; (with_reducible refine (step_any _ _ _).mono ?_); rintro e w' ⟨rfl, rfl⟩)
        go_round
        case rel => exact ⟨k + 1, by omega, by go_num, by rw [HK.out]⟩
        case measure => simp [intOf]; omega
      · obtain rfl : k = s.length := by omega
        have hq : (~~~CrcM.run (BitVec.allOnes 64) (s.take s.length) == n) = true := by rw [beq_iff_eq]; exact HQ.out.symm
        generalize CrcM.run (BitVec.allOnes 64) (s.take s.length) = c at *
        clear H3 HR HQ
        have hsg : IntKind.u64.signed = false := rfl
        go_wp2_with (go_at_call 9; refine (wakes_any _).mono ?_; rintro e w2 ⟨rfl, hb3⟩)
        go_ret
        exact ⟨rfl, Grows.trans hb2 hb3⟩
end Go.Proofs.Yteanmkejcnkojaa
