/- The law on three rows, as a call. -/
import Derived.Test.YteanmkejcnkojaaCrcWakes
import Derived.Test.YteanmkejcnkojaaFree
namespace Go.Proofs.Yteanmkejcnkojaa
open Go.RowKit
set_option linter.unusedVariables false
set_option linter.unusedSimpArgs false
attribute [local go_sem] uI_beq bI_beq bits_xor_b bits_xor_u cutA_zero Nat.sub_zero
attribute [local go_sem high] sliced_cut
theorem sum1 {w : World} {v : Value} {l : List (BitVec 8)} (hp : Parts w.heap.size w v [l]) :
    Calls Try.prog 14 #[v] w fun e w' => e = .returned (.int .u64 (uI (CrcM.sum l))) ∧ Grows w w' :=
  (sum_any v [l] w hp).mono fun e w' ⟨he, hb⟩ => ⟨by rw [he]; simp, hb⟩
theorem wakes1 (w : World) : Calls Try.prog 9 #[] w fun e w' => e = .returned (.bool true) ∧ Grows w w' :=
  (wakes_any w).mono fun e w' ⟨he, hb⟩ => ⟨he, hb⟩
theorem parts_mono (l : List (BitVec 8)) : ∀ v w w', Parts w.heap.size w v [l] → Grows w w' → Parts w'.heap.size w' v [l] := fun _ _ _ h hg => (h.below hg).more (Below.size hg)
theorem val_mono (x : Value) : ∀ (v : Value) (w w' : World), v = x → Grows w w' → v = x := fun _ _ _ h _ => h
theorem bytes_grow {W w : World} {v : Value} {l : List (BitVec 8)} (h : Bytes W.heap.size W v l) (hg : Grows W.drew w) : Bytes w.heap.size w v l := (Sl.below (W := W.drew) h hg).more (show W.drew.heap.size ≤ w.heap.size from Below.size hg)
/-- Three rows combined. -/
def x3 (a b c : List (BitVec 8)) : List (BitVec 8) := List.zipWith (· ^^^ ·) (List.zipWith (· ^^^ ·) a b) c
theorem x3_get (a b c : List (BitVec 8)) (k : Nat) (x y z : BitVec 8) (hx : a[k]? = some x) (hy : b[k]? = some y) (hz : c[k]? = some z) : (x3 a b c)[k]? = some (x ^^^ y ^^^ z) := by
  simp [x3, List.getElem?_zipWith, hx, hy, hz]
set_option maxHeartbeats 1000000 in
set_option maxRecDepth 100000 in
theorem crcThree_any (va : Value) (a : List (BitVec 8)) (vb : Value) (b : List (BitVec 8)) (vc : Value) (c : List (BitVec 8)) (w : World) (ha : Bytes w.heap.size w va a) (hb : Bytes w.heap.size w vb b) (hc : Bytes w.heap.size w vc c) :
    Calls Try.prog 6 #[va, vb, vc] w fun e w' => e = .returned (.bool true) ∧ Below w.heap.size w w' := by
  have HA0 := Lib.hid ha; have HB0 := Lib.hid hb; have HC0 := Lib.hid hc
  obtain ⟨A, ca, rfl, ha1, ha2, ha3⟩ := ha
  obtain ⟨B, cb, rfl, hb1, hb2, hb3⟩ := hb
  obtain ⟨C, cc, rfl, hc1, hc2, hc3⟩ := hc
  simp only [List.length_map] at ha1 hb1 hc1 ha3 hb3 hc3
  unfold maxLen at ha2 hb2 hc2
  simp only [List.length_map]
  go_enter Try.func6, Try.ntmps6
  have HA := Lib.hid ha3
  have HB := Lib.hid hb3
  have HC := Lib.hid hc3
  clear ha3 hb3 hc3
  obtain ⟨n, hn, hna, hnb, hnc⟩ : ∃ n : Nat, (∀ (ts : Array TypeId) (t : TypeId) (w : World), (Builtin.min_ ts t #[.int .i64 a.length, .int .i64 b.length, .int .i64 c.length]).run Try.prog w = .ok (.int .i64 n) w) ∧ n ≤ a.length ∧ n ≤ b.length ∧ n ≤ c.length := by
    refine ⟨min (min a.length b.length) c.length, fun ts t w => ?_, by omega, by omega, by omega⟩
    simp only [Builtin.min_, List.foldlM_cons, List.foldlM_nil, Builtin.min2, pure_bind, Sem.run_pure]
    congr 2
    split <;> split <;> omega
  obtain ⟨i0, hi, hz0, hz1, hz2⟩ := info_parts (show (Try.prog.info? 5).map (fun i => (i.zero, i.size, i.bytes)) = some (some (.int .u8 0), 1, 1) by kernel_rfl)
  by_cases hgt : 1000 < n
  · go_wp2_with (go_at_call 9; refine (wakes_any _).mono ?_; rintro e w2 ⟨rfl, hb2⟩)
    go_ret
    exact ⟨rfl, hb2⟩
  · go_wp2_with fail
    go_loopw [8, 9] (fun v i wr => ∃ k : Nat, k ≤ n ∧ i = .int .i64 k ∧ wr.ownsRow w.heap.size 5 1 v k (((x3 a b c).take k).map byteV) ∧ Below w.heap.size w wr) (fun _ i _ => n - (intOf i).toNat)
    case atStart => exact ⟨0, Nat.zero_le _, rfl, World.ownsRow_nil _ _ _ _, Below.refl _ _⟩
    case round =>
      obtain ⟨k, hk, rfl, hown, hbr⟩ := hrel
      by_cases hlt : k < n
      · obtain ⟨g1, o1, rfl, hg1, hcA⟩ := HA.out (by omega)
        obtain ⟨g2, o2, rfl, hg2, hcB⟩ := HB.out (by omega)
        obtain ⟨g3, o3, rfl, hg3, hcC⟩ := HC.out (by omega)
        have e1 : a[k]? = some (a[k]'(by omega)) := List.getElem?_eq_getElem (by omega)
        have e2 : b[k]? = some (b[k]'(by omega)) := List.getElem?_eq_getElem (by omega)
        have e3 : c[k]? = some (c[k]'(by omega)) := List.getElem?_eq_getElem (by omega)
        have HX := Lib.hid (x3_get a b c k _ _ _ e1 e2 e3)
        have c1 := (hbr.cell (p := ⟨g1, o1 + k, none⟩) hg1).trans (hcA k _ (by rw [List.getElem?_map, e1]; rfl))
        have c2 := (hbr.cell (p := ⟨g2, o2 + k, none⟩) hg2).trans (hcB k _ (by rw [List.getElem?_map, e2]; rfl))
        have c3 := (hbr.cell (p := ⟨g3, o3 + k, none⟩) hg3).trans (hcC k _ (by rw [List.getElem?_map, e3]; rfl))
        generalize a[k]'(by omega) = x at *
        generalize b[k]'(by omega) = y at *
        generalize c[k]'(by omega) = z at *
        clear e1 e2 e3 hcA hcB hcC HA HB HC
        go_wp2_with fail
        refine wp_region_free 16 66 (by kernel_rfl) (by kernel_rfl) rfl (by kernel_rfl) ?_; simp only [List.take_succ_cons, List.take_zero, List.drop_succ_cons, List.drop_zero]
        have k1 : k < a.length := by omega
        have k2 : k < b.length := by omega
        have k3 : k < c.length := by omega
        unfold byteV at c1 c2 c3
        repeat (apply free_pure rfl; focus (intro vs w hg hd; have q0 := hg.cell c1; have q1 := hg.cell c2; have q2 := hg.cell c3; (try simp [Region.binds] at hd); simp only [execOp, resolve, Option.map_some, Option.map_none, List.map_toArray, List.map_cons, List.map_nil, rho_const, rho_func]; (repeat (conv in rho _ _ _ _ (Operand.tmp _) => whnf)); (try simp only [hd]); go_simp; (repeat (conv in rho _ _ _ _ (Operand.tmp _) => whnf)); (try simp only [hd]); rfl))
        refine free_op (fun v w' => ∃ g, wr.heap.size ≤ g ∧ v = .slice (some ⟨g, 0, none⟩) 1 1 ∧ Row w' g 5 #[Value.int .u8 (bI (x ^^^ y ^^^ z))]) rfl ?mono ?does ?_
        case mono => exact fun v w w' ⟨g, h1, h2, h3⟩ hg => ⟨g, h1, h2, h3.grows hg⟩
        case does =>
          intro vs w hg hd
          (try simp [Region.binds] at hd); simp only [Does]; simp only [execOp, resolve, Option.map_some, Option.map_none, List.map_toArray, List.map_cons, List.map_nil, rho_const, rho_func]; (repeat (conv in rho _ _ _ _ (Operand.tmp _) => whnf)); (try simp only [hd]); go_simp; (repeat (conv in rho _ _ _ _ (Operand.tmp _) => whnf))
          exact ⟨Grows.alloc _ _, w.heap.size, hg.size, rfl, Row.new _ _ _⟩
        intro vs w' hg hv; have h0 := hv 0 (by omega); simp at h0; have h15 := hv 15 (by omega); simp at h15; simp only [putL, dstAt, List.range, List.range.loop, if_true, List.getElem?_toArray, List.getElem?_cons_zero, List.getElem?_cons_succ, Option.bind_some, Act.put, List.setIfInBounds_toArray, List.set_cons_zero, List.set_cons_succ]
        obtain ⟨g, hgl, h15, hrow⟩ := h15
        rw [h0, h15]
        generalize vs 0 = z0, vs 1 = z1, vs 2 = z2, vs 3 = z3, vs 4 = z4, vs 5 = z5, vs 6 = z6, vs 7 = z7, vs 8 = z8, vs 9 = z9, vs 10 = z10, vs 11 = z11, vs 12 = z12, vs 13 = z13, vs 14 = z14, vs 15 = z15 at *
        have hbw : Below w.heap.size w w' := (hbr.drew).trans (Below.mono hg hbr.size)
        have hown' := own_grows (w := wr.drew) hown hg
        have hle := hbw.size
        clear hv h0 h15 hown hg
        refine wpList_append_own _ rfl _ _ 34 rfl w.heap.size 5 i0 (.int .u8 0) 1 1 Try.underlying34 hi hz0 hz1 hz2 rfl (by decide) _ _ _ rfl hown' ⟨g, 0, none⟩ 1 1 [.int .u8 (bI (x ^^^ y ^^^ z))] rfl rfl ?c1 (by simp [Value.oneCell']) (by unfold maxLen; omega) (by omega) hle ?_
        case c1 =>
          intro j u hu
          cases j with
          | zero => simp at hu; subst hu; rw [add_lit, hrow.cell]; rfl
          | succ j => simp at hu
        intro v' w1 hown1 hgrow1 _
        have hsn : ((x3 a b c).take (k + 1)).map byteV = ((x3 a b c).take k).map byteV ++ [Value.int .u8 (bI (x ^^^ y ^^^ z))] := by
          rw [take_snoc' _ _ _ HX.out]; simp [byteV]
        have HSN := Lib.hid hsn
        clear hsn
        have hb1 : Below w.heap.size w w1 := hbw.grown hgrow1 hle (fun j hj => (hown'.lt j hj).1)
        go_wp2
        go_roundw
        case rel => exact ⟨k + 1, by omega, by go_num, by rw [HSN.out]; exact hown1, hb1⟩
        case measure => simp [intOf]; omega
      · obtain rfl : k = n := by omega
        have hall : ((x3 a b c).take k).map byteV = ((x3 (a.take k) (b.take k) (c.take k))).map byteV := by
          unfold x3
          rw [List.take_zipWith, List.take_zipWith]
        rw [hall] at hown
        obtain ⟨A8, c8, rfl, _⟩ := Sl.of_own hown
        simp only [List.length_map]
        have ha0 : Bytes wr.heap.size wr (.slice A k ca) (a.take k) := ((Bytes.take (n := k) (l := a) HA0.out (by omega)).below hbr).more hbr.size
        have hb0 : Bytes wr.heap.size wr (.slice B k cb) (b.take k) := ((Bytes.take (n := k) (l := b) HB0.out (by omega)).below hbr).more hbr.size
        have hc0 : Bytes wr.heap.size wr (.slice C k cc) (c.take k) := ((Bytes.take (n := k) (l := c) HC0.out (by omega)).below hbr).more hbr.size
        have hx0 : Bytes wr.heap.size wr _ (x3 (a.take k) (b.take k) (c.take k)) := Sl.of_own hown
        simp only [List.length_map] at hx0
        have hsum : (CrcM.sum (x3 (a.take k) (b.take k) (c.take k)) == CrcM.sum (a.take k) ^^^ CrcM.sum (b.take k) ^^^ CrcM.sum (c.take k)) = true := by rw [beq_iff_eq]; exact CrcM.sum_three _ _ _ (by simp; omega) (by simp; omega)
        generalize a.take k = la at *
        generalize b.take k = lb at *
        generalize c.take k = lc at *
        generalize x3 la lb lc = lx at *
        go_wp2_with fail
        have A0 := Lib.hid ha0; have B0 := Lib.hid hb0; have C0 := Lib.hid hc0; have X0 := Lib.hid hx0
        clear ha0 hb0 hc0 hx0 hown HA HB HC HA0 HB0 HC0
        have q1 : (k : Int) ≤ ca := by omega
        have q2 : (k : Int) ≤ cb := by omega
        have q3 : (k : Int) ≤ cc := by omega
        have q0 : (0 : Int) ≤ k := by omega
        refine wp_region_free 25 66 (by kernel_rfl) (by kernel_rfl) rfl (by kernel_rfl) ?_; simp only [List.take_succ_cons, List.take_zero, List.drop_succ_cons, List.drop_zero]
        repeat (apply free_pure rfl; focus (intro vs w hg hd;  (try simp [Region.binds] at hd); simp only [execOp, resolve, Option.map_some, Option.map_none, List.map_toArray, List.map_cons, List.map_nil, rho_const, rho_func]; (repeat (conv in rho _ _ _ _ (Operand.tmp _) => whnf)); (try simp only [hd]); go_simp; (repeat (conv in rho _ _ _ _ (Operand.tmp _) => whnf)); (try simp only [hd]); rfl))
        refine free_op (fun v w' => Parts w'.heap.size w' v [lx]) rfl (parts_mono _) (fun vs w hg hd => by
          (try simp [Region.binds] at hd); simp only [Does]; simp only [execOp, resolve, Option.map_some, Option.map_none, List.map_toArray, List.map_cons, List.map_nil, rho_const, rho_func]; (repeat (conv in rho _ _ _ _ (Operand.tmp _) => whnf)); (try simp only [hd]); go_simp; (repeat (conv in rho _ _ _ _ (Operand.tmp _) => whnf))
          exact ⟨Grows.alloc _ _, Parts.new (bytes_grow X0.out hg)⟩) ?_
        refine free_op (fun v _ => v = .int .u64 (uI (CrcM.sum lx))) rfl (val_mono _) (fun vs w hg hd => by
          (try simp [Region.binds] at hd); simp only [Does]; simp only [execOp, resolve, Option.map_some, Option.map_none, List.map_toArray, List.map_cons, List.map_nil, rho_const, rho_func]; (repeat (conv in rho _ _ _ _ (Operand.tmp _) => whnf)); (try simp only [hd]); go_simp; (repeat (conv in rho _ _ _ _ (Operand.tmp _) => whnf))
          exact sum1 (by first | exact hd | exact hd.1 | exact hd.2.1 | exact hd.2.2)) ?_
        repeat (apply free_pure rfl; focus (intro vs w hg hd;  (try simp [Region.binds] at hd); simp only [execOp, resolve, Option.map_some, Option.map_none, List.map_toArray, List.map_cons, List.map_nil, rho_const, rho_func]; (repeat (conv in rho _ _ _ _ (Operand.tmp _) => whnf)); (try simp only [hd]); go_simp; (repeat (conv in rho _ _ _ _ (Operand.tmp _) => whnf)); (try simp only [hd]); rfl))
        refine free_op (fun v w' => Parts w'.heap.size w' v [la]) rfl (parts_mono _) (fun vs w hg hd => by
          (try simp [Region.binds] at hd); simp only [Does]; simp only [execOp, resolve, Option.map_some, Option.map_none, List.map_toArray, List.map_cons, List.map_nil, rho_const, rho_func]; (repeat (conv in rho _ _ _ _ (Operand.tmp _) => whnf)); (try simp only [hd]); go_simp; (repeat (conv in rho _ _ _ _ (Operand.tmp _) => whnf))
          exact ⟨Grows.alloc _ _, Parts.new (bytes_grow A0.out hg)⟩) ?_
        refine free_op (fun v _ => v = .int .u64 (uI (CrcM.sum la))) rfl (val_mono _) (fun vs w hg hd => by
          (try simp [Region.binds] at hd); simp only [Does]; simp only [execOp, resolve, Option.map_some, Option.map_none, List.map_toArray, List.map_cons, List.map_nil, rho_const, rho_func]; (repeat (conv in rho _ _ _ _ (Operand.tmp _) => whnf)); (try simp only [hd]); go_simp; (repeat (conv in rho _ _ _ _ (Operand.tmp _) => whnf))
          exact sum1 (by first | exact hd | exact hd.1 | exact hd.2.1 | exact hd.2.2)) ?_
        repeat (apply free_pure rfl; focus (intro vs w hg hd;  (try simp [Region.binds] at hd); simp only [execOp, resolve, Option.map_some, Option.map_none, List.map_toArray, List.map_cons, List.map_nil, rho_const, rho_func]; (repeat (conv in rho _ _ _ _ (Operand.tmp _) => whnf)); (try simp only [hd]); go_simp; (repeat (conv in rho _ _ _ _ (Operand.tmp _) => whnf)); (try simp only [hd]); rfl))
        refine free_op (fun v w' => Parts w'.heap.size w' v [lb]) rfl (parts_mono _) (fun vs w hg hd => by
          (try simp [Region.binds] at hd); simp only [Does]; simp only [execOp, resolve, Option.map_some, Option.map_none, List.map_toArray, List.map_cons, List.map_nil, rho_const, rho_func]; (repeat (conv in rho _ _ _ _ (Operand.tmp _) => whnf)); (try simp only [hd]); go_simp; (repeat (conv in rho _ _ _ _ (Operand.tmp _) => whnf))
          exact ⟨Grows.alloc _ _, Parts.new (bytes_grow B0.out hg)⟩) ?_
        refine free_op (fun v _ => v = .int .u64 (uI (CrcM.sum lb))) rfl (val_mono _) (fun vs w hg hd => by
          (try simp [Region.binds] at hd); simp only [Does]; simp only [execOp, resolve, Option.map_some, Option.map_none, List.map_toArray, List.map_cons, List.map_nil, rho_const, rho_func]; (repeat (conv in rho _ _ _ _ (Operand.tmp _) => whnf)); (try simp only [hd]); go_simp; (repeat (conv in rho _ _ _ _ (Operand.tmp _) => whnf))
          exact sum1 (by first | exact hd | exact hd.1 | exact hd.2.1 | exact hd.2.2)) ?_
        repeat (apply free_pure rfl; focus (intro vs w hg hd;  (try simp [Region.binds] at hd); simp only [execOp, resolve, Option.map_some, Option.map_none, List.map_toArray, List.map_cons, List.map_nil, rho_const, rho_func]; (repeat (conv in rho _ _ _ _ (Operand.tmp _) => whnf)); (try simp only [hd]); go_simp; (repeat (conv in rho _ _ _ _ (Operand.tmp _) => whnf)); (try simp only [hd]); rfl))
        refine free_op (fun v w' => Parts w'.heap.size w' v [lc]) rfl (parts_mono _) (fun vs w hg hd => by
          (try simp [Region.binds] at hd); simp only [Does]; simp only [execOp, resolve, Option.map_some, Option.map_none, List.map_toArray, List.map_cons, List.map_nil, rho_const, rho_func]; (repeat (conv in rho _ _ _ _ (Operand.tmp _) => whnf)); (try simp only [hd]); go_simp; (repeat (conv in rho _ _ _ _ (Operand.tmp _) => whnf))
          exact ⟨Grows.alloc _ _, Parts.new (bytes_grow C0.out hg)⟩) ?_
        refine free_op (fun v _ => v = .int .u64 (uI (CrcM.sum lc))) rfl (val_mono _) (fun vs w hg hd => by
          (try simp [Region.binds] at hd); simp only [Does]; simp only [execOp, resolve, Option.map_some, Option.map_none, List.map_toArray, List.map_cons, List.map_nil, rho_const, rho_func]; (repeat (conv in rho _ _ _ _ (Operand.tmp _) => whnf)); (try simp only [hd]); go_simp; (repeat (conv in rho _ _ _ _ (Operand.tmp _) => whnf))
          exact sum1 (by first | exact hd | exact hd.1 | exact hd.2.1 | exact hd.2.2)) ?_
        repeat (apply free_pure rfl; focus (intro vs w hg hd;  (try simp [Region.binds] at hd); simp only [execOp, resolve, Option.map_some, Option.map_none, List.map_toArray, List.map_cons, List.map_nil, rho_const, rho_func]; (repeat (conv in rho _ _ _ _ (Operand.tmp _) => whnf)); (try simp only [hd]); go_simp; (repeat (conv in rho _ _ _ _ (Operand.tmp _) => whnf)); (try simp only [hd]); rfl))
        refine free_guarded (fun v _ => v = .bool true) (val_mono _) (fun vs w hg hd => by
          simp [Region.binds] at hd
          refine ⟨?_, ?_⟩
          · simp [Region.wanted, yieldR]
            repeat (conv in rho _ _ _ _ (Operand.tmp _) => whnf)
            simp [hd]
          · simp only [Does, execOp, resolve, List.map_toArray, List.map_cons, List.map_nil, rho_const, rho_func]
            go_simp
            exact wakes1 w) ?_
        repeat (apply free_pure rfl; focus (intro vs w hg hd;  (try simp [Region.binds] at hd); simp only [execOp, resolve, Option.map_some, Option.map_none, List.map_toArray, List.map_cons, List.map_nil, rho_const, rho_func]; (repeat (conv in rho _ _ _ _ (Operand.tmp _) => whnf)); (try simp only [hd]); go_simp; (repeat (conv in rho _ _ _ _ (Operand.tmp _) => whnf)); (try simp only [hd]); rfl))
        intro vs w' hg hv; have h24 := hv 24 (by omega); simp at h24; simp only [putL, dstAt, List.range, List.range.loop, if_true, List.getElem?_toArray, List.getElem?_cons_zero, List.getElem?_cons_succ, Option.bind_some, Act.put, List.setIfInBounds_toArray, List.set_cons_zero, List.set_cons_succ]
        rw [h24]
        clear hv h24
        generalize vs 0 = z0, vs 1 = z1, vs 2 = z2, vs 3 = z3, vs 4 = z4, vs 5 = z5, vs 6 = z6, vs 7 = z7, vs 8 = z8, vs 9 = z9, vs 10 = z10, vs 11 = z11, vs 12 = z12, vs 13 = z13, vs 14 = z14, vs 15 = z15, vs 16 = z16, vs 17 = z17, vs 18 = z18, vs 19 = z19, vs 20 = z20, vs 21 = z21, vs 22 = z22, vs 23 = z23 at *
        go_wp2
        go_ret
        exact ⟨rfl, hbr.drew.trans (Below.mono hg hbr.size)⟩
end Go.Proofs.Yteanmkejcnkojaa
