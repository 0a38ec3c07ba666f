/- PtWakes -/
import Derived.Test.YtnigflobmiiefaaDoorPtTake
import Derived.Test.YtnigflobmiiefaaDoorPtWhere
import Derived.Test.YtnigflobmiiefaaDoorPtRight
import Derived.Test.YtnigflobmiiefaaDoorPtB
import Derived.Test.YtnigflobmiiefaaDoorZeros
import Derived.Test.YtnigflobmiiefaaDoorStr
/- The statements' wakes of layer 5; rows of bytes held against each other. -/
namespace Go.Proofs.YtnigflobmiiefaaDoor
open Go.RowKit
set_option linter.unusedVariables false
set_option linter.unusedSimpArgs false
theorem same5_any (u v : Value) (a b : List (BitVec 8)) (w : World) (hu : Bytes w.heap.size w u a) (hv : Bytes w.heap.size w v b) :
    Calls Tryd.prog 22 #[u, v] w fun e w' => e = .returned (.bool (a == b)) ∧ w = w' := by
  have e1 := run_str (P := Tryd.prog) hu 30 5 9 Tryd.underlying30 Tryd.underlying5 Tryd.underlying9
  have e2 := run_str (P := Tryd.prog) hv 30 5 9 Tryd.underlying30 Tryd.underlying5 Tryd.underlying9
  have HE := Lib.hid (str_beq_toList a b)
  obtain ⟨A, cap, rfl, _⟩ := hu
  obtain ⟨A', cap', rfl, _⟩ := hv
  simp only [List.length_map] at e1 e2 ⊢
  generalize a.length = n at *
  generalize b.length = m at *
  go_enter Tryd.func22, Tryd.ntmps22
  go_wp2
  go_ret
  exact ⟨by rw [← HE.out]; rfl, rfl⟩
def pageOf (k : BitVec 8) : List (BitVec 8) := k :: List.replicate 255 0#8
theorem pageOf_len (k : BitVec 8) : (pageOf k).length = 256 := by unfold pageOf; rw [List.length_cons, List.length_replicate]
theorem built1 : Tryd.prog.built 29 [(0, .int .u8 1)] = some (pageA (pageOf 1)) := by kernel_rfl
theorem built2 : Tryd.prog.built 29 [(0, .int .u8 2)] = some (pageA (pageOf 2)) := by kernel_rfl
section
variable {w : World} {ops : Array Oper} {rest : List Oper} {o : Oper} {a : Act} {Q : Exit → Act → World → Prop}
theorem wpList_does {P : Program} {R : Value → World → Prop} (hw : Region.wanted o (yielded ops a.tmps) = true) (h : Does P o a.eval w R)
    (hK : ∀ v w', R v w' → wpList P ops Q rest (a.put o.dst v) w') : wpList P ops Q (o :: rest) a w :=
  BigFrame.wpList_want hw fun K hK' => Does.wp h (fun v w' hR => hK' _ _ (hK v w' hR))
theorem wpList_loadG_pt (hw : Region.wanted o (yielded ops a.tmps) = true) (y : Operand) (ho : o.op = .load 27 y) (g : Nat) (x : Pt) (hx : a.eval y = .pointer (some ⟨g, 0, none⟩)) (hr : Row w g 27 (ptA x))
    (h : wpList Tryd.prog ops Q rest (a.put o.dst (.agg (ptA x))) w) : wpList Tryd.prog ops Q (o :: rest) a w :=
  wpList_does hw (R := fun v w' => v = .agg (ptA x) ∧ w' = w) (dk_load 27 y ⟨g, 0, none⟩ _ ho hx (run_load_pt hr) ⟨rfl, rfl⟩) (by rintro v w' ⟨rfl, rfl⟩; exact h)
theorem wpList_buildG_page1 (hw : Region.wanted o (yielded ops a.tmps) = true) (k : Int) (p : List (BitVec 8)) (hb : Tryd.prog.built 29 [(0, .int .u8 k)] = some (pageA p)) (ho : o.op = .build 29 #[(0, .const (.int .u8 k))])
    (h : wpList Tryd.prog ops Q rest (a.put o.dst (.agg (pageA p))) w) : wpList Tryd.prog ops Q (o :: rest) a w :=
  wpList_does hw (R := fun v w' => v = .agg (pageA p) ∧ w' = w) (by
    unfold Does execOp
    have hb' : Tryd.prog.built 29 ((#[(0, Operand.const (.int .u8 k))] : Array (Nat × Operand)).map fun (i, x) => (i, a.eval x)).toList = some (pageA p) := by simp only [List.map_toArray, List.map_cons, List.map_nil]; exact hb
    simp only [ho, Sem.run_bind, run_build w 29 _ _ hb', Result.andThen_ok]
    exact ⟨rfl, rfl⟩) (by rintro v w' ⟨rfl, rfl⟩; exact h)
theorem wpList_build_page1 (hgd : o.guard = none) (k : Int) (p : List (BitVec 8)) (hb : Tryd.prog.built 29 [(0, .int .u8 k)] = some (pageA p)) (ho : o.op = .build 29 #[(0, .const (.int .u8 k))])
    (h : wpList Tryd.prog ops Q rest (a.put o.dst (.agg (pageA p))) w) : wpList Tryd.prog ops Q (o :: rest) a w :=
  wpList_buildG_page1 (by simp [Region.wanted, hgd]) k p hb ho h
end
theorem sums_unlike : (CrcM.sum (pageOf 1) == CrcM.sum (pageOf 2)) = false := by
  rw [beq_eq_false_iff_ne]
  intro h
  unfold CrcM.sum pageOf at h
  have h2 := congrArg (fun z => ~~~ z) h
  simp only [BitVec.not_not] at h2
  rw [CrcM.run_cons, CrcM.run_cons] at h2
  exact absurd (CrcM.run_inj_state _ _ _ h2) (by decide)
set_option maxHeartbeats 4000000 in
set_option maxRecDepth 20000 in
theorem wakes5_any (w : World) (hG : Glob w) : Calls Tryd.prog 7 #[] w fun e w' => e = .returned (.bool true) ∧ Grows w w' := by
  have G0 := Lib.hid hG
  have HPut : Hid (∀ W, Glob W → Calls Tryd.prog 23 #[.slice none 0 0, .agg #[.int .u8 0, .int .u16 0, .int .u16 0, .int .u32 0, .int .u64 0]] W fun e w' => ∃ r, e = .returned r ∧ Mine W.heap.size w' r (PtM.put [] PtM.none) ∧ Grows W w') := fun W h => ptput_any (.slice none 0 0) [] PtM.none W (Sl.nil _ _) (by decide) h
  have HPE : Hid (PtM.put [] PtM.none = List.replicate 17 0#8) := by unfold Hid; decide
  have HTk : Hid (∀ W (v : Value), Bytes (World.heap W).size W v (List.replicate 16 0#8) → Glob W → Calls Tryd.prog 20 #[v] W fun e w' => ∃ r, e = .returned (.tuple #[.agg (ptA (PtM.takeP (List.replicate 16 0#8))), r, .int .i64 20]) ∧ Mine W.heap.size w' r (PtM.takeR (List.replicate 16 0#8)) ∧ Grows W w') := fun W v h h2 => pttake_any v (List.replicate 16 0#8) W h (by decide) h2
  obtain ⟨p1, hp1⟩ : ∃ p, p = pageOf 1 := ⟨_, rfl⟩
  obtain ⟨p2, hp2⟩ : ∃ p, p = pageOf 2 := ⟨_, rfl⟩
  have l1 : p1.length = 256 := by rw [hp1]; exact pageOf_len 1
  have l2 : p2.length = 256 := by rw [hp2]; exact pageOf_len 2
  have HB1 : Hid (Tryd.prog.built 29 [(0, .int .u8 1)] = some (pageA p1)) := by rw [hp1]; exact built1
  have HB2 : Hid (Tryd.prog.built 29 [(0, .int .u8 2)] = some (pageA p2)) := by rw [hp2]; exact built2
  obtain ⟨x, hx⟩ : ∃ x, x = PtM.of 1 4 5 1 p1 := ⟨_, rfl⟩
  have HOf : Hid (∀ W, Calls Tryd.prog 18 #[.int .u8 1, .int .i64 4, .int .i64 5, .int .u32 1, .agg (pageA p1)] W fun e w' => e = .returned (.agg (ptA x)) ∧ Grows W w') := fun W => by rw [hx]; exact of_any 1 4 5 1 p1 l1 W
  have HNz : Hid (∀ W, Calls Tryd.prog 8 #[.agg #[.int .u8 0, .int .u16 0, .int .u16 0, .int .u32 0, .int .u64 0]] W fun e w' => e = .returned (.bool true) ∧ Grows W w') := fun W => none_any PtM.none W
  have HNx : Hid (∀ W, Calls Tryd.prog 8 #[.agg (ptA x)] W fun e w' => e = .returned (.bool false) ∧ Grows W w') := fun W => by
    have h := none_any x W
    rw [decide_eq_false (by rw [hx]; intro e; have := congrArg Pt.kind e; exact absurd this (by show ¬ (1#8 = 0#8); decide))] at h
    exact h
  have HMt : Hid (∀ W, Calls Tryd.prog 10 #[.agg (ptA x)] W fun e w' => e = .returned (.bool true) ∧ Grows W w') := fun W => by
    have h := node_any x W
    rw [show PtM.node x = true by rw [hx]; rfl] at h
    exact h
  have HR32 : Hid (∀ W, Calls Tryd.prog 12 #[.agg (ptA x), .int .i64 32] W fun e w' => e = .returned (.bool true) ∧ Grows W w') := fun W => by
    have h := right_any x 32 W
    rw [show PtM.right x 32 = true by rw [hx]; rfl] at h
    exact h
  have HR5 : Hid (∀ W, Calls Tryd.prog 12 #[.agg (ptA x), .int .i64 5] W fun e w' => e = .returned (.bool false) ∧ Grows W w') := fun W => by
    have h := right_any x 5 W
    rw [show PtM.right x 5 = false by rw [hx]; rfl] at h
    exact h
  have HF1 : Hid (∀ W, Calls Tryd.prog 14 #[.agg (ptA x), .agg (pageA p1)] W fun e w' => e = .returned (.bool true) ∧ Grows W w') := fun W => by
    have h := fits_any x p1 l1 W
    rw [show PtM.fits x p1 = true by rw [hx]; unfold PtM.fits PtM.of; simp] at h
    exact h
  have HF2 : Hid (∀ W, Calls Tryd.prog 14 #[.agg (ptA x), .agg (pageA p2)] W fun e w' => e = .returned (.bool false) ∧ Grows W w') := fun W => by
    have h := fits_any x p2 l2 W
    rw [show PtM.fits x p2 = false by rw [hx, hp1, hp2]; unfold PtM.fits PtM.of; simp only [sums_unlike, Bool.and_false]] at h
    exact h
  have HWh := Lib.hid (fun W => where_any x W)
  have HWe : Hid ((PtM.wheres x).map hI = [4, 5]) := by rw [hx]; rfl
  obtain ⟨tz, htz⟩ : ∃ tz, tz = PtM.takeP (List.replicate 16 0#8) := ⟨_, rfl⟩
  rw [← htz] at HTk
  clear hG hp1 hp2 l1 l2 hx htz
  go_enter Tryd.func7, Tryd.ntmps7
  go_wp2_with (first
    | (go_at_call 23; refine (HPut.out _ G0.out).mono ?_; rintro e w1 ⟨r1, rfl, m1, g⟩; rw [HPE.out] at m1; obtain ⟨A1, c1, rfl, _, _⟩ := m1.form; have HM1 := Lib.hid m1; have HG1 := Lib.hid g; clear m1 g)
    | ((with_reducible refine wpList_make_zeros (o := ⟨some 10, _, _, _, _, _⟩) ?_ (.const (.int .i64 16)) (.const (.int .i64 16)) ?_ w1.heap.size 16 16 ?_ ?_ ?_ ?_ ?_ ?_); exact rfl; exact rfl; exact rfl; exact rfl; exact rfl; omega; exact Nat.le_refl _; intro w2 m2 g; have HMk := Lib.hid m2; have HM2 := Lib.hid (HM1.out.grows g); have HG2 := Lib.hid (HG1.out.trans g); clear m2 g)
    | (go_at_call 20; refine (HTk.out _ _ HMk.out.bytes (G0.out.grows HG2.out)).mono ?_; rintro e w3 ⟨r3, rfl, m3, g⟩; obtain ⟨A3, c3, rfl, _, _⟩ := m3.form; have HM3 := Lib.hid (HM2.out.grows g); have HG3 := Lib.hid (HG2.out.trans g); have RN3 := Lib.hid (Row.new w3 27 #[.int .u8 0, .int .u16 0, .int .u16 0, .int .u32 0, .int .u64 0]); clear m3 g)
    | ((with_reducible refine wpList_store_pt (o := ⟨none, .store _ (.tmp 2) _, _, _, _, _⟩) ?_ (.tmp 2) (.tmp 12) ?_ w3.heap.size tz #[.int .u8 0, .int .u16 0, .int .u16 0, .int .u32 0, .int .u64 0] ?_ ?_ ?_ ?_ ?_); exact rfl; exact rfl; exact rfl; exact rfl; exact rfl; exact RN3.out; intro w4 hr4 hg4; have g := grown_fresh rfl hg4; have HM4 := Lib.hid (HM3.out.grows g); have HG4 := Lib.hid (HG3.out.trans g); clear hr4 hg4 g)
    | ((with_reducible refine wpList_build_page1 (o := ⟨some 15, _, _, _, _, _⟩) ?_ 1 p1 HB1.out ?_ ?_); exact rfl; exact rfl)
    | (go_at_call 18; refine (HOf.out _).mono ?_; rintro e w5 ⟨rfl, g⟩; have HM5 := Lib.hid (HM4.out.grows g); have HG5 := Lib.hid (HG4.out.trans g); have RN5 := Lib.hid (Row.new w5 27 #[.int .u8 0, .int .u16 0, .int .u16 0, .int .u32 0, .int .u64 0]); clear g)
    | ((with_reducible refine wpList_store_pt (o := ⟨none, .store _ (.tmp 5) _, _, _, _, _⟩) ?_ (.tmp 5) (.tmp 16) ?_ w5.heap.size x #[.int .u8 0, .int .u16 0, .int .u16 0, .int .u32 0, .int .u64 0] ?_ ?_ ?_ ?_ ?_); exact rfl; exact rfl; exact rfl; exact rfl; exact rfl; exact RN5.out; intro w6 hr6 hg6; have RX6 := Lib.hid hr6; have g := grown_fresh rfl hg6; have HM6 := Lib.hid (HM5.out.grows g); have HG6 := Lib.hid (HG5.out.trans g); clear hr6 hg6 g))
  obtain ⟨g1, o1, rfl, hg1, hcA⟩ : ∃ g1 o1, A1 = some ⟨g1, o1, none⟩ ∧ g1 < w6.heap.size ∧ ∀ j : Nat, j < 17 → w6.cell? ⟨g1, o1 + j, none⟩ = some (.int .u8 0) := by
    obtain ⟨A', c', he, _, _, h3⟩ := HM6.out.bytes
    simp only [Value.slice.injEq] at he
    obtain ⟨rfl, _, _⟩ := he
    obtain ⟨b, o, h4, h5, h6⟩ := h3 (by simp)
    exact ⟨b, o, h4, h5, fun j hj => h6 j _ (by rw [List.getElem?_map, List.getElem?_replicate, if_pos hj]; rfl)⟩
  have HCA := Lib.hid hcA
  clear hcA hg1
  go_loopw [6] (fun i wr => ∃ k : Nat, k ≤ 17 ∧ i = .int .i64 k ∧ w6 = wr) (fun i _ => 17 - (intOf i).toNat)
  case atStart => exact ⟨0, by omega, rfl, rfl⟩
  case round =>
    obtain ⟨k, hk, rfl, rfl⟩ := hrel
    by_cases hlt : k < 17
    · have hlt' : (k : Int) < 17 := by omega
      have hck := HCA.out k hlt
      go_wp2
      go_roundw
      case rel => exact ⟨k + 1, by omega, by go_num, by trivial⟩
      case measure => simp [intOf]; omega
    · obtain rfl : k = 17 := by omega
      go_wp2_with (first
        | (go_at_call 8; (with_reducible refine (HNz.out _).mono ?_); rintro e w7 ⟨rfl, g⟩; have RX7 := Lib.hid (Row.grows RX6.out g); have HG7 := Lib.hid (HG6.out.trans g); clear g)
        | ((with_reducible refine wpList_loadG_pt (o := ⟨some 36, _, _, _, _, _⟩) ?_ (.tmp 5) ?_ w5.heap.size x ?_ ?_ ?_); exact rfl; exact rfl; exact rfl; exact RX7.out)
        | (go_at_call 8; (with_reducible refine (HNx.out _).mono ?_); rintro e w8 ⟨rfl, g⟩; have RX8 := Lib.hid (Row.grows RX7.out g); have HG8 := Lib.hid (HG7.out.trans g); clear g)
        | ((with_reducible refine wpList_loadG_pt (o := ⟨some 41, _, _, _, _, _⟩) ?_ (.tmp 5) ?_ w5.heap.size x ?_ ?_ ?_); exact rfl; exact rfl; exact rfl; exact RX8.out)
        | (go_at_call 10; (with_reducible refine (HMt.out _).mono ?_); rintro e w9 ⟨rfl, g⟩; have RX9 := Lib.hid (Row.grows RX8.out g); have HG9 := Lib.hid (HG8.out.trans g); clear g)
        | ((with_reducible refine wpList_loadG_pt (o := ⟨some 45, _, _, _, _, _⟩) ?_ (.tmp 5) ?_ w5.heap.size x ?_ ?_ ?_); exact rfl; exact rfl; exact rfl; exact RX9.out)
        | (go_at_call 12; (with_reducible refine (HR32.out _).mono ?_); rintro e w10 ⟨rfl, g⟩; have RX10 := Lib.hid (Row.grows RX9.out g); have HG10 := Lib.hid (HG9.out.trans g); clear g)
        | ((with_reducible refine wpList_loadG_pt (o := ⟨some 49, _, _, _, _, _⟩) ?_ (.tmp 5) ?_ w5.heap.size x ?_ ?_ ?_); exact rfl; exact rfl; exact rfl; exact RX10.out)
        | (go_at_call 12; (with_reducible refine (HR5.out _).mono ?_); rintro e w11 ⟨rfl, g⟩; have RX11 := Lib.hid (Row.grows RX10.out g); have HG11 := Lib.hid (HG10.out.trans g); clear g)
        | ((with_reducible refine wpList_loadG_pt (o := ⟨some 54, _, _, _, _, _⟩) ?_ (.tmp 5) ?_ w5.heap.size x ?_ ?_ ?_); exact rfl; exact rfl; exact rfl; exact RX11.out)
        | ((with_reducible refine wpList_buildG_page1 (o := ⟨some 55, _, _, _, _, _⟩) ?_ 1 p1 HB1.out ?_ ?_); exact rfl; exact rfl)
        | (go_at_call 14; (with_reducible refine (HF1.out _).mono ?_); rintro e w12 ⟨rfl, g⟩; have RX12 := Lib.hid (Row.grows RX11.out g); have HG12 := Lib.hid (HG11.out.trans g); clear g)
        | ((with_reducible refine wpList_loadG_pt (o := ⟨some 59, _, _, _, _, _⟩) ?_ (.tmp 5) ?_ w5.heap.size x ?_ ?_ ?_); exact rfl; exact rfl; exact rfl; exact RX12.out)
        | ((with_reducible refine wpList_buildG_page1 (o := ⟨some 60, _, _, _, _, _⟩) ?_ 2 p2 HB2.out ?_ ?_); exact rfl; exact rfl)
        | (go_at_call 14; (with_reducible refine (HF2.out _).mono ?_); rintro e w13 ⟨rfl, g⟩; have RX13 := Lib.hid (Row.grows RX12.out g); have HG13 := Lib.hid (HG12.out.trans g); clear g)
        | ((with_reducible refine wpList_loadG_pt (o := ⟨some 65, _, _, _, _, _⟩) ?_ (.tmp 5) ?_ w5.heap.size x ?_ ?_ ?_); exact rfl; exact rfl; exact rfl; exact RX13.out)
        | (go_at_call 26; (with_reducible refine (HWh.out _).mono ?_); rintro e w14 ⟨r9, rfl, o9, g⟩; rw [HWe.out] at o9; obtain ⟨A9, c9, rfl, _⟩ := o9.els.form; have HG14 := Lib.hid (HG13.out.trans g); clear o9 g))
      go_ret
      exact ⟨rfl, HG14.out⟩
end Go.Proofs.YtnigflobmiiefaaDoor
