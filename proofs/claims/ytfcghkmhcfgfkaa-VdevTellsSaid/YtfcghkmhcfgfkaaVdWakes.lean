/- The statements' wakes of layer 3. -/
import Derived.Test.YtfcghkmhcfgfkaaVdvFlush
import Derived.BigFrame
namespace Go.Proofs.Ytfcghkmhcfgfkaa
open Go.RowKit
set_option linter.unusedVariables false
set_option linter.unusedSimpArgs false
section
variable {w : World} {ops : Array Oper} {rest : List Oper} {o : Oper} {a : Act} {Q : Exit → Act → World → Prop}
theorem wpList_does {P : Program} {R : Value → World → Prop} (hw : Region.wanted o (yielded ops a.tmps) = true) (h : Does P o a.eval w R) (hK : ∀ v w', R v w' → wpList P ops Q rest (a.put o.dst v) w') : wpList P ops Q (o :: rest) a w :=
  BigFrame.wpList_want hw fun K hK' => Does.wp h (fun v w' hR => hK' _ _ (hK v w' hR))
theorem wpList_loadG_pgrow (hw : Region.wanted o (yielded ops a.tmps) = true) (x : Operand) (ho : o.op = .load 28 x) (g : Nat) (p : Pg) (hx : a.eval x = .pointer (some ⟨g, 0, none⟩)) (hl : p.length = 256) (hr : Row w g 28 (pgA p))
    (h : wpList Try.prog ops Q rest (a.put o.dst (.agg (pgA p))) w) : wpList Try.prog ops Q (o :: rest) a w :=
  wpList_does hw (R := fun v w' => v = .agg (pgA p) ∧ w' = w) (dk_load 28 x ⟨g, 0, none⟩ _ ho hx (pg_run_load_row hl hr) ⟨rfl, rfl⟩) (by rintro v w' ⟨rfl, rfl⟩; exact h)
theorem wpList_build_of {t : TypeId} {parts : Array (Nat × Operand)} {cells : Array Value} (hgd : o.guard = none) (ho : o.op = .build t parts) (hc : Try.prog.built t (parts.map fun (i, x) => (i, a.eval x)).toList = some cells) (h : wpList Try.prog ops Q rest (a.put o.dst (.agg cells)) w) : wpList Try.prog ops Q (o :: rest) a w := by
  refine wpList_plain hgd fun K hK => ?_
  refine wp_build t parts ho (by rw [hc]; rfl) ?_
  rw [hc]
  exact hK _ _ h
end
theorem ints_at (w : World) (x : Int) (g j : Nat) (hg : g < w.heap.size) : Els 1 intE (w.heap.size + 1) ((w.alloc (.cells #[.int .i64 x] 3)).setCell ⟨g, j, none⟩ (.slice (some ⟨w.heap.size, 0, none⟩) 1 1)) (.slice (some ⟨w.heap.size, 0, none⟩) 1 1) [x] := by
  refine ⟨fun y hy => rfl, _, 1, rfl, Nat.le_refl _, by decide, fun _ => ⟨w.heap.size, 0, rfl, Nat.lt_succ_self _, fun i u hu => ?_⟩⟩
  rw [Nat.zero_add, ((Row.new w 3 #[.int .i64 x]).far (p := ⟨g, j, none⟩) (by simp; omega) _).cell]
  simpa [intE] using hu
def pg7 : Pg := 7#8 :: List.replicate 255 0#8
theorem pg7_len : pg7.length = 256 := by unfold pg7; rw [List.length_cons, List.length_replicate]
theorem built_pg7 : Try.prog.built 28 [(0, .int .u8 7)] = some (pgA pg7) := by kernel_rfl
def dk1 : Dk := ⟨List.replicate 32 VdM.blank, [], [5], false⟩
def dk2 : Dk := ⟨List.replicate 32 VdM.blank, [(5, pg7)], [5], false⟩
theorem dk1_may : VdM.may dk1 = true := by
  unfold VdM.may VdM.shape VdM.mayC VdM.mayB dk1
  simp only [List.length_replicate, List.length_nil, List.length_singleton, List.all_nil]
  decide
theorem dk2_may : VdM.may dk2 = true := by
  unfold VdM.may VdM.shape VdM.mayC VdM.mayB dk2
  simp only [List.length_replicate, List.length_nil, List.length_singleton, List.all_nil, List.all_cons]
  decide
theorem dk1_at : VdM.atE dk1 5 = 0 := by
  unfold VdM.atE
  rw [if_pos ⟨dk1_may, by decide, by unfold dk1; rw [List.length_replicate]; decide⟩]; rfl
theorem dk2_at : VdM.atE dk2 5 = 0 := by
  unfold VdM.atE
  rw [if_pos ⟨dk2_may, by decide, by unfold dk2; rw [List.length_replicate]; decide⟩]; rfl
theorem dk1_readE : VdM.readE dk1 5 = 31 := by unfold VdM.readE; rw [if_pos dk1_at]; rfl
theorem dk1_readP : VdM.readP dk1 5 = VdM.blank := by unfold VdM.readP; rw [if_pos dk1_at]; rfl
theorem dk2_readE : VdM.readE dk2 5 = 0 := by unfold VdM.readE; rw [if_pos dk2_at]; rfl
theorem dk2_readP : VdM.readP dk2 5 = pg7 := by unfold VdM.readP; rw [if_pos dk2_at]; rfl
theorem dk1_writeE : VdM.writeErr dk1 5 = 0 := by unfold VdM.writeErr; rw [if_neg (by rintro ⟨_, h⟩; cases h), dk1_at]
theorem dk1_writeD : VdM.writeD dk1 5 pg7 = dk2 := by unfold VdM.writeD; rw [if_pos dk1_writeE]; rfl
set_option maxHeartbeats 4000000 in
set_option maxRecDepth 20000 in
theorem wakes_any (w : World) :
    Calls Try.prog 9 #[] w fun e w' => e = .returned (.bool true) ∧ Grows w w' := by
  have N1 := Lib.hid (fun W => vnew_any 31 W (by decide) (by decide))
  have N2 := Lib.hid (fun W => vnew_any 32 W (by decide) (by decide))
  have e1 : newE 31 = 2 := by decide
  have e2 : newE 32 = 0 := by decide
  have e3 : newD 31 = ⟨[], [], [], false⟩ := rfl
  have e4 : newD 32 = ⟨List.replicate 32 VdM.blank, [], [], false⟩ := rfl
  rw [e1, e3] at N1
  rw [e2, e4] at N2
  clear e1 e2 e3 e4
  have HLR : Hid ((List.replicate 32 VdM.blank).length = 32) := List.length_replicate
  have RD1 := Lib.hid (fun W (v : Value) (h : IsDisk (World.heap W).size W v dk1) => vread_any v dk1 5 W h)
  rw [dk1_readE, dk1_readP] at RD1
  have RD2 := Lib.hid (fun W (v : Value) (h : IsDisk (World.heap W).size W v dk2) => vread_any v dk2 5 W h)
  rw [dk2_readE, dk2_readP] at RD2
  have WR := Lib.hid (fun W (v : Value) (h : IsDisk (World.heap W).size W v dk1) => vwrite_any v dk1 5 pg7 W pg7_len h (by unfold dk1; simp) (by unfold dk1; simp) (by unfold dk1; simp))
  rw [dk1_writeE, dk1_writeD] at WR
  have hz := zero_pg
  have HL2 : Hid (dk2.cache.length = 1) := rfl
  have HO2 : Hid (dk2.off = false) := rfl
  have heq : ∀ W, _ := fun W => page_eq_run pg7 pg7 pg7_len pg7_len W
  rw [decide_eq_true rfl] at heq
  go_enter Try.func9, Try.ntmps9
  go_wp2_with (first
    | (go_at_call 10; (with_reducible refine (N1.out _).mono ?_); rintro e w1 ⟨r1, rfl, hr1, g1⟩; obtain ⟨pv1, cv1, bv1, rfl, o1, o2, o3⟩ := hr1; have H41 := Lib.hid (dk_one (d := ⟨[], [], [], false⟩) ⟨pv1, cv1, bv1, rfl, o1.els, o2.els, o3.els⟩); have HG1 := Lib.hid g1; clear g1 o1 o2 o3)
    | ((with_reducible refine wpList_store_dk ?_ (.tmp 1) (.tmp 14) ?_ w1.heap.size #[pv1, cv1, bv1, .bool false] #[.slice none 0 0, .slice none 0 0, .slice none 0 0, .bool false] ?_ ?_ ?_ ?_ ?_ ?_ ?_); exact rfl; exact rfl; exact rfl; exact rfl; exact rfl; exact rfl; exact H41.out.2; exact Row.new w1 _ _; intro w2 hp2 hg2; have HG2 := Lib.hid ((HG1.out.trans (Grows.alloc _ _)).grown hg2 (by have := HG1.out.size; simp; omega) (fun k e => by cases e; exact HG1.out.size)); clear hp2 hg2)
    | (go_at_call 10; (with_reducible refine (N2.out _).mono ?_); rintro e w3 ⟨r3, rfl, hr3, g3⟩; obtain ⟨pv3, cv3, bv3, rfl, o1, o2, o3⟩ := hr3; have H43 := Lib.hid (dk_one (d := ⟨List.replicate 32 VdM.blank, [], [], false⟩) ⟨pv3, cv3, bv3, rfl, o1.els, o2.els, o3.els⟩); obtain ⟨A3, c3, rfl, q3, _⟩ := o1.els.form; rw [HLR.out] at o1 H43 q3 ⊢; have O1 := Lib.hid o1; have O2 := Lib.hid o2; have HG3 := Lib.hid ((show Grows w w2 from HG2.out).trans g3); clear g3 o1 o2 o3)
    | ((with_reducible refine wpList_store_dk ?_ (.tmp 3) (.tmp 18) ?_ w3.heap.size #[.slice A3 32 c3, cv3, bv3, .bool false] #[.slice none 0 0, .slice none 0 0, .slice none 0 0, .bool false] ?_ ?_ ?_ ?_ ?_ ?_ ?_); exact rfl; exact rfl; exact rfl; exact rfl; exact rfl; exact rfl; exact H43.out.2; exact Row.new w3 _ _; intro w4 hp4 hg4;
        have HG4 := Lib.hid ((HG3.out.trans (Grows.alloc _ _)).grown hg4 (by have := HG3.out.size; simp; omega) (fun k e => by cases e; exact HG3.out.size));
        have RD4 := Lib.hid (hp4.alloc (.cells #[.int .i64 5] 3));
        have OP4 := Lib.hid (((O1.out.grows (Grows.alloc _ _)).aside hg4 (Row.new w3 _ _) (by decide)).grows (Grows.alloc _ (.cells #[.int .i64 5] 3)));
        have OC4 := Lib.hid (((O2.out.grows (Grows.alloc _ _)).aside hg4 (Row.new w3 _ _) (by decide)).grows (Grows.alloc _ (.cells #[.int .i64 5] 3)));
        have f0 := hp4.cell 0; have f2 := RD4.out.cell 2; have ff2 := RD4.out.frozen 2;
        have RD5 : Hid (Row ((w4.alloc (.cells #[.int .i64 5] 3)).setCell ⟨w3.heap.size, 2, none⟩ (.slice (some ⟨w4.heap.size, 0, none⟩) 1 1)) w3.heap.size 26 #[.slice A3 32 c3, cv3, .slice (some ⟨w4.heap.size, 0, none⟩) 1 1, .bool false]) := RD4.out.set 2 _;
        have HK5 : Hid (w3.heap.size < w4.heap.size) := hp4.lt;
        have HB5 := Lib.hid (ints_at w4 5 w3.heap.size 2 HK5.out);
        have HD5 : Hid (IsDisk ((w4.alloc (.cells #[.int .i64 5] 3)).setCell ⟨w3.heap.size, 2, none⟩ (.slice (some ⟨w4.heap.size, 0, none⟩) 1 1)).heap.size ((w4.alloc (.cells #[.int .i64 5] 3)).setCell ⟨w3.heap.size, 2, none⟩ (.slice (some ⟨w4.heap.size, 0, none⟩) 1 1)) (.agg #[.slice A3 32 c3, cv3, .slice (some ⟨w4.heap.size, 0, none⟩) 1 1, .bool false]) dk1) := ⟨_, _, _, rfl, (OP4.out.aside (setCell_grown _ _ _ _) RD4.out (by decide)).els, (OC4.out.aside (setCell_grown _ _ _ _) RD4.out (by decide)).els, HB5.out.more (by simp)⟩;
        have HG5 := Lib.hid ((HG4.out.alloc HG4.out.size (.cells #[.int .i64 5] 3)).setCell (p := ⟨w3.heap.size, 2, none⟩) (by have := HG3.out.size; simp; omega) (.slice (some ⟨w4.heap.size, 0, none⟩) 1 1));
        have H45 := Lib.hid (dk_one (d := dk1) HD5.out);
        clear hp4 hg4)
    | ((with_reducible refine wpList_load_dk (o := ⟨some 31, _, _, _, _, _⟩) ?_ (.tmp 3) ?_ w3.heap.size #[.slice A3 32 c3, cv3, .slice (some ⟨w4.heap.size, 0, none⟩) 1 1, .bool false] ?_ ?_ ?_ ?_); exact rfl; exact rfl; exact rfl; exact RD5.out; exact rfl)
    | (go_at_call 12; (with_reducible refine (RD1.out _ _ HD5.out).mono ?_); rintro e w6 ⟨rfl, g6⟩; have G56 := Lib.hid g6; clear g6)
    | ((with_reducible refine wpList_store_pgrow ?_ (.tmp 5) (.tmp 33) ?_ w6.heap.size VdM.blank VdM.blank ?_ ?_ ?_ ?_ ?_ ?_); exact rfl; exact rfl; exact rfl; exact rfl; exact blank_len; exact blank_len; exact Row.new w6 _ _; intro w7 hp7 hg7;
        have G57 := Lib.hid ((G56.out.trans (Grows.alloc _ _)).grown hg7 (by have := G56.out.size; simp at this ⊢; omega) (fun k e => by cases e; exact G56.out.size));
        have HG7 := Lib.hid ((show Grows w _ from HG5.out).trans G57.out); have RD7 := Lib.hid (Row.grows RD5.out G57.out); have HD7 := Lib.hid (HD5.out.grows G57.out); clear hp7 hg7)
    | ((with_reducible refine wpList_build_of (o := ⟨some 35, _, _, _, _, _⟩) (cells := pgA pg7) ?_ ?_ ?_ ?_); exact rfl; exact rfl; exact built_pg7)
    | ((with_reducible refine wpList_store_pgrow ?_ (.tmp 7) (.tmp 35) ?_ w7.heap.size pg7 VdM.blank ?_ ?_ ?_ ?_ ?_ ?_); exact rfl; exact rfl; exact rfl; exact rfl; exact pg7_len; exact blank_len; exact Row.new w7 _ _; intro w8 hp8 hg8; have P8 := Lib.hid hp8;
        have G78 := Lib.hid ((Grows.alloc w7 (.cells (pgA VdM.blank) 28)).grown hg8 (by simp) (fun k e => by cases e; exact Nat.le_refl _));
        have HG8 := Lib.hid (HG7.out.trans G78.out); have RD8 := Lib.hid (Row.grows RD7.out G78.out); have HD8 := Lib.hid (HD7.out.grows G78.out); clear hp8 hg8)
    | ((with_reducible refine wpList_load_dk (o := ⟨some 37, _, _, _, _, _⟩) ?_ (.tmp 3) ?_ w3.heap.size #[.slice A3 32 c3, cv3, .slice (some ⟨w4.heap.size, 0, none⟩) 1 1, .bool false] ?_ ?_ ?_ ?_); exact rfl; exact rfl; exact rfl; exact RD8.out; exact rfl)
    | ((with_reducible refine wpList_load_pgrow (o := ⟨some 38, _, _, _, _, _⟩) ?_ (.tmp 7) ?_ w7.heap.size pg7 ?_ ?_ ?_ ?_); exact rfl; exact rfl; exact rfl; exact pg7_len; exact P8.out)
    | (go_at_call 22; (with_reducible refine (WR.out _ _ HD8.out).mono ?_); rintro e w9 ⟨r9, rfl, hr9, g9⟩; obtain ⟨pv9, cv9, bv9, rfl, o1, o2, o3⟩ := hr9; obtain ⟨C9, c9, rfl, _⟩ := o2.els.form; rw [HL2.out] at o2 ⊢; rw [HO2.out];
        have HD9 : Hid (IsDisk w9.heap.size w9 (.agg #[pv9, .slice C9 1 c9, bv9, .bool false]) dk2) := ⟨_, _, _, rfl, o1.els, o2.els, o3.els⟩; have H49 := Lib.hid (dk_one HD9.out);
        have P9 := Lib.hid (Row.grows P8.out g9); have HG9 := Lib.hid (HG8.out.trans g9); clear o1 o2 o3 g9)
    | ((with_reducible refine wpList_store_dk ?_ (.tmp 8) (.tmp 40) ?_ w9.heap.size #[pv9, .slice C9 1 c9, bv9, .bool false] #[.slice none 0 0, .slice none 0 0, .slice none 0 0, .bool false] ?_ ?_ ?_ ?_ ?_ ?_ ?_); exact rfl; exact rfl; exact rfl; exact rfl; exact rfl; exact rfl; exact H49.out.2; exact Row.new w9 _ _; intro w10 hp10 hg10;
        have G910 := Lib.hid ((Grows.alloc w9 (.cells #[.slice none 0 0, .slice none 0 0, .slice none 0 0, .bool false] 26)).grown hg10 (by simp) (fun k e => by cases e; exact Nat.le_refl _));
        have RD10 := Lib.hid hp10; have P10 := Lib.hid (Row.grows P9.out G910.out); have HG10 := Lib.hid (HG9.out.trans G910.out); have HD10 := Lib.hid (HD9.out.grows G910.out); clear hp10 hg10)
    | ((with_reducible refine wpList_load_dk (o := ⟨some 43, _, _, _, _, _⟩) ?_ (.tmp 8) ?_ w9.heap.size #[pv9, .slice C9 1 c9, bv9, .bool false] ?_ ?_ ?_ ?_); exact rfl; exact rfl; exact rfl; exact RD10.out; exact rfl)
    | (go_at_call 12; (with_reducible refine (RD2.out _ _ HD10.out).mono ?_); rintro e w11 ⟨rfl, g11⟩; have P11 := Lib.hid (Row.grows P10.out g11); have RD11 := Lib.hid (Row.grows RD10.out g11); have HG11 := Lib.hid (HG10.out.trans g11); clear g11)
    | ((with_reducible refine wpList_store_pgrow ?_ (.tmp 10) (.tmp 45) ?_ w11.heap.size pg7 VdM.blank ?_ ?_ ?_ ?_ ?_ ?_); exact rfl; exact rfl; exact rfl; exact rfl; exact pg7_len; exact blank_len; exact Row.new w11 _ _; intro w12 hp12 hg12;
        have G12 := Lib.hid ((Grows.alloc w11 (.cells (pgA VdM.blank) 28)).grown hg12 (by simp) (fun k e => by cases e; exact Nat.le_refl _));
        have P12 := Lib.hid (Row.grows P11.out G12.out); have Q12 := Lib.hid hp12; have c12 := (Row.grows RD11.out G12.out).cell 1; have HG12 := Lib.hid (HG11.out.trans G12.out); clear hp12 hg12)
    | ((with_reducible refine wpList_loadG_pgrow (o := ⟨some 62, _, _, _, _, _⟩) ?_ (.tmp 10) ?_ w11.heap.size pg7 ?_ ?_ ?_ ?_); exact rfl; exact rfl; exact rfl; exact pg7_len; exact Q12.out)
    | ((with_reducible refine wpList_loadG_pgrow (o := ⟨some 63, _, _, _, _, _⟩) ?_ (.tmp 7) ?_ w7.heap.size pg7 ?_ ?_ ?_ ?_); exact rfl; exact rfl; exact rfl; exact pg7_len; exact P12.out))
  go_ret
  exact ⟨rfl, HG12.out⟩
end Go.Proofs.Ytfcghkmhcfgfkaa
