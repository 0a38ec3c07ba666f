/- VdWakes -/
import Derived.Test.YtiagmlokocpboaaVdvFlush
import Derived.BigFrame
/- The statements' wakes of layer 3. -/
namespace Go.Proofs.Ytiagmlokocpboaa
open Go.RowKit
set_option linter.unusedVariables false
set_option linter.unusedSimpArgs false
section
variable {w : World} {ops : Array Oper} {rest : List Oper} {o : Oper} {a : Act} {Q : Exit → Act → World → Prop}
theorem wpList_does {P : Program} {R : Value → World → Prop} (hw : Region.wanted o (yielded ops a.tmps) = true) (h : Does P o a.eval w R) (hK : ∀ v w', R v w' → wpList P ops Q rest (a.put o.dst v) w') : wpList P ops Q (o :: rest) a w :=
  BigFrame.wpList_want hw fun K hK' => Does.wp h (fun v w' hR => hK' _ _ (hK v w' hR))
theorem wpList_loadG_pgrow (hw : Region.wanted o (yielded ops a.tmps) = true) (x : Operand) (ho : o.op = .load 40 x) (g : Nat) (p : Pg) (hx : a.eval x = .pointer (some ⟨g, 0, none⟩)) (hl : p.length = 256) (hr : Row w g 40 (pgA p))
    (h : wpList Try.prog ops Q rest (a.put o.dst (.agg (pgA p))) w) : wpList Try.prog ops Q (o :: rest) a w :=
  wpList_does hw (R := fun v w' => v = .agg (pgA p) ∧ w' = w) (dk_load 40 x ⟨g, 0, none⟩ _ ho hx (pg_run_load_row hl hr) ⟨rfl, rfl⟩) (by rintro v w' ⟨rfl, rfl⟩; exact h)
theorem wpList_build_of {t : TypeId} {parts : Array (Nat × Operand)} {cells : Array Value} (hgd : o.guard = none) (ho : o.op = .build t parts) (hc : Try.prog.built t (parts.map fun (i, x) => (i, a.eval x)).toList = some cells) (h : wpList Try.prog ops Q rest (a.put o.dst (.agg cells)) w) : wpList Try.prog ops Q (o :: rest) a w := by
  refine wpList_plain hgd fun K hK => ?_
  refine wp_build t parts ho (by rw [hc]; rfl) ?_
  rw [hc]
  exact hK _ _ h
end
theorem ints_at (w : World) (x : Int) (g j : Nat) (hg : g < w.heap.size) : Els 1 intE (w.heap.size + 1) ((w.alloc (.cells #[.int .i64 x] 3)).setCell ⟨g, j, none⟩ (.slice (some ⟨w.heap.size, 0, none⟩) 1 1)) (.slice (some ⟨w.heap.size, 0, none⟩) 1 1) [x] := by
  refine ⟨fun y hy => rfl, _, 1, rfl, Nat.le_refl _, by decide, fun _ => ⟨w.heap.size, 0, rfl, Nat.lt_succ_self _, fun i u hu => ?_⟩⟩
  rw [Nat.zero_add, ((Row.new w 3 #[.int .i64 x]).far (p := ⟨g, j, none⟩) (by simp; omega) _).cell]
  simpa [intE] using hu
def pg7 : Pg := 7#8 :: List.replicate 255 0#8
theorem pg7_len : pg7.length = 256 := by unfold pg7; rw [List.length_cons, List.length_replicate]
theorem built_pg7 : Try.prog.built 40 [(0, .int .u8 7)] = some (pgA pg7) := by kernel_rfl
def dk1 : Dk := ⟨List.replicate 32 VdM.blank, [], [5], false⟩
def dk2 : Dk := ⟨List.replicate 32 VdM.blank, [(5, pg7)], [5], false⟩
theorem dk1_may : VdM.may dk1 = true := by
  unfold VdM.may VdM.shape VdM.mayC VdM.mayB dk1
  simp only [List.length_replicate, List.length_nil, List.length_singleton, List.all_nil]
  decide
theorem dk2_may : VdM.may dk2 = true := by
  unfold VdM.may VdM.shape VdM.mayC VdM.mayB dk2
  simp only [List.length_replicate, List.length_nil, List.length_singleton, List.all_nil, List.all_cons]
  decide
theorem dk1_at : VdM.atE dk1 5 = 0 := by
  unfold VdM.atE
  rw [if_pos ⟨dk1_may, by decide, by unfold dk1; rw [List.length_replicate]; decide⟩]; rfl
theorem dk2_at : VdM.atE dk2 5 = 0 := by
  unfold VdM.atE
  rw [if_pos ⟨dk2_may, by decide, by unfold dk2; rw [List.length_replicate]; decide⟩]; rfl
theorem dk1_readE : VdM.readE dk1 5 = 31 := by unfold VdM.readE; rw [if_pos dk1_at]; rfl
theorem dk1_readP : VdM.readP dk1 5 = VdM.blank := by unfold VdM.readP; rw [if_pos dk1_at]; rfl
theorem dk2_readE : VdM.readE dk2 5 = 0 := by unfold VdM.readE; rw [if_pos dk2_at]; rfl
theorem dk2_readP : VdM.readP dk2 5 = pg7 := by unfold VdM.readP; rw [if_pos dk2_at]; rfl
theorem dk1_writeE : VdM.writeErr dk1 5 = 0 := by unfold VdM.writeErr; rw [if_neg (by rintro ⟨_, h⟩; cases h), dk1_at]
theorem dk1_writeD : VdM.writeD dk1 5 pg7 = dk2 := by unfold VdM.writeD; rw [if_pos dk1_writeE]; rfl
end Go.Proofs.Ytiagmlokocpboaa
