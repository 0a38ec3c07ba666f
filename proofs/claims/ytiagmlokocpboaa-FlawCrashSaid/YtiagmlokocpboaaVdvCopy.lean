/- VdvCopy -/
import Derived.Test.YtiagmlokocpboaaVdvOwn
import Derived.Test.YtiagmlokocpboaaVdNew
/- vdev.Copy: a disk in memory of its own. -/
namespace Go.Proofs.Ytiagmlokocpboaa
open Go.RowKit
set_option linter.unusedVariables false
set_option linter.unusedSimpArgs false
set_option maxRecDepth 20000 in
set_option maxHeartbeats 2000000 in
theorem vcopy_any (v : Value) (d : Dk) (w : World) (hv : IsDisk w.heap.size w v d) (l1 : d.pages.length ≤ 1000000) (l2 : d.cache.length ≤ 1000000) (l3 : d.bad.length ≤ 1000000) :
    Calls Try.prog 34 #[v] w fun e w' => ∃ r, e = .returned r ∧ OwnDisk w.heap.size w' r d ∧ Grows w w' := by
  obtain ⟨pv, cv, bv, rfl, hp, hc, hb⟩ := hv
  have HP := Lib.hid hp; have HC := Lib.hid hc; have HB := Lib.hid hb
  have L1 := Lib.hid l1; have L2 := Lib.hid l2; have L3 := Lib.hid l3
  clear hp hc hb l1 l2 l3
  obtain ⟨ps, cs, bs, off⟩ := d
  simp only at *
  have RD : Hid (Row (w.alloc (.cells #[pv, cv, bv, .bool off] 26)) w.heap.size 26 #[pv, cv, bv, .bool off]) := Row.new w _ _
  have RZ : Hid (Row ((w.alloc (.cells #[pv, cv, bv, .bool off] 26)).alloc (.cells #[.slice none 0 0, .slice none 0 0, .slice none 0 0, .bool false] 26)) (w.heap.size + 1) 26 #[.slice none 0 0, .slice none 0 0, .slice none 0 0, .bool false]) := by
    have := Row.new (w.alloc (.cells #[pv, cv, bv, .bool off] 26)) 26 #[.slice none 0 0, .slice none 0 0, .slice none 0 0, .bool false]
    rwa [World.size_alloc] at this
  have RD2 := Lib.hid (RD.out.alloc (.cells #[.slice none 0 0, .slice none 0 0, .slice none 0 0, .bool false] 26))
  have HG := Lib.hid ((Grows.alloc w (.cells #[pv, cv, bv, .bool off] 26)).trans (Grows.alloc _ (.cells #[.slice none 0 0, .slice none 0 0, .slice none 0 0, .bool false] 26)))
  have b0 : _ = some pv := RD2.out.cell 0
  have b1 : _ = some cv := RD2.out.cell 1
  have b2 : _ = some bv := RD2.out.cell 2
  have b3 : _ = some (Value.bool off) := RD2.out.cell 3
  go_enter Try.func34, Try.ntmps34
  go_wp2
  generalize (w.alloc (.cells #[pv, cv, bv, .bool off] 26)).alloc (.cells #[.slice none 0 0, .slice none 0 0, .slice none 0 0, .bool false] 26) = W0 at *
  refine wp_region_free 11 15 (by kernel_rfl) (by kernel_rfl) rfl (by kernel_rfl) ?_; simp only [List.take_succ_cons, List.take_zero, List.drop_succ_cons, List.drop_zero]
  repeat (apply free_pure rfl; focus (intro vs w hg hd; have q0 := hg.cell b0; have q1 := hg.cell b1; have q2 := hg.cell b2; have q3 := hg.cell b3; (try simp [Region.binds] at hd); simp only [execOp, resolve, Option.map_some, Option.map_none, List.map_toArray, List.map_cons, List.map_nil, rho_const, rho_func]; (repeat (conv in rho _ _ _ _ (Operand.tmp _) => whnf)); (try simp only [hd]); go_simp; (repeat (conv in rho _ _ _ _ (Operand.tmp _) => whnf)); (try simp only [hd]); rfl))
  refine free_op (fun v_ w_ => Own' 40 256 pageE w.heap.size w_ v_ ps) rfl (own_mono _ _ _) (fun vs wq hg hd => by
    (try simp [Region.binds] at hd); simp only [Does]; simp only [execOp, resolve, Option.map_some, Option.map_none, List.map_toArray, List.map_cons, List.map_nil, rho_const, rho_func]; (repeat (conv in rho _ _ _ _ (Operand.tmp _) => whnf)); (try simp only [hd]); go_simp; (repeat (conv in rho _ _ _ _ (Operand.tmp _) => whnf))
    have hle := Below.size (Grows.of_drew hg)
    refine (vown_page _ (.slice none 0 0) ps [] _ ((HP.out.below (HG.out.trans (Grows.of_drew hg))).more (Nat.le_trans HG.out.size hle)) (Els.nil _ _) (by have := L1.out; simpa using this)).mono ?_
    rintro e w2 ⟨r, rfl, ho, hg2⟩
    rw [List.append_nil] at ho
    exact ⟨r, rfl, hg2, ho.more (Nat.le_trans HG.out.size hle)⟩) ?_
  repeat (apply free_pure rfl; focus (intro vs w hg hd; have q0 := hg.cell b0; have q1 := hg.cell b1; have q2 := hg.cell b2; have q3 := hg.cell b3; (try simp [Region.binds] at hd); simp only [execOp, resolve, Option.map_some, Option.map_none, List.map_toArray, List.map_cons, List.map_nil, rho_const, rho_func]; (repeat (conv in rho _ _ _ _ (Operand.tmp _) => whnf)); (try simp only [hd]); go_simp; (repeat (conv in rho _ _ _ _ (Operand.tmp _) => whnf)); (try simp only [hd]); rfl))
  refine free_op (fun v_ w_ => Own' 42 257 writeE w.heap.size w_ v_ cs) rfl (own_mono _ _ _) (fun vs wq hg hd => by
    (try simp [Region.binds] at hd); simp only [Does]; simp only [execOp, resolve, Option.map_some, Option.map_none, List.map_toArray, List.map_cons, List.map_nil, rho_const, rho_func]; (repeat (conv in rho _ _ _ _ (Operand.tmp _) => whnf)); (try simp only [hd]); go_simp; (repeat (conv in rho _ _ _ _ (Operand.tmp _) => whnf))
    have hle := Below.size (Grows.of_drew hg)
    refine (vown_write _ (.slice none 0 0) cs [] _ ((HC.out.below (HG.out.trans (Grows.of_drew hg))).more (Nat.le_trans HG.out.size hle)) (Els.nil _ _) (by have := L2.out; simpa using this)).mono ?_
    rintro e w2 ⟨r, rfl, ho, hg2⟩
    rw [List.append_nil] at ho
    exact ⟨r, rfl, hg2, ho.more (Nat.le_trans HG.out.size hle)⟩) ?_
  repeat (apply free_pure rfl; focus (intro vs w hg hd; have q0 := hg.cell b0; have q1 := hg.cell b1; have q2 := hg.cell b2; have q3 := hg.cell b3; (try simp [Region.binds] at hd); simp only [execOp, resolve, Option.map_some, Option.map_none, List.map_toArray, List.map_cons, List.map_nil, rho_const, rho_func]; (repeat (conv in rho _ _ _ _ (Operand.tmp _) => whnf)); (try simp only [hd]); go_simp; (repeat (conv in rho _ _ _ _ (Operand.tmp _) => whnf)); (try simp only [hd]); rfl))
  refine free_op (fun v_ w_ => Own' 3 1 intE w.heap.size w_ v_ bs) rfl (own_mono _ _ _) (fun vs wq hg hd => by
    (try simp [Region.binds] at hd); simp only [Does]; simp only [execOp, resolve, Option.map_some, Option.map_none, List.map_toArray, List.map_cons, List.map_nil, rho_const, rho_func]; (repeat (conv in rho _ _ _ _ (Operand.tmp _) => whnf)); (try simp only [hd]); go_simp; (repeat (conv in rho _ _ _ _ (Operand.tmp _) => whnf))
    have hle := Below.size (Grows.of_drew hg)
    refine (vown_int _ (.slice none 0 0) bs [] _ ((HB.out.below (HG.out.trans (Grows.of_drew hg))).more (Nat.le_trans HG.out.size hle)) (Els.nil _ _) (by have := L3.out; simpa using this)).mono ?_
    rintro e w2 ⟨r, rfl, ho, hg2⟩
    rw [List.append_nil] at ho
    exact ⟨r, rfl, hg2, ho.more (Nat.le_trans HG.out.size hle)⟩) ?_
  repeat (apply free_pure rfl; focus (intro vs w hg hd; have q0 := hg.cell b0; have q1 := hg.cell b1; have q2 := hg.cell b2; have q3 := hg.cell b3; (try simp [Region.binds] at hd); simp only [execOp, resolve, Option.map_some, Option.map_none, List.map_toArray, List.map_cons, List.map_nil, rho_const, rho_func]; (repeat (conv in rho _ _ _ _ (Operand.tmp _) => whnf)); (try simp only [hd]); go_simp; (repeat (conv in rho _ _ _ _ (Operand.tmp _) => whnf)); (try simp only [hd]); rfl))
  intro vs w' hg hv; have h2 := hv 2 (by omega); simp at h2; have h5 := hv 5 (by omega); simp at h5; have h8 := hv 8 (by omega); simp at h8; have h10 := hv 10 (by omega); simp at h10; simp only [putL, dstAt, List.range, List.range.loop, if_true, List.getElem?_toArray, List.getElem?_cons_zero, List.getElem?_cons_succ, Option.bind_some, Act.put, List.setIfInBounds_toArray, List.set_cons_zero, List.set_cons_succ]
  rw [h10]
  have H3 := Lib.hid h2; have H7 := Lib.hid h5; have H11 := Lib.hid h8
  have RZ' := Lib.hid (Row.grows RZ.out (Grows.of_drew hg))
  have HG' := Lib.hid (HG.out.trans (Grows.of_drew hg))
  clear hv h2 h5 h8 h10 hg b0 b1 b2 b3
  generalize vs 0 = z0, vs 1 = z1, vs 2 = z2, vs 3 = z3, vs 4 = z4, vs 5 = z5, vs 6 = z6, vs 7 = z7, vs 8 = z8, vs 9 = z9, vs 10 = z10 at *
  obtain ⟨A3, c3, rfl, _⟩ := H3.out.els.form
  obtain ⟨A7, c7, rfl, _⟩ := H7.out.els.form
  obtain ⟨A11, c11, rfl, _⟩ := H11.out.els.form
  have hone : Hid ((#[Value.slice A3 ps.length c3, Value.slice A7 cs.length c7, Value.slice A11 bs.length c11, Value.bool off] : Array Value).all (·.oneCell') = true) := by unfold Hid; simp [Value.oneCell']
  go_wp2_with (first
    | ((with_reducible refine wpList_store_row ?_ 26 (.tmp 2) (.tmp 14) ?_ (w.heap.size + 1) #[.slice A3 ps.length c3, .slice A7 cs.length c7, .slice A11 bs.length c11, .bool off] ?_ ?_ 26 #[.slice none 0 0, .slice none 0 0, .slice none 0 0, .bool false] ?_ ?_ ?_ ?_ ?_); exact rfl; exact rfl; exact rfl; exact rfl; exact RZ'.out; exact disk_info; exact rfl; exact hone.out))
  have G2 := setRow_grown w' (w.heap.size + 1) #[Value.slice A3 ps.length c3, Value.slice A7 cs.length c7, Value.slice A11 bs.length c11, Value.bool off]
  have R2 := RZ'.out.setRow #[Value.slice A3 ps.length c3, Value.slice A7 cs.length c7, Value.slice A11 bs.length c11, Value.bool off]
  refine bodyPost_ret (results_cell_row (p := 2) (by exact rfl) _ _ (w.heap.size + 1) 26 _ (0, 0) _ (by exact rfl) R2 Try.underlying26 rfl disk_info) rfl ?_
  exact ⟨_, rfl, ⟨_, _, _, rfl, H3.out.aside G2 RZ'.out (by decide), H7.out.aside G2 RZ'.out (by decide), H11.out.aside G2 RZ'.out (by decide)⟩, HG'.out.grown G2 HG'.out.size (fun k e => by cases e; exact Nat.le_succ _)⟩
end Go.Proofs.Ytiagmlokocpboaa
