/- LfCollect -/
import Derived.Test.YthdncpkmhodokaaDoorLfIter
import Derived.Test.YthdncpkmhodokaaDoorVdA
/- Layer 6: the items that a page tells, collected. -/
namespace Go.Proofs.YthdncpkmhodokaaDoor
open Go.RowKit Go.Shelf Go.Joins
set_option linter.unusedVariables false
set_option linter.unusedSimpArgs false
attribute [local go_sem] Oper.semAt_some
theorem Turns.below {B : Nat} {w W W' : World} (h : Turns B W W') (hb : Below B w W) (hB : B ≤ W.heap.size) : Below B w W' := by
  obtain ⟨l, o, o', h1, h2, h3, rfl⟩ := h
  exact hb.grown (grownBy_putObj' W l o') hB (fun k e => by cases e; exact h1)
theorem Turns.less {B B' : Nat} {W W' : World} (h : Turns B' W W') (hB : B ≤ B') : Turns B W W' := by
  obtain ⟨l, o, o', h1, h2, h3, rfl⟩ := h
  exact ⟨l, o, o', Nat.le_trans hB h1, h2, h3, rfl⟩
theorem Turns.row {B g : Nat} {W W' : World} {t : TypeId} {cs : Array Value} (h : Turns B W W') (hr : Row W g t cs) : Row W' g t cs := by
  obtain ⟨l, o, o', h1, h2, h3, rfl⟩ := h
  refine (World.putObj_heap_other ?_).trans hr
  intro e
  subst e
  rw [show W.heap[g]? = _ from hr] at h2
  cases h2
  cases h3
theorem Turns.mine {B base : Nat} {W W' : World} {v : Value} {l : List (BitVec 8)} (h : Turns B W W') (hm : Mine base W v l) : Mine base W' v l := by
  obtain ⟨k, o, o', h1, h2, h3, rfl⟩ := h
  exact ownsRow_putObj hm o' h2 h3
theorem Turns.rawOwn {B base : Nat} {W W' : World} {r : Raw} {x : It} (h : Turns B W W') (hr : RawOwn base W r x) : RawOwn base W' r x := ⟨h.mine hr.1, h.mine hr.2.1, hr.2.2⟩
theorem Turns.ownIts {B base : Nat} {W W' : World} {v : Value} {l : List It} (h : Turns B W W') (ho : OwnIts base W v l) : OwnIts base W' v l := by
  obtain ⟨rs, h1, h2, h3⟩ := ho
  refine ⟨rs, ⟨h1.1, ?_⟩, h2, fun j r x hr hx => h.rawOwn (h3 j r x hr hx)⟩
  obtain ⟨k, o, o', _, g2, g3, rfl⟩ := h
  exact ownsRow_putObj h1.2 o' g2 g3
theorem Turns.leaves {B : Nat} {W W' : World} (h : Turns B W W') (hB : B ≤ W.heap.size) : Leaves B W W' := ⟨h.below (Below.refl _ _) hB, fun v l hm => h.mine hm⟩
theorem Leaves.of_grows {B : Nat} {W W' : World} (h : Grows W W') (hB : B ≤ W.heap.size) : Leaves B W W' := ⟨Below.mono h hB, fun v l hm => hm.grows h⟩
/-- Items of a call's own stay where a block of another type is turned. -/
theorem OwnIts.apart {base g : Nat} {w w' : World} {v : Value} {l : List It} {t : TypeId} {cs : Array Value} (h : OwnIts base w v l) (hg : w.grownBy w' (some g)) (hr : Row w g t cs) (h1 : 5 ≠ t) (h2 : 45 ≠ t) : OwnIts base w' v l := by
  obtain ⟨rs, k1, k2, k3⟩ := h
  exact ⟨rs, k1.aside hg hr h2, k2, fun j r x hr' hx => ⟨(k3 j r x hr' hx).1.apart hg hr h1, (k3 j r x hr' hx).2.1.apart hg hr h1, (k3 j r x hr' hx).2.2⟩⟩
theorem does_slice_it {ρ : Operand → Value} {o : Oper} {w : World} {R : Value → World → Prop} (x : Operand) (ho : o.op = .buildSlice 22 1 #[(0, x)]) (r : Raw) (hx : ρ x = .agg (rawA r))
    (hR : R (.slice (some ⟨w.heap.size, 0, none⟩) 1 1) (w.alloc (.cells (rawA r) 45))) : Does Tryd.prog o ρ w R := by
  have hf : Tryd.prog.builtSlice 45 1 ((#[(0, x)] : Array (Nat × Operand)).map fun (i, x) => (i, ρ x)).toList = some (rawA r) := by
    simp only [List.map_toArray, List.map_cons, List.map_nil, hx]
    exact builtSlice_item r
  have hr : (Instr.buildSlice 22 1 ((#[(0, x)] : Array (Nat × Operand)).map fun (i, x) => (i, ρ x))).run Tryd.prog w = .ok (.slice (some ⟨w.heap.size, 0, none⟩) 1 1) (w.alloc (.cells (rawA r) 45)) := by
    unfold Program.builtSlice at hf
    cases hie : Tryd.prog.info? 45 with
    | none => simp [hie] at hf
    | some ie =>
      simp only [hie] at hf
      cases hz : ie.zero with
      | none => simp [hz] at hf
      | some z =>
        simp only [hz] at hf
        by_cases hc : 1 * ie.size > 2 ^ 24 ∨ 1 * ie.size = 0
        · rw [if_pos hc] at hf; cases hf
        · rw [if_neg hc] at hf
          exact run_buildSlice w _ _ 1 _ _ ie z Tryd.underlying22 hie hz (fun h' => hc (Or.inl h')) (fun h' => hc (Or.inr h')) hf
  unfold Does execOp
  simp only [ho, Sem.run_bind, hr, Result.andThen_ok]
  exact hR
theorem does_append_its {base B : Nat} {w : World} {o : Oper} {ρ : Operand → Value} {R : Value → World → Prop} (y x : Operand)
    (ho : o.op = .call { callee := .builtin .append, args := #[y, x], argTypes := #[22, 22] }) (l : List It) (r : Raw) (i : It)
    (hv : OwnIts base w (ρ y) l) (hx : Els 8 rawE B w (ρ x) [r]) (hr : RawOwn base w r i) (hlen : l.length + 1 ≤ 1000000) (hb : base ≤ w.heap.size)
    (h : ∀ v' w', OwnIts base w' v' (l ++ [i]) → w.grownBy w' (ρ y).ownBlock → R v' w') : Does Tryd.prog o ρ w R := by
  obtain ⟨v', w', hrun, h2, h3, _⟩ := run_append_its o.type hv hx hr hlen hb
  unfold Does execOp
  simp only [ho, resolve, invoke, builtin, Sem.run_bind, Sem.run_pure, Result.andThen_ok, List.map_toArray, List.map_cons, List.map_nil, hrun]
  exact h v' w' h2 h3
section
variable {F : Fence} {nn : Nat} {w : World} {ops : Array Oper} {rest : List Oper} {o : Oper} {a : Act} {Q : Exit → Act → World → Prop}
theorem wpListIn_load_it (hF : WideF F) (hgd : o.guard = none) (y : Operand) (ho : o.op = .load 45 y) (g : Nat) (r : Raw) (hx : a.eval y = .pointer (some ⟨g, 0, none⟩)) (hr : Row w g 45 (rawA r))
    (h : wpListIn F nn Tryd.prog ops Q rest (a.put o.dst (.agg (rawA r))) w) : wpListIn F nn Tryd.prog ops Q (o :: rest) a w :=
  wpListIn_does hF hgd (by rw [ho]; intro c e; cases e) (R := fun v w' => v = .agg (rawA r) ∧ w = w') (dk_load 45 y ⟨g, 0, none⟩ _ ho hx (item_run_load (rawA_row hr)) ⟨rfl, rfl⟩) (by rintro v w' ⟨rfl, rfl⟩; exact h)
theorem wpListIn_store_it (hF : WideF F) (hgd : o.guard = none) (y z : Operand) (ho : o.op = .store 45 y z) (g : Nat) (r : Raw) (old : Array Value) (hx : a.eval y = .pointer (some ⟨g, 0, none⟩)) (hy : a.eval z = .agg (rawA r)) (h8 : old.size = 8) (hr : Row w g 45 old)
    (h : ∀ w', Row w' g 45 (rawA r) → w.grownBy w' (some g) → wpListIn F nn Tryd.prog ops Q rest (a.put o.dst undef) w') : wpListIn F nn Tryd.prog ops Q (o :: rest) a w :=
  wpListIn_does hF hgd (by rw [ho]; intro c e; cases e) (R := fun v w' => v = undef ∧ Row w' g 45 (rawA r) ∧ w.grownBy w' (some g))
    (does_store_row 45 y z ho g (rawA r) hx hy old _ hr item_info (by rw [h8]; rfl) (rawA_one r) (fun w' h1 h2 => ⟨rfl, h1, h2⟩)) (by rintro v w' ⟨rfl, h1, h2⟩; exact h w' h1 h2)
theorem wpListIn_slice_it (hF : WideF F) (hgd : o.guard = none) (x : Operand) (ho : o.op = .buildSlice 22 1 #[(0, x)]) (r : Raw) (hx : a.eval x = .agg (rawA r))
    (h : wpListIn F nn Tryd.prog ops Q rest (a.put o.dst (.slice (some ⟨w.heap.size, 0, none⟩) 1 1)) (w.alloc (.cells (rawA r) 45))) : wpListIn F nn Tryd.prog ops Q (o :: rest) a w :=
  wpListIn_does hF hgd (by rw [ho]; intro c e; cases e) (R := fun v w' => v = .slice (some ⟨w.heap.size, 0, none⟩) 1 1 ∧ w.alloc (.cells (rawA r) 45) = w') (does_slice_it x ho r hx ⟨rfl, rfl⟩) (by rintro v w' ⟨rfl, rfl⟩; exact h)
theorem wpListIn_append_its (hF : WideF F) (hgd : o.guard = none) (y x : Operand)
    (ho : o.op = .call { callee := .builtin .append, args := #[y, x], argTypes := #[22, 22] }) (base B : Nat) (l : List It) (r : Raw) (i : It)
    (hv : OwnIts base w (a.eval y) l) (hx : Els 8 rawE B w (a.eval x) [r]) (hr : RawOwn base w r i) (hlen : l.length + 1 ≤ 1000000) (hb : base ≤ w.heap.size)
    (h : ∀ v' w', OwnIts base w' v' (l ++ [i]) → w.grownBy w' (a.eval y).ownBlock → wpListIn F nn Tryd.prog ops Q rest (a.put o.dst v') w') : wpListIn F nn Tryd.prog ops Q (o :: rest) a w :=
  wpListIn_does hF hgd (by rw [ho]; intro c e; cases e) (R := fun v' w' => OwnIts base w' v' (l ++ [i]) ∧ w.grownBy w' (a.eval y).ownBlock)
    (does_append_its y x ho l r i hv hx hr hlen hb (fun v' w' h1 h2 => ⟨h1, h2⟩)) (by rintro v w' ⟨h1, h2⟩; exact h v w' h1 h2)
end
/-- What the rounds so far leave: the items in their box. -/
def ColI (w : World) (pre : List (Raw × It)) (W : World) : Prop := ∃ v, Row W w.heap.size 22 #[v] ∧ OwnIts w.heap.size W v (pre.map (·.2)) ∧ Below w.heap.size w W
def ColA (w : World) (t0 t1 t2 : Value) (pre : List (Raw × It)) (x : Raw × It) (a : Act) (W : World) : Prop :=
  ColI w pre W ∧ pre.length < 256 ∧ RawOwn w.heap.size W x.1 x.2 ∧ w.heap.size ≤ W.heap.size ∧ ∃ g, Row W g 45 (rawA x.1) ∧
    a = { tmps := #[t0, t1, .pointer (some ⟨w.heap.size, 0, none⟩), undef, .slice none 0 0, .pointer (some ⟨g, 0, none⟩), t2, .agg (rawA x.1), undef, undef, undef, undef, undef], defers := [] }
set_option maxRecDepth 100000 in
set_option maxHeartbeats 4000000 in
theorem appendSeq_in (n : Nat) (hn : 4 ≤ n) (Bp : Nat) (p : List (BitVec 8)) (w : World) (hp : PRow w Bp p) (hG : Glob w) :
    CallsIn Fence.wide n Tryd.prog 40 #[.slice none 0 0, .func (.func 41) #[] #[.pointer (some ⟨Bp, 0, none⟩)]] w fun e w' => ∃ v l, e = .returned v ∧ LeafM.Coll (LeafM.many p) (p.drop 2) l ∧ OwnIts w.heap.size w' v l ∧ Grows w w' := by
  have h1 : 1 ≤ n := by omega
  have HP := Lib.hid hp; have HGl := Lib.hid hG
  have HB0 : Hid (0 < w.heap.size) := Nat.lt_of_le_of_lt (Nat.zero_le _) hp.lt
  have HBp : Hid (Bp < w.heap.size) := hp.lt
  clear hp hG
  refine callsIn_of_wp_marks Tryd.func40 rfl trivial ?_ rfl
  simp only [Tryd.ntmps40, List.size_toArray, List.length_cons, List.length_nil, Nat.reduceAdd, Nat.reduceSub, Array.replicate_succ, Array.replicate_zero, List.push_toArray, List.append_toArray, List.nil_append, List.cons_append]
  gi_wp2
  rename_i Q1 K aK
  have aK := Lib.hid aK
  have BX := Lib.hid (Row.new w 22 #[.slice none 0 0])
  have GX := Lib.hid (Grows.alloc w (.cells #[.slice none 0 0] 22))
  have HS : Hid ((w.alloc (.cells #[.slice none 0 0] 22)).heap.size = w.heap.size + 1) := by unfold Hid; simp
  have HP1 := Lib.hid (HP.out.alloc (.cells #[.slice none 0 0] 22))
  generalize w.alloc (.cells #[.slice none 0 0] 22) = w1 at *
  refine wpIn_range_tells h1 rfl (enters_of Tryd.func41 (by kernel_rfl) rfl)
    (items_tells (n - 1) (by omega) Bp w.heap.size p w1 HB0.out HBp.out (by rw [HS.out]; omega) HP1.out (HGl.out.grows GX.out)) (fun _ => rfl) (fun h k => h.t k)
    (fun W W' hW ht => (ht.less (by rw [HS.out]; omega)).leaves (by rw [HS.out] at hW; omega)) (ColI w) ?lasts ?turn ?start
    (ColA w (.slice none 0 0) (.func (.func 41) #[] #[.pointer (some ⟨Bp, 0, none⟩)]) (.func (.func 41) #[] #[.pointer (some ⟨Bp, 0, none⟩)])) ?aturn ?assign ?body ?done
  case lasts =>
    rintro s W W' ⟨v, h1, h2, h3⟩ hg
    exact ⟨v, Row.grows h1 hg, h2.grows hg, h3.trans (Below.mono hg h3.size)⟩
  case turn =>
    rintro s W W' ⟨v, h1, h2, h3⟩ ht
    have ht := ht.less (B := w.heap.size) (by rw [HS.out]; omega)
    exact ⟨v, ht.row h1, ht.ownIts h2, ht.below h3 h3.size⟩
  case start => exact ⟨_, BX.out, OwnIts.nil _ _, GX.out⟩
  case aturn =>
    rintro s x a W W' ⟨⟨v, h1, h2, h3⟩, hl, hr, hs, g, hg, ha⟩ ht
    have ht := ht.less (B := w.heap.size) (by rw [HS.out]; omega)
    exact ⟨⟨v, ht.row h1, ht.ownIts h2, ht.below h3 h3.size⟩, hl, ht.rawOwn hr, (ht.below h3 h3.size).size, g, ht.row hg, ha⟩
  case assign =>
    rintro l pre x W ⟨v, h1, h2, h3⟩ hx hl hW
    have H1 := Lib.hid h1; have H2 := Lib.hid h2; have H3 := Lib.hid h3; have HX := Lib.hid hx; have HL := Lib.hid hl; have HWs := Lib.hid hW
    have HZ := Lib.hid (Row.new W 45 (rawA noR))
    clear h1 h2 h3 hx hl hW
    gi_wp2_with (first
      | ((with_reducible refine wpListIn_store_it (WideF.round _) ?_ (.tmp 5) (.tmp 7) ?_ W.heap.size x.1 (rawA noR) ?_ ?_ ?_ ?_ ?_); exact rfl; exact rfl; exact rfl; exact rfl; exact rfl; exact HZ.out; intro u1 hp1 hg1))
    have g := grown_fresh rfl hg1
    have hb := H3.out.trans (Below.mono g H3.out.size)
    exact ⟨(others_of_grows g).from _, Leaves.of_grows g H3.out.size, ⟨v, Row.grows H1.out g, H2.out.grows g, hb⟩, HL.out, HX.out.grows g, hb.size, _, hp1, rfl⟩
  case body =>
    rintro l pre x a₁ W ⟨⟨v, h1, h2, h3⟩, hl, hr, hs, g, hg, rfl⟩ hW
    have H1 := Lib.hid h1; have H2 := Lib.hid h2; have H3 := Lib.hid h3; have HL := Lib.hid hl; have HR := Lib.hid hr; have HG := Lib.hid hg; have HSz := Lib.hid hs
    have k1 := h1.cell 0; have f1 := h1.frozen 0
    clear h1 h2 h3 hl hr hg hs hW
    gi_wp2_with (first
      | ((with_reducible refine wpListIn_load_it (o := ⟨some 9, _, _, _, _, _⟩) (WideF.round _) ?_ (.tmp 5) ?_ g x.1 ?_ ?_ ?_); exact rfl; exact rfl; exact rfl; exact HG.out)
      | ((with_reducible refine wpListIn_slice_it (o := ⟨some 10, _, _, _, _, _⟩) (WideF.round _) ?_ (.tmp 9) ?_ x.1 ?_ ?_); exact rfl; exact rfl; exact rfl)
      | ((with_reducible refine wpListIn_append_its (o := ⟨some 11, _, _, _, _, _⟩) (WideF.round _) ?_ (.tmp 8) (.tmp 10) ?_ w.heap.size (W.heap.size + 1) (pre.map (·.2)) x.1 x.2 ?_ ?_ ?_ ?_ ?_ ?_); exact rfl; exact rfl; exact H2.out.grows (Grows.alloc _ _); exact raw_one _ _; exact HR.out.grows (Grows.alloc _ _); (rw [List.length_map]; have := HL.out; omega); (have := HSz.out; have := (Grows.alloc W (.cells (rawA x.1) 45)).size; omega); intro v3 w3 h3 g3; have O3 := Lib.hid h3; obtain ⟨A5, n5, c5, rfl⟩ : ∃ A n c, v3 = .slice A n c := (by obtain ⟨A, c, e, _⟩ := h3.form; exact ⟨A, _, c, e⟩); have G3 := Lib.hid g3; have GA := Lib.hid (Grows.alloc W (.cells (rawA x.1) 45)); have B3 : Hid (Row w3 w.heap.size 22 #[v]) := (by obtain ⟨rs, j1, _, _⟩ := H2.out.grows GA.out; exact row_other j1 (Row.grows H1.out GA.out) (by decide) g3); have k3 := B3.out.cell 0; have f3 := B3.out.frozen 0; clear h3 g3))
    have hB4 : Row (w3.setCell ⟨w.heap.size, 0, none⟩ (.slice A5 n5 c5)) w.heap.size 22 #[(.slice A5 n5 c5)] := B3.out.set 0 (.slice A5 n5 c5)
    have hO4 := O3.out.apart (setCell_grown w3 w.heap.size 0 (.slice A5 n5 c5)) B3.out (by decide) (by decide)
    have hbA := Below.mono (Grows.alloc W (.cells (rawA x.1) 45)) HSz.out
    have hb3 : Below w.heap.size W w3 := hbA.grown G3.out (Nat.le_trans HSz.out GA.out.size) (H2.out.grows GA.out).low
    have hb4 : Below w.heap.size W (w3.setCell ⟨w.heap.size, 0, none⟩ (.slice A5 n5 c5)) := Below.setCell hb3 (p := ⟨w.heap.size, 0, none⟩) (Nat.le_refl _) (.slice A5 n5 c5)
    refine ⟨?_, ⟨hb4, fun u m hm => ?_⟩, (.slice A5 n5 c5), hB4, by rw [List.map_append]; exact hO4, H3.out.trans hb4⟩
    · refine (((KeepsOthers.alloc W _).trans (KeepsOthers.of_grownBy G3.out (fun j o e ho => ?_))).trans (KeepsOthers.setCell w3 _ _)).from _
      obtain ⟨rs, j1, _, _⟩ := H2.out.grows GA.out
      exact own_block_cells j1 e ho
    · obtain ⟨rs, j1, _, _⟩ := H2.out.grows GA.out
      exact ((hm.grows GA.out).aside j1 G3.out).apart (setCell_grown w3 w.heap.size 0 (.slice A5 n5 c5)) B3.out (by decide)
  case done =>
    rintro D xs W hD hS ⟨v, h1, h2, h3⟩ hK
    have H2 := Lib.hid h2; have H3 := Lib.hid h3; have HD := Lib.hid hD; have HSs := Lib.hid hS; have HK := Lib.hid hK
    have k1 := h1.cell 0
    clear h1 h2 h3 hD hS hK
    refine aK.out _ _ ?_
    clear aK
    gi_wp2
    refine ⟨by simp, .inl ⟨_, _, rfl, run_takeDeferred HK.out, ?_⟩⟩
    have ht : Turns w.heap.size W (W.putObj D (.deferred none)) := ⟨D, _, _, by have := HD.out; have := HS.out; omega, HK.out, rfl, rfl⟩
    refine ⟨v, ?_, v, _, rfl, HSs.out, ht.ownIts H2.out, ht.below H3.out H3.out.size⟩
    simp [results, Tryd.f40, go_sem]
theorem appendSeq_any (Bp : Nat) (p : List (BitVec 8)) (w : World) (hp : PRow w Bp p) (hG : Glob w) :
    Calls Tryd.prog 40 #[.slice none 0 0, .func (.func 41) #[] #[.pointer (some ⟨Bp, 0, none⟩)]] w fun e w' => ∃ v l, e = .returned v ∧ LeafM.Coll (LeafM.many p) (p.drop 2) l ∧ OwnIts w.heap.size w' v l ∧ Grows w w' :=
  callsIn_wide.1 (appendSeq_in 4 (Nat.le_refl _) Bp p w hp hG)
theorem collect_any (Bp : Nat) (p : List (BitVec 8)) (w : World) (hp : PRow w Bp p) (hG : Glob w) :
    Calls Tryd.prog 26 #[.func (.func 41) #[] #[.pointer (some ⟨Bp, 0, none⟩)]] w fun e w' => ∃ v l, e = .returned v ∧ LeafM.Coll (LeafM.many p) (p.drop 2) l ∧ OwnIts w.heap.size w' v l ∧ Grows w w' := by
  have HA := Lib.hid (appendSeq_any Bp p w hp hG)
  clear hp hG
  go_enter Tryd.func26, Tryd.ntmps26
  go_wp2_with (first
    | (go_at_call 40; (with_reducible refine HA.out.mono ?_); rintro e w1 ⟨v, l, rfl, h1, h2, h3⟩; have H1 := Lib.hid h1; have H2 := Lib.hid h2; have H3 := Lib.hid h3; clear h1 h2 h3))
  go_ret
  exact ⟨_, _, rfl, H1.out, H2.out, H3.out⟩
end Go.Proofs.YthdncpkmhodokaaDoor
