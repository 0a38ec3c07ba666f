/- vdev.May: which disks may be. -/
import Derived.Test.YtfcghkmhcfgfkaaVdRef
import Derived.Test.YtfcghkmhcfgfkaaVdIter
import Derived.Test.YtfcghkmhcfgfkaaFreeIn
import Derived.Test.YtfcghkmhcfgfkaaRegionIn
import Derived.BigRegionIn
import Derived.Shelf.Abstract
import Derived.ProofKit
import Derived.OpenShut
import Derived.Stop.RegionWithIn
import Derived.Scope
namespace Go.Proofs.Ytfcghkmhcfgfkaa
open Go.RowKit Go.Shelf
set_option linter.unusedVariables false
set_option linter.unusedSimpArgs false
attribute [local go_sem] Oper.semAt_some
theorem row_stays (g : Nat) (t : TypeId) (cs : Array Value) {β : Type} : Own (fun (_ : β) W => Row W g t cs) := fun s X Y row hs hg hr =>
  hs.grown hg fun e => by obtain ⟨o, ho, hc⟩ := hr _ e.symm; rw [show X.heap[g]? = _ from hs] at ho; cases ho; cases hc
theorem row_varies {β : Type} (g : Nat) (t : TypeId) (cs : β → Array Value) : Own (fun (s : β) W => Row W g t (cs s)) := fun s X Y row hs hg hr =>
  hs.grown hg fun e => by obtain ⟨o, ho, hc⟩ := hr _ e.symm; rw [show X.heap[g]? = _ from hs] at ho; cases ho; cases hc
theorem results_bool_cell {fn : Func} {p : Tmp} {w : World} {g : Nat} {b : Bool} (h : fn.results = #[.cell p 4]) (tmps : Array Value) (hp : tmps.getD p undef = .pointer (some ⟨g, 0, none⟩)) (hr : Row w g 4 #[.bool b]) :
    (results fn tmps).run Try.prog w = .ok (.bool b) w := by
  have hp' : tmps[p]?.getD undef = .pointer (some ⟨g, 0, none⟩) := by simpa using hp
  have hc : w.cell? ⟨g, 0, none⟩ = some (.bool b) := hr.cell 0
  have hagg : (isAgg 4).run Try.prog w = .ok false w := by
    unfold isAgg
    rw [Sem.run_bind, run_underlying Try.underlying4 w]
    rfl
  simp [results, h, hp', asAddr, loadVar, hagg, go_sem, hc]
theorem dk_run_load {w : World} {g : Nat} {D : Array Value} (h4 : D.size = 4) (hr : Row w g 26 D) : (loadVar 26 ⟨g, 0, none⟩).run Try.prog w = .ok (.agg D) w :=
  run_loadVar_row w g 26 26 D (0, 0) _ hr Try.underlying26 rfl (by rw [h4]; kernel_rfl)
theorem wpListIn_load_dk {F : Fence} {nn : Nat} {w : World} {ops : Array Oper} {rest : List Oper} {o : Oper} {a : Act} {Q : Exit → Act → World → Prop} (hgd : o.guard = none) (x : Operand) (ho : o.op = .load 26 x) (g : Nat) (D : Array Value) (hx : a.eval x = .pointer (some ⟨g, 0, none⟩)) (hr : Row w g 26 D) (h4 : D.size = 4)
    (h : wpListIn F nn Try.prog ops Q rest (a.put o.dst (.agg D)) w) : wpListIn F nn Try.prog ops Q (o :: rest) a w :=
  wpListIn_load_row hgd 26 x ho g hx 26 D (0, 0) _ hr Try.underlying26 rfl (by rw [h4]; kernel_rfl) h
theorem Row.kept_put {w : World} {g l : Nat} {t : TypeId} {cs : Array Value} (h : Row w g t cs) {ds : Option (List Deferred)} (hl : w.heap[l]? = some (.deferred ds)) (o : Obj) : Row (w.putObj l o) g t cs :=
  (World.putObj_heap_other (fun e => by subst e; rw [show w.heap[g]? = _ from h] at hl; cases hl)).trans h
theorem Row.ne_mark {w : World} {g l : Nat} {t : TypeId} {cs : Array Value} (h : Row w g t cs) {ds : Option (List Deferred)} (hl : w.heap[l]? = some (.deferred ds)) : l ≠ g := fun e => by subst e; rw [show w.heap[l]? = _ from h] at hl; cases hl
theorem mark_set {w : World} {l : Nat} {ds : Option (List Deferred)} (hl : w.heap[l]? = some (.deferred ds)) {p : Addr} (hp : l ≠ p.block) (u : Value) : (w.setCell p u).heap[l]? = some (.deferred ds) := (Below.heap_setCell w p u l hp).trans hl
theorem others_of_grows {w w' : World} (h : Grows w w') : KeepsOthers w w' := KeepsOthers.of_grownBy h.grownBy (fun j o e => by cases e)
theorem KeptAt.rows {b : Nat} {t : TypeId} {cs : Array Value} {W W' : World} (h : Row W b t cs) (h' : Row W' b t cs) : KeptAt b W W' := Eq.trans h' (Eq.symm h)
/-- A round keeps it: all writes so far lie on the disk. -/
def InvM (w : World) (D : Array Value) (C : Value) (n : Nat) (c : List (Int × Pg)) (pre : List (Fin c.length)) (W : World) : Prop :=
  (∀ j ∈ pre, 0 ≤ (c[j.val]).1 ∧ (c[j.val]).1 < n) ∧ Row W w.heap.size 26 D ∧ Row W (w.heap.size + 1) 4 #[.bool false] ∧ Row W (w.heap.size + 1 + 1) 23 #[C] ∧ Below w.heap.size w W
def LeftM (w : World) (n : Nat) (c : List (Int × Pg)) (cd : Code) (pre : List (Fin c.length)) (W : World) : Prop :=
  (cd = .ret ∧ ∃ j : Fin c.length, ¬ (0 ≤ (c[j.val]).1 ∧ (c[j.val]).1 < n)) ∧ Row W (w.heap.size + 1) 4 #[.bool false] ∧ Below w.heap.size w W
set_option maxRecDepth 100000 in
set_option maxHeartbeats 4000000 in
theorem vmay_in (n : Nat) (hn : 4 ≤ n) (v : Value) (d : Dk) (w : World) (hv : IsDisk w.heap.size w v d) :
    CallsIn Fence.wide n Try.prog 15 #[v] w fun e w' => e = .returned (.bool (VdM.may d)) ∧ Grows w w' := by
  have h1n : 1 ≤ n := by omega
  obtain ⟨pv, cv, bv, rfl, hp, hc, hb⟩ := hv
  obtain ⟨A, cap, rfl, q1, q2, q3⟩ := hp.form
  obtain ⟨A', cap', rfl, r1, r2, r3⟩ := hc.form
  obtain ⟨A'', cap'', rfl, s1, s2, s3⟩ := hb.ints
  have HR := Lib.hid r3; have HS := Lib.hid s3; have HR2 := Lib.hid r2
  clear q3 r3 s3 hp hc hb
  unfold maxLen at q2 r2 s2
  obtain ⟨ps, cs, bs, off⟩ := d
  simp only at *
  have HG := Lib.hid ((Grows.alloc w (.cells #[.slice A ps.length cap, .slice A' cs.length cap', .slice A'' bs.length cap'', .bool off] 26)).trans (Grows.alloc _ (.cells #[.bool false] 4)))
  obtain ⟨D, hD⟩ : ∃ D, D = #[Value.slice A ps.length cap, .slice A' cs.length cap', .slice A'' bs.length cap'', .bool off] := ⟨_, rfl⟩
  have HH : Hid (∀ W n, Calls Try.prog 33 #[.agg D, .int .i64 n] W fun e w' => e = .returned (.bool (decide (0 ≤ n ∧ n < ps.length))) ∧ Grows W w') := fun W n => by rw [hD]; exact has_any _ _ _ _ _ _ _ _
  have Ds : Hid (D.size = 4 ∧ D[0]? = some (.slice A ps.length cap) ∧ D[1]? = some (.slice A' cs.length cap') ∧ D[2]? = some (.slice A'' bs.length cap'') ∧ D[3]? = some (.bool off)) := by subst hD; exact ⟨rfl, rfl, rfl, rfl, rfl⟩
  rw [← hD] at HG ⊢
  clear hD
  have R1 := Lib.hid ((Row.new w 26 D).alloc (.cells #[.bool false] 4))
  have R2 : Hid (Row ((w.alloc (.cells D 26)).alloc (.cells #[.bool false] 4)) (w.heap.size + 1) 4 #[.bool false]) := by
    have := Row.new (w.alloc (.cells D 26)) 4 #[.bool false]
    rwa [World.size_alloc] at this
  have a0 : _ = some _ := (R1.out.cell 0).trans Ds.out.2.1
  have a1 : _ = some _ := (R1.out.cell 1).trans Ds.out.2.2.1
  have a3 : _ = some _ := (R1.out.cell 3).trans Ds.out.2.2.2.2
  by_cases hsz : 32 ≤ (ps.length : Int) ∧ (ps.length : Int) ≤ 256
  case neg =>
    have hm : Hid (VdM.may ⟨ps, cs, bs, off⟩ = false) := by unfold Hid VdM.may VdM.shape; simp; omega
    have HZ : Hid (∀ W, Calls Try.prog 28 #[.int .i64 ps.length] W fun e w' => e = .returned (.bool false) ∧ w' = W) := fun W => by
      have := sizeMay_any ps.length W
      rwa [decide_eq_false hsz] at this
    refine callsIn_wide.2 ?_
    rw [hm.out]
    clear hm hsz
    go_enter Try.func15, Try.ntmps15
    go_wp2_with (go_at_call 28; refine (HZ.out _).mono ?_; rintro e w1 ⟨rfl, rfl⟩)
    refine bodyPost_ret (results_bool_cell (p := 2) (g := w.heap.size + 1) (b := false) (by exact rfl) _ (by exact rfl) R2.out) rfl ?_
    exact ⟨rfl, HG.out⟩
  have HZ : Hid (∀ W, Calls Try.prog 28 #[.int .i64 ps.length] W fun e w' => e = .returned (.bool true) ∧ w' = W) := fun W => by
    have := sizeMay_any ps.length W
    rwa [decide_eq_true hsz] at this
  by_cases h3 : 2000 < cs.length
  · have h3' : (2000 : Int) < cs.length := by omega
    have hm : Hid (VdM.may ⟨ps, cs, bs, off⟩ = false) := by unfold Hid VdM.may VdM.shape; simp; omega
    refine callsIn_wide.2 ?_
    rw [hm.out]
    clear hm hsz h3
    go_enter Try.func15, Try.ntmps15
    go_wp2_with (go_at_call 28; refine (HZ.out _).mono ?_; rintro e w1 ⟨rfl, rfl⟩)
    refine bodyPost_ret (results_bool_cell (p := 2) (g := w.heap.size + 1) (b := false) (by exact rfl) _ (by exact rfl) R2.out) rfl ?_
    exact ⟨rfl, HG.out⟩
  have h3' : ¬ (2000 : Int) < cs.length := by omega
  by_cases h4 : off = true ∧ 0 < cs.length
  · obtain ⟨rfl, h4⟩ := h4
    have h4' : (0 : Int) < cs.length := by omega
    have hm : Hid (VdM.may ⟨ps, cs, bs, true⟩ = false) := by
      have h5 : decide (0 < cs.length) = true := decide_eq_true h4
      unfold Hid VdM.may VdM.shape
      simp only [h5]
      simp
    refine callsIn_wide.2 ?_
    rw [hm.out]
    clear hm hsz h3 h4
    go_enter Try.func15, Try.ntmps15
    go_wp2_with (go_at_call 28; refine (HZ.out _).mono ?_; rintro e w1 ⟨rfl, rfl⟩)
    refine bodyPost_ret (results_bool_cell (p := 2) (g := w.heap.size + 1) (b := false) (by exact rfl) _ (by exact rfl) R2.out) rfl ?_
    exact ⟨rfl, HG.out⟩
  have hsh : Hid (VdM.shape ⟨ps, cs, bs, off⟩ = true) := by unfold Hid VdM.shape; simp; refine ⟨⟨⟨by omega, by omega⟩, by omega⟩, ?_⟩; cases off <;> simp_all
  have hm : Hid (VdM.may ⟨ps, cs, bs, off⟩ = (VdM.mayC ps.length cs && VdM.mayB ps.length bs)) := by
    unfold Hid VdM.may
    rw [hsh.out]; rfl
  rw [hm.out]
  clear hm
  refine callsIn_of_wp_marks Try.func15 rfl trivial ?_ rfl
  simp only [Try.ntmps15, List.size_toArray, List.length_cons, List.length_nil, Nat.reduceAdd, Nat.reduceSub, Array.replicate_succ, Array.replicate_zero, List.push_toArray, List.append_toArray, List.nil_append, List.cons_append]
  have ho : Hid (off = false ∨ (off = true ∧ ¬ (0 : Int) < cs.length)) := by cases off; exact .inl rfl; exact .inr ⟨rfl, fun h => h4 ⟨rfl, by omega⟩⟩
  clear hsz h3 h4
  have HM1 : Hid (∀ (Q : Exit → Act → World → Prop), True) := fun _ => trivial
  rcases ho.out with rfl | ⟨rfl, h4'⟩
  all_goals
    gi_wp2_with (first
      | (refine ⟨trivial, ?_⟩; gi_at_call 28; refine (callsIn_wide.2 (HZ.out _)).mono ?_; rintro e w1 ⟨rfl, rfl⟩)
      | (refine ⟨trivial, ?_⟩; gi_at_call 31; refine (callsIn_wide.2 (fromLast_any _ _ _ _ _ rfl)).mono ?_; rintro e w1 ⟨rfl, rfl⟩))
  all_goals
    rename_i Q1 K aK
    have aK := Lib.hid aK
    have bs1 := Row.new ((w.alloc (.cells D 26)).alloc (.cells #[.bool false] 4)) 23 #[.slice A' cs.length cap']
    have R1' := Lib.hid (R1.out.alloc (.cells #[.slice A' cs.length cap'] 23))
    have R2' := Lib.hid (R2.out.alloc (.cells #[.slice A' cs.length cap'] 23))
    have HG3 := Lib.hid (HG.out.trans (Grows.alloc _ (.cells #[.slice A' cs.length cap'] 23)))
    have hsz3 : (((w.alloc (.cells D 26)).alloc (.cells #[.bool false] 4)).alloc (.cells #[.slice A' cs.length cap'] 23)).heap.size = w.heap.size + 3 := by simp
    rw [World.size_alloc, World.size_alloc] at bs1
    have HS3 := Lib.hid hsz3
    have BS := Lib.hid bs1
    clear hsz3 bs1 a0 a1 a3
    generalize ((w.alloc (.cells D 26)).alloc (.cells #[.bool false] 4)).alloc (.cells #[.slice A' cs.length cap'] 23) = w3 at *
    obtain ⟨g, o, hA, hgo⟩ : ∃ g o : Nat, (0 < cs.length → A' = some ⟨g, o, none⟩) ∧ ∀ (j : Nat) (x : Int × Pg), cs[j]? = some x → g < w.heap.size ∧ w.rangeAt g (o + j * 257) (writeE x) := by
      by_cases h0 : 0 < cs.length
      · obtain ⟨g, o, e, hl, hx⟩ := HR.out h0
        exact ⟨g, o, fun _ => e, fun j x hj => ⟨hl, hx j x hj⟩⟩
      · exact ⟨0, 0, fun h => absurd h h0, fun j x hj => absurd (List.getElem?_eq_some_iff.1 hj).1 (by omega)⟩
    have HGO := Lib.hid hgo
    clear hgo
    refine wpIn_rangeFunc_ownG rfl h1n (gf := 43) (lb := #[.pointer (some ⟨w.heap.size + 1 + 1, 0, none⟩)]) rfl trivial (enters_of Try.func43 (by kernel_rfl) rfl)
      (fromLast_stops (n - 1) (by omega) (w.heap.size + 1 + 1) A' cs.length cap' g o hA r1 HR2.out w3 (by rw [HS3.out]; omega) (BS.out.cell 0)) KeptAt.t (KeptAt.b (by rw [HS3.out]; omega)) (Below.refl _ _) (fun _ => rfl)
      (InvM w D (.slice A' cs.length cap') ps.length cs) (LeftM w ps.length cs) ?own ?ownx ?start ?_ ?assign ?body ?done ?stop
    case assign =>
      intro l y W K hK
      gi_wp2
      exact hK
    case own => exact OwnFrom.and (ownFrom_pure _ _) (OwnFrom.and (Own.from (row_stays _ _ _) _) (OwnFrom.and (Own.from (row_stays _ _ _) _) (OwnFrom.and (Own.from (row_stays _ _ _) _) (ownFrom_below (Nat.le_refl _) (by rw [HS3.out]; omega)))))
    case ownx =>
      intro c
      exact OwnFrom.and (ownFrom_pure _ _) (OwnFrom.and (Own.from (row_stays _ _ _) _) (ownFrom_below (Nat.le_refl _) (by rw [HS3.out]; omega)))
    case start => exact ⟨fun j hj => by simp at hj, R1'.out, R2'.out, BS.out, HG3.out⟩
    case body =>
      rintro l pre y W ⟨hok, hr1, hr2, hr3, hB⟩ hlt2
      (try (exfalso; have := y.isLt; omega))
      all_goals
        have hyl := y.isLt
        have e1 : cs[y.val]? = some cs[y.val] := List.getElem?_eq_getElem hyl
        obtain ⟨hgl, hrx⟩ := HGO.out _ _ e1
        have c0 := (Below.cell hB (p := ⟨g, o + y.val * 257, none⟩) hgl).trans (by simpa using hrx 0 _ rfl)
        have HR1 := Lib.hid hr1; have HR2 := Lib.hid hr2; have HR3 := Lib.hid hr3; have HB := Lib.hid hB; have HOk := Lib.hid hok
        clear hr1 hr2 hr3 hB hok hrx e1
        obtain ⟨x, hx⟩ : ∃ x, x = (cs[y.val]).1 := ⟨_, rfl⟩
        rw [← hx] at c0
        have HX := Lib.hid hx
        clear hx
        unfold wrAt
        obtain ⟨t, ht⟩ : ∃ t : Bool, t = decide (0 ≤ x ∧ x < ps.length) := ⟨_, rfl⟩
        have HT := Lib.hid ht
        have HHt : Hid (∀ W, Calls Try.prog 33 #[.agg D, .int .i64 x] W fun e w' => e = .returned (.bool t) ∧ Grows W w') := fun W => by rw [ht]; exact HH.out W x
        clear ht
        gi_wp2
        refine wpIn_region_free (WideF.round _) 7 65 (by kernel_rfl) (by kernel_rfl) (by kernel_rfl) rfl (by kernel_rfl) ?_; simp only [List.take_succ_cons, List.take_zero, List.drop_succ_cons, List.drop_zero]
        refine free_op (fun v_ _ => v_ = .agg D) rfl (dk_mono _) (fun vs wq hg hd => by
          (try simp [Region.binds] at hd)
          refine dk_load 26 (.tmp 1) ⟨w.heap.size, 0, none⟩ _ rfl ?_ (dk_run_load Ds.out.1 (Row.grows HR1.out (Grows.of_drew hg))) ⟨Grows.refl _, rfl⟩
          (conv in rho _ _ _ _ (Operand.tmp _) => whnf)) ?_
        repeat (apply free_pure rfl; focus (intro vs w hg hd; have q0 := hg.cell c0; (try simp [Region.binds] at hd); simp only [execOp, resolve, Option.map_some, Option.map_none, List.map_toArray, List.map_cons, List.map_nil, rho_const, rho_func]; (repeat (conv in rho _ _ _ _ (Operand.tmp _) => whnf)); (try simp only [hd]); go_simp; (repeat (conv in rho _ _ _ _ (Operand.tmp _) => whnf)); (try simp only [hd]); rfl))
        refine free_op (fun v_ _ => v_ = .bool t) rfl (dk_mono _) (fun vs wq hg hd => by
          (try simp [Region.binds] at hd); simp only [Does]; simp only [execOp, resolve, Option.map_some, Option.map_none, List.map_toArray, List.map_cons, List.map_nil, rho_const, rho_func]; (repeat (conv in rho _ _ _ _ (Operand.tmp _) => whnf)); (try simp only [hd]); go_simp; (repeat (conv in rho _ _ _ _ (Operand.tmp _) => whnf))
          refine (HHt.out _).mono ?_
          rintro e w'' ⟨rfl, hg2⟩
          exact ⟨rfl, hg2⟩) ?_
        repeat (apply free_pure rfl; focus (intro vs w hg hd; have q0 := hg.cell c0; (try simp [Region.binds] at hd); simp only [execOp, resolve, Option.map_some, Option.map_none, List.map_toArray, List.map_cons, List.map_nil, rho_const, rho_func]; (repeat (conv in rho _ _ _ _ (Operand.tmp _) => whnf)); (try simp only [hd]); go_simp; (repeat (conv in rho _ _ _ _ (Operand.tmp _) => whnf)); (try simp only [hd]); rfl))
        intro vs w' hg hv; have h6 := hv 6 (by omega); simp at h6; simp only [putL, dstAt, List.range, List.range.loop, if_true, List.getElem?_toArray, List.getElem?_cons_zero, List.getElem?_cons_succ, Option.bind_some, Act.put, List.setIfInBounds_toArray, List.set_cons_zero, List.set_cons_succ]
        rw [h6]
        have hgW : Grows W w' := Grows.of_drew hg
        have HR1' := Lib.hid (Row.grows HR1.out hgW)
        have HR2' := Lib.hid (Row.grows HR2.out hgW)
        have HB' := Lib.hid (HB.out.trans (Below.mono hgW HB.out.size))
        have HR3' := Lib.hid (Row.grows HR3.out hgW)
        have HKO := Lib.hid (others_of_grows hgW)
        have c2 : _ = some _ := HR2'.out.cell 0
        have f2 := HR2'.out.frozen 0
        clear hv h6 hg c0
        generalize vs 0 = z0, vs 1 = z1, vs 2 = z2, vs 3 = z3, vs 4 = z4, vs 5 = z5, vs 6 = z6 at *
        cases t
        · gi_wp2
          refine ⟨(HKO.out.trans (KeepsOthers.setCell _ _ _)).from _, ⟨rfl, y, ?_⟩, HR2'.out.set 0 _, HB'.out.setCell (by simp) _⟩
          rw [← HX.out]
          exact of_decide_eq_false HT.out.symm
        · gi_wp2
          refine ⟨HKO.out.from _, KeptAt.rows HR3.out HR3'.out, fun j hj => ?_, HR1'.out, HR2'.out, HR3'.out, HB'.out⟩
          rcases List.mem_append.1 hj with hj | hj
          · exact HOk.out j hj
          · rw [List.mem_singleton.1 hj, ← HX.out]
            exact of_decide_eq_true HT.out.symm
    case stop =>
      rintro D0 c pre W hD hpre ⟨⟨rfl, j, hj⟩, hr2, hB⟩ hK
      have HF : Hid (VdM.mayC ps.length cs = false) := VdM.mayC_false _ _ j.val _ (List.getElem?_eq_getElem j.isLt) hj
      clear aK
      gi_wp2
      refine ⟨by simp, .inl ⟨_, _, rfl, run_takeDeferred hK, ?_⟩⟩
      exact ⟨.bool false, results_bool_cell (p := 2) (g := w.heap.size + 1) (by exact rfl) _ (by exact rfl) (hr2.kept_put hK _), by rw [HF.out]; rfl, hB.trans (belowK_b (w := w) (Nat.le_refl _) W D0 _ _ (by have := HS3.out; omega) hK rfl rfl)⟩
    case done =>
      rintro D0 ys W hD rfl ⟨hok, hr1, hr2, hr3, hB⟩ hK
      have HC : Hid (VdM.mayC ps.length cs = true) := by
        unfold Hid VdM.mayC
        rw [List.all_eq_true]
        intro x hx
        obtain ⟨j, hj, rfl⟩ := List.getElem_of_mem hx
        have := hok ⟨j, hj⟩ (by simp)
        simp [this.1, this.2]
      refine aK.out _ _ ?_
      have HM : Hid ((VdM.mayC ps.length cs && VdM.mayB ps.length bs) = VdM.mayB ps.length bs) := by unfold Hid; rw [HC.out, Bool.true_and]
      clear aK hok hr3 HC
      have a2 : _ = some _ := (hr1.cell 2).trans Ds.out.2.2.2.1
      gi_wp2
      gi_loopw [41] (fun i wr => ∃ k : Nat, k ≤ bs.length ∧ i = .int .i64 k ∧ (∀ j, j < k → VdM.okB ps.length bs j = true) ∧ Row wr w.heap.size 26 D ∧ Row wr (w.heap.size + 1) 4 #[.bool false] ∧ wr.heap[D0]? = some (.deferred (some [])) ∧ Grows w wr) (fun i _ => bs.length - (intOf i).toNat)
      case atStart => exact ⟨0, Nat.zero_le _, rfl, fun j hj => by omega, hr1, hr2, hK, hB⟩
      case round =>
        obtain ⟨k, hk, rfl, hall, hr1, hr2, hK, hb⟩ := hrel
        have a2 : _ = some _ := (hr1.cell 2).trans Ds.out.2.2.2.1
        have c2 : _ = some _ := hr2.cell 0
        have f2 := hr2.frozen 0
        have HAll := Lib.hid hall; have HB := Lib.hid hb; have HR1 := Lib.hid hr1; have HR2 := Lib.hid hr2; have HK := Lib.hid hK
        clear hall hb hr1 hr2 hK
        by_cases hlt : k < bs.length
        · have HBF : Hid (VdM.okB ps.length bs k = false → VdM.mayB ps.length bs = false) := VdM.mayB_false _ _ k hlt
          obtain ⟨g1, o1, rfl, hg1, hcA⟩ := HS.out (by omega)
          have e1 : bs[k]? = some bs[k] := List.getElem?_eq_getElem hlt
          have cx := (Below.cell HB.out (p := ⟨g1, o1 + k, none⟩) hg1).trans (hcA k _ e1)
          obtain ⟨x, hx⟩ : ∃ x, x = bs[k] := ⟨_, rfl⟩
          rw [← hx] at cx e1
          have HOD : Hid (VdM.okB ps.length bs k = (decide (0 ≤ x ∧ x < ps.length) && (decide (k = 0) || decide (bs[k - 1]?.getD 0 < x)))) := by unfold Hid VdM.okB; rw [e1]; simp
          clear hx e1
          obtain ⟨t, ht⟩ : ∃ t : Bool, t = decide (0 ≤ x ∧ x < ps.length) := ⟨_, rfl⟩
          rw [← ht] at HOD
          have HHt : Hid (∀ W, Calls Try.prog 33 #[.agg D, .int .i64 x] W fun e w' => e = .returned (.bool t) ∧ Grows W w') := fun W => by rw [ht]; exact HH.out W x
          clear ht
          cases t
          · have HF : Hid (VdM.mayB ps.length bs = false) := HBF.out (by rw [HOD.out]; rfl)
            gi_wp2_with (first
              | ((with_reducible refine wpListIn_load_dk ?_ (.tmp 1) ?_ w.heap.size D ?_ ?_ ?_ ?_); exact rfl; exact rfl; exact rfl; exact HR1.out; exact Ds.out.1)
              | (refine ⟨trivial, ?_⟩; gi_at_call 33; refine (callsIn_wide.2 (HHt.out _)).mono ?_; rintro e w1 ⟨rfl, hg1'⟩; have HG1 := Lib.hid hg1'; have HR1' := Lib.hid (Row.grows HR1.out hg1'); have HR2' := Lib.hid (Row.grows HR2.out hg1'); have HK' := Lib.hid ((others_of_grows hg1').same D0 _ HK.out rfl); have a2 : _ = some _ := (HR1'.out.cell 2).trans Ds.out.2.2.2.1; have c2 : _ = some _ := HR2'.out.cell 0; have f2 := HR2'.out.frozen 0; clear hg1'))
            have hK2 := mark_set HK'.out (p := ⟨w.heap.size + 1, 0, none⟩) (Row.ne_mark HR2'.out HK'.out) (.bool false)
            refine ⟨by simp, .inl ⟨_, _, rfl, run_takeDeferred hK2, ?_⟩⟩
            exact ⟨.bool false, results_bool_cell (p := 2) (g := w.heap.size + 1) (by exact rfl) _ (by exact rfl) ((HR2'.out.set 0 _).kept_put hK2 _), by rw [HM.out, HF.out], ((HB.out.trans HG1.out).setCell (p := ⟨w.heap.size + 1, 0, none⟩) (by simp) _).trans (belowK_b (w := w) (Nat.le_refl _) _ D0 _ _ (by have := HS3.out; omega) hK2 rfl rfl)⟩
          · by_cases hk0 : k = 0
            · subst hk0
              rw [Nat.add_zero] at cx
              have HS1 : Hid (∀ j, j < 0 + 1 → VdM.okB ps.length bs j = true) := fun j hj => by
                obtain rfl : j = 0 := by omega
                rw [HOD.out]; rfl
              gi_wp2_with (first
                | ((with_reducible refine wpListIn_load_dk ?_ (.tmp 1) ?_ w.heap.size D ?_ ?_ ?_ ?_); exact rfl; exact rfl; exact rfl; exact HR1.out; exact Ds.out.1)
                | (refine ⟨trivial, ?_⟩; gi_at_call 33; refine (callsIn_wide.2 (HHt.out _)).mono ?_; rintro e w1 ⟨rfl, hg1'⟩; have HG1 := Lib.hid hg1'; have HR1' := Lib.hid (Row.grows HR1.out hg1'); have HR2' := Lib.hid (Row.grows HR2.out hg1'); have HK' := Lib.hid ((others_of_grows hg1').same D0 _ HK.out rfl); have a2 : _ = some _ := (HR1'.out.cell 2).trans Ds.out.2.2.2.1; have c2 : _ = some _ := HR2'.out.cell 0; have f2 := HR2'.out.frozen 0; clear hg1'))
              go_roundw
              case rel => exact ⟨0 + 1, by omega, by go_num, HS1.out, HR1'.out, HR2'.out, HK'.out, HB.out.trans HG1.out⟩
              case measure => simp [intOf]; omega
            · have e2 : bs[k - 1]? = some (bs[k - 1]'(by omega)) := List.getElem?_eq_getElem (by omega)
              have cy := (Below.cell HB.out (p := ⟨g1, o1 + (k - 1), none⟩) hg1).trans (hcA (k - 1) _ e2)
              obtain ⟨y, hy⟩ : ∃ y, y = bs[k - 1]'(by omega) := ⟨_, rfl⟩
              rw [← hy] at cy e2
              rw [e2, Option.getD_some, decide_eq_false hk0, Bool.false_or, Bool.true_and] at HOD
              have CY := Lib.hid cy
              have GL1 : Hid (g1 < wr.heap.size) := Nat.lt_of_lt_of_le hg1 HB.out.size
              have hw1 : IntKind.i64.wrap ((k : Int) - 1) = (k : Int) - 1 := IntWalk.i64_in _ (by omega)
              have hk1 : (0 : Int) < k := by omega
              have hn1 : ((k : Int) - 1).toNat = k - 1 := by omega
              have hn2 : (0 : Int) ≤ (k : Int) - 1 := by omega
              have hn3 : (k : Int) - 1 < bs.length := by omega
              clear e2 hy cy
              by_cases hxy : y < x
              · have HS1 : Hid (∀ j, j < k + 1 → VdM.okB ps.length bs j = true) := fun j hj => by
                  by_cases hjk : j = k
                  · subst hjk; rw [HOD.out]; exact decide_eq_true hxy
                  · exact HAll.out j (by omega)
                gi_wp2_with (first
                  | ((with_reducible refine wpListIn_load_dk ?_ (.tmp 1) ?_ w.heap.size D ?_ ?_ ?_ ?_); exact rfl; exact rfl; exact rfl; exact HR1.out; exact Ds.out.1)
                  | (refine ⟨trivial, ?_⟩; gi_at_call 33; refine (callsIn_wide.2 (HHt.out _)).mono ?_; rintro e w1 ⟨rfl, hg1'⟩; have HG1 := Lib.hid hg1'; have HR1' := Lib.hid (Row.grows HR1.out hg1'); have HR2' := Lib.hid (Row.grows HR2.out hg1'); have HK' := Lib.hid ((others_of_grows hg1').same D0 _ HK.out rfl); have a2 : _ = some _ := (HR1'.out.cell 2).trans Ds.out.2.2.2.1; have c2 : _ = some _ := HR2'.out.cell 0; have f2 := HR2'.out.frozen 0; have cy := (Below.cell hg1' (p := ⟨g1, o1 + (k - 1), none⟩) GL1.out).trans CY.out; clear hg1'))
                go_roundw
                case rel => exact ⟨k + 1, by omega, by go_num, HS1.out, HR1'.out, HR2'.out, HK'.out, HB.out.trans HG1.out⟩
                case measure => simp [intOf]; omega
              · have HF : Hid (VdM.mayB ps.length bs = false) := HBF.out (by rw [HOD.out]; exact decide_eq_false hxy)
                gi_wp2_with (first
                  | ((with_reducible refine wpListIn_load_dk ?_ (.tmp 1) ?_ w.heap.size D ?_ ?_ ?_ ?_); exact rfl; exact rfl; exact rfl; exact HR1.out; exact Ds.out.1)
                  | (refine ⟨trivial, ?_⟩; gi_at_call 33; refine (callsIn_wide.2 (HHt.out _)).mono ?_; rintro e w1 ⟨rfl, hg1'⟩; have HG1 := Lib.hid hg1'; have HR1' := Lib.hid (Row.grows HR1.out hg1'); have HR2' := Lib.hid (Row.grows HR2.out hg1'); have HK' := Lib.hid ((others_of_grows hg1').same D0 _ HK.out rfl); have a2 : _ = some _ := (HR1'.out.cell 2).trans Ds.out.2.2.2.1; have c2 : _ = some _ := HR2'.out.cell 0; have f2 := HR2'.out.frozen 0; have cy := (Below.cell hg1' (p := ⟨g1, o1 + (k - 1), none⟩) GL1.out).trans CY.out; clear hg1'))
                have hK2 := mark_set HK'.out (p := ⟨w.heap.size + 1, 0, none⟩) (Row.ne_mark HR2'.out HK'.out) (.bool false)
                refine ⟨by simp, .inl ⟨_, _, rfl, run_takeDeferred hK2, ?_⟩⟩
                exact ⟨.bool false, results_bool_cell (p := 2) (g := w.heap.size + 1) (by exact rfl) _ (by exact rfl) ((HR2'.out.set 0 _).kept_put hK2 _), by rw [HM.out, HF.out], ((HB.out.trans HG1.out).setCell (p := ⟨w.heap.size + 1, 0, none⟩) (by simp) _).trans (belowK_b (w := w) (Nat.le_refl _) _ D0 _ _ (by have := HS3.out; omega) hK2 rfl rfl)⟩
        · obtain rfl : k = bs.length := by omega
          have HF : Hid (VdM.mayB ps.length bs = true) := by
            unfold Hid VdM.mayB
            rw [List.all_eq_true]
            intro j hj
            exact HAll.out j (List.mem_range.1 hj)
          gi_wp2
          have hK2 := mark_set HK.out (p := ⟨w.heap.size + 1, 0, none⟩) (Row.ne_mark HR2.out HK.out) (.bool true)
          refine ⟨by simp, .inl ⟨_, _, rfl, run_takeDeferred hK2, ?_⟩⟩
          exact ⟨.bool true, results_bool_cell (p := 2) (g := w.heap.size + 1) (by exact rfl) _ (by exact rfl) ((HR2.out.set 0 _).kept_put hK2 _), by rw [HM.out, HF.out], (HB.out.setCell (p := ⟨w.heap.size + 1, 0, none⟩) (by simp) _).trans (belowK_b (w := w) (Nat.le_refl _) _ D0 _ _ (by have := HS3.out; omega) hK2 rfl rfl)⟩
theorem vmay_any (v : Value) (d : Dk) (w : World) (hv : IsDisk w.heap.size w v d) :
    Calls Try.prog 15 #[v] w fun e w' => e = .returned (.bool (VdM.may d)) ∧ Grows w w' := callsIn_wide.1 (vmay_in 4 (Nat.le_refl _) v d w hv)
end Go.Proofs.Ytfcghkmhcfgfkaa
