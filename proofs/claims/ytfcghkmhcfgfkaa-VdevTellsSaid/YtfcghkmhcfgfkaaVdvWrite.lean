/- vdev.Write. -/
import Derived.Test.YtfcghkmhcfgfkaaVdvCopy
import Derived.Test.YtfcghkmhcfgfkaaVdvReach
namespace Go.Proofs.Ytfcghkmhcfgfkaa
open Go.RowKit
set_option linter.unusedVariables false
set_option linter.unusedSimpArgs false
theorem does_build_wr {ρ : Operand → Value} {o : Oper} {w : World} {R : Value → World → Prop} (x y : Operand) (ho : o.op = .build 47 #[(0, x), (1, y)]) (n : Int) (p : Pg) (hx : ρ x = .int .i64 n) (hy : ρ y = .agg (pgA p)) (hl : p.length = 256)
    (hR : R (.agg (wrA (n, p))) w) : Does Try.prog o ρ w R := by
  have hc : Try.prog.built 47 ((#[(0, x), (1, y)] : Array (Nat × Operand)).map fun (i, x) => (i, ρ x)).toList = some (wrA (n, p)) := by
    simp only [List.map_toArray, List.map_cons, List.map_nil, hx, hy]
    exact built_write n p hl
  unfold Does execOp
  simp only [ho, Sem.run_bind, run_build w 47 _ _ hc, Result.andThen_ok]
  exact hR
theorem does_slice_wr {ρ : Operand → Value} {o : Oper} {w : World} {R : Value → World → Prop} (x : Operand) (ho : o.op = .buildSlice 23 1 #[(0, x)]) (q : Int × Pg) (hx : ρ x = .agg (wrA q)) (hl : q.2.length = 256)
    (hR : R (.slice (some ⟨w.heap.size, 0, none⟩) 1 1) (w.alloc (.cells (wrA q) 47))) : Does Try.prog o ρ w R := by
  have hf : Try.prog.builtSlice 47 1 ((#[(0, x)] : Array (Nat × Operand)).map fun (i, x) => (i, ρ x)).toList = some (wrA q) := by
    simp only [List.map_toArray, List.map_cons, List.map_nil, hx]
    exact builtSlice_write q hl
  have hr : (Instr.buildSlice 23 1 ((#[(0, x)] : Array (Nat × Operand)).map fun (i, x) => (i, ρ x))).run Try.prog w = .ok (.slice (some ⟨w.heap.size, 0, none⟩) 1 1) (w.alloc (.cells (wrA q) 47)) := by
    unfold Program.builtSlice at hf
    cases hie : Try.prog.info? 47 with
    | none => simp [hie] at hf
    | some ie =>
      simp only [hie] at hf
      cases hz : ie.zero with
      | none => simp [hz] at hf
      | some z =>
        simp only [hz] at hf
        by_cases hc : 1 * ie.size > 2 ^ 24 ∨ 1 * ie.size = 0
        · rw [if_pos hc] at hf; cases hf
        · rw [if_neg hc] at hf
          exact run_buildSlice w _ _ 1 _ _ ie z Try.underlying23 hie hz (fun h' => hc (Or.inl h')) (fun h' => hc (Or.inr h')) hf
  unfold Does execOp
  simp only [ho, Sem.run_bind, hr, Result.andThen_ok]
  exact hR
theorem pg_run_load_row {w : World} {g : Nat} {p : Pg} (hl : p.length = 256) (hr : Row w g 28 (pgA p)) : (loadVar 28 ⟨g, 0, none⟩).run Try.prog w = .ok (.agg (pgA p)) w :=
  run_loadVar_row w g 28 28 (pgA p) (0, 0) _ hr Try.underlying28 rfl (by rw [pgA_size, hl]; kernel_rfl)
/-- A list that grows with the heap. -/
def ElsAt {α : Type} (s : Nat) (f : α → List Value) (l : List α) (v : Value) (w : World) : Prop := Els s f w.heap.size w v l
theorem ElsAt.mono {α : Type} {s : Nat} {f : α → List Value} (l : List α) : ∀ v w w', ElsAt s f l v w → Grows w w' → ElsAt s f l v w' := fun v w w' h hg => h.grows hg
set_option maxRecDepth 20000 in
set_option maxHeartbeats 4000000 in
theorem vwrite_any (v : Value) (d : Dk) (n : Int) (p : Pg) (w : World) (hp : p.length = 256) (hv : IsDisk w.heap.size w v d) (l1 : d.pages.length ≤ 1000000) (l2 : d.cache.length ≤ 900000) (l3 : d.bad.length ≤ 1000000) :
    Calls Try.prog 22 #[v, .int .i64 n, .agg (pgA p)] w fun e w' => ∃ r, e = .returned (.tuple #[r, .int .i64 (VdM.writeErr d n)]) ∧ OwnDisk w.heap.size w' r (VdM.writeD d n p) ∧ Grows w w' := by
  have HV := Lib.hid hv; have HPl := Lib.hid hp; have L1 := Lib.hid l1; have L2 := Lib.hid (show d.cache.length ≤ 1000000 by omega); have L3 := Lib.hid l3
  have L2' := Lib.hid l2
  obtain ⟨pv, cv, bv, rfl, hpp, hc, hbb⟩ := hv
  have HPg := Lib.hid hpp; have HCa := Lib.hid hc; have HBd := Lib.hid hbb
  obtain ⟨C, cup, rfl, r1, r2, _⟩ := hc.form
  clear hc hpp hbb hp l1 l3 l2
  unfold maxLen at r2
  have HE : Hid (VdM.writeErr d n = if VdM.atE d n = 0 ∧ d.cache.length = 2000 then 32 else VdM.atE d n) := rfl
  have HD : Hid (VdM.writeD d n p = if VdM.writeErr d n = 0 then { d with cache := d.cache ++ [(n, p)] } else d) := rfl
  have HA := Lib.hid (fun W h => vreach_any (.agg #[pv, .slice C d.cache.length cup, bv, .bool d.off]) d n W h)
  have HC := Lib.hid (fun W h => vcopy_any (.agg #[pv, .slice C d.cache.length cup, bv, .bool d.off]) d W h L1.out L2.out L3.out)
  obtain ⟨D, hD⟩ : ∃ D, D = #[pv, .slice C d.cache.length cup, bv, .bool d.off] := ⟨_, rfl⟩
  have Ds : Hid (D.size = 4 ∧ D[0]? = some pv ∧ D[1]? = some (.slice C d.cache.length cup) ∧ D[2]? = some bv ∧ D[3]? = some (.bool d.off)) := by subst hD; exact ⟨rfl, rfl, rfl, rfl, rfl⟩
  rw [← hD] at HV HA HC ⊢
  clear hD
  generalize hm : d.cache.length = m at *
  have R1 := Lib.hid (((Row.new w 26 D).alloc (.cells (pgA p) 28)).alloc (.cells noDk 26))
  have R2 : Hid (Row (((w.alloc (.cells D 26)).alloc (.cells (pgA p) 28)).alloc (.cells noDk 26)) (w.heap.size + 1) 28 (pgA p)) := by
    have := (Row.new (w.alloc (.cells D 26)) 28 (pgA p)).alloc (.cells noDk 26)
    rwa [World.size_alloc] at this
  have R3 : Hid (Row (((w.alloc (.cells D 26)).alloc (.cells (pgA p) 28)).alloc (.cells noDk 26)) (w.heap.size + 1 + 1) 26 noDk) := by
    have := Row.new ((w.alloc (.cells D 26)).alloc (.cells (pgA p) 28)) 26 noDk
    rwa [World.size_alloc, World.size_alloc] at this
  have HG := Lib.hid (((Grows.alloc w (.cells D 26)).trans (Grows.alloc _ (.cells (pgA p) 28))).trans (Grows.alloc _ (.cells noDk 26)))
  have HAt := Lib.hid (HA.out _ (HV.out.grows HG.out))
  clear HA
  unfold noDk at R1 R2 R3 HG HAt
  by_cases h0 : VdM.writeErr d n = 0
  case neg =>
    have HDD := Lib.hid (HD.out.trans (if_neg h0))
    rw [HDD.out]
    clear HDD HD
    by_cases h1 : VdM.atE d n = 0 ∧ m = 2000
    · have HE1 := Lib.hid (HE.out.trans (if_pos h1))
      rw [h1.1] at HAt
      rw [HE1.out]
      have hm2 : (m : Int) = 2000 := by omega
      have hm3 := h1.2
      clear h0 h1 HE HE1
      go_enter Try.func22, Try.ntmps22
      go_wp2_with (first
        | ((with_reducible refine wpList_load_dk (o := ⟨some 9, _, _, _, _, _⟩) ?_ (.tmp 3) ?_ w.heap.size D ?_ ?_ ?_ ?_); exact rfl; exact rfl; exact rfl; exact R1.out; exact Ds.out.1)
        | (go_at_call 29; refine HAt.out.mono ?_; rintro e w1 ⟨rfl, g1⟩; have HG1 := Lib.hid (HG.out.trans g1); have S1 := Lib.hid (Row.grows R1.out g1); have S3 := Lib.hid (Row.grows R3.out g1); have c1 := ((Row.grows R1.out g1).cell 1).trans Ds.out.2.2.1; have HCc := Lib.hid (HC.out w1 (HV.out.grows (HG.out.trans g1))); clear g1)
        | ((with_reducible refine wpList_load_dk (o := ⟨some 23, _, _, _, _, _⟩) ?_ (.tmp 3) ?_ w.heap.size D ?_ ?_ ?_ ?_); exact rfl; exact rfl; exact rfl; exact S1.out; exact Ds.out.1)
        | (go_at_call 26; refine HCc.out.mono ?_; rintro e w2 ⟨r, rfl, hr, g2⟩; have HG2 := Lib.hid (HG1.out.trans g2); have T3 := Lib.hid (Row.grows S3.out g2); obtain ⟨pv2, cv2, bv2, rfl, o1, o2, o3⟩ := hr; have HO1 := Lib.hid (o1.more HG1.out.size); have HO2 := Lib.hid (o2.more HG1.out.size); have HO3 := Lib.hid (o3.more HG1.out.size); have H41 := Lib.hid (dk_one (d := d) ⟨pv2, cv2, bv2, rfl, o1.els, o2.els, o3.els⟩); clear o1 o2 o3 g2)
        | ((with_reducible refine wpList_store_dk ?_ (.tmp 6) (.tmp 24) ?_ (w.heap.size + 1 + 1) #[pv2, cv2, bv2, .bool d.off] #[.slice none 0 0, .slice none 0 0, .slice none 0 0, .bool false] ?_ ?_ ?_ ?_ ?_ ?_ ?_); exact rfl; exact rfl; exact rfl; exact rfl; exact rfl; exact rfl; exact H41.out.2; exact T3.out; intro w6 hw6 hg6))
      refine bodyPost_ret (results_dk_two (p := 6) (q := 7) (by exact rfl) _ (.int .i64 32) (by exact rfl) (by exact rfl) (by exact rfl) hw6) rfl ?_
      exact ⟨_, rfl, ⟨_, _, _, rfl, HO1.out.aside hg6 T3.out (by decide), HO2.out.aside hg6 T3.out (by decide), HO3.out.aside hg6 T3.out (by decide)⟩, HG2.out.grown hg6 HG2.out.size (fun k e => by cases e; omega)⟩
    · have HE1 := Lib.hid (HE.out.trans (if_neg h1))
      rw [HE1.out] at h0 ⊢
      clear h1 HE HE1
      generalize VdM.atE d n = e0 at *
      go_enter Try.func22, Try.ntmps22
      go_wp2_with (first
        | ((with_reducible refine wpList_load_dk (o := ⟨some 9, _, _, _, _, _⟩) ?_ (.tmp 3) ?_ w.heap.size D ?_ ?_ ?_ ?_); exact rfl; exact rfl; exact rfl; exact R1.out; exact Ds.out.1)
        | (go_at_call 29; refine HAt.out.mono ?_; rintro e w1 ⟨rfl, g1⟩; have HG1 := Lib.hid (HG.out.trans g1); have S1 := Lib.hid (Row.grows R1.out g1); have S3 := Lib.hid (Row.grows R3.out g1); have HCc := Lib.hid (HC.out w1 (HV.out.grows (HG.out.trans g1))); clear g1)
        | ((with_reducible refine wpList_load_dk (o := ⟨some 15, _, _, _, _, _⟩) ?_ (.tmp 3) ?_ w.heap.size D ?_ ?_ ?_ ?_); exact rfl; exact rfl; exact rfl; exact S1.out; exact Ds.out.1)
        | (go_at_call 26; refine HCc.out.mono ?_; rintro e w2 ⟨r, rfl, hr, g2⟩; have HG2 := Lib.hid (HG1.out.trans g2); have T3 := Lib.hid (Row.grows S3.out g2); obtain ⟨pv2, cv2, bv2, rfl, o1, o2, o3⟩ := hr; have HO1 := Lib.hid (o1.more HG1.out.size); have HO2 := Lib.hid (o2.more HG1.out.size); have HO3 := Lib.hid (o3.more HG1.out.size); have H41 := Lib.hid (dk_one (d := d) ⟨pv2, cv2, bv2, rfl, o1.els, o2.els, o3.els⟩); clear o1 o2 o3 g2)
        | ((with_reducible refine wpList_store_dk ?_ (.tmp 6) (.tmp 16) ?_ (w.heap.size + 1 + 1) #[pv2, cv2, bv2, .bool d.off] #[.slice none 0 0, .slice none 0 0, .slice none 0 0, .bool false] ?_ ?_ ?_ ?_ ?_ ?_ ?_); exact rfl; exact rfl; exact rfl; exact rfl; exact rfl; exact rfl; exact H41.out.2; exact T3.out; intro w6 hw6 hg6))
      refine bodyPost_ret (results_dk_two (p := 6) (q := 7) (by exact rfl) _ (.int .i64 e0) (by exact rfl) (by exact rfl) (by exact rfl) hw6) rfl ?_
      exact ⟨_, rfl, ⟨_, _, _, rfl, HO1.out.aside hg6 T3.out (by decide), HO2.out.aside hg6 T3.out (by decide), HO3.out.aside hg6 T3.out (by decide)⟩, HG2.out.grown hg6 HG2.out.size (fun k e => by cases e; omega)⟩
  have hat : VdM.atE d n = 0 := by
    have := HE.out
    rw [h0] at this
    split at this
    · cases this
    · exact this.symm
  have hm2 : ¬ (m : Int) = 2000 := by
    have := HE.out
    rw [h0, hat] at this
    intro h
    rw [if_pos ⟨rfl, by omega⟩] at this
    cases this
  have hof : d.off = false := by
    unfold VdM.atE at hat
    split at hat
    · split at hat
      · cases hat
      · simpa using ‹¬ d.off = true›
    · cases hat
  have HDD := Lib.hid (HD.out.trans (if_pos h0))
  rw [HDD.out, h0]
  rw [hat] at HAt
  clear HDD HD HE HC h0 hat
  obtain ⟨ps, cs, bs, off⟩ := d
  simp only at *
  subst hof
  subst hm
  go_enter Try.func22, Try.ntmps22
  go_wp2_with (first
    | ((with_reducible refine wpList_load_dk (o := ⟨some 9, _, _, _, _, _⟩) ?_ (.tmp 3) ?_ w.heap.size D ?_ ?_ ?_ ?_); exact rfl; exact rfl; exact rfl; exact R1.out; exact Ds.out.1)
    | (go_at_call 29; refine HAt.out.mono ?_; rintro e w1 ⟨rfl, g1⟩; have HG1 := Lib.hid (HG.out.trans g1); have S1 := Lib.hid (Row.grows R1.out g1); have S2 := Lib.hid (Row.grows R2.out g1); have S3 := Lib.hid (Row.grows R3.out g1); have b0 := ((Row.grows R1.out g1).cell 0).trans Ds.out.2.1; have b1 := ((Row.grows R1.out g1).cell 1).trans Ds.out.2.2.1; have b2 := ((Row.grows R1.out g1).cell 2).trans Ds.out.2.2.2.1; clear g1))
  refine wp_region_free 13 39 (by kernel_rfl) (by kernel_rfl) rfl (by kernel_rfl) ?_; simp only [List.take_succ_cons, List.take_zero, List.drop_succ_cons, List.drop_zero]
  repeat (apply free_pure rfl; focus (intro vs w hg hd; have q0 := hg.cell b0; have q1 := hg.cell b1; have q2 := hg.cell b2; (try simp [Region.binds] at hd); simp only [execOp, resolve, Option.map_some, Option.map_none, List.map_toArray, List.map_cons, List.map_nil, rho_const, rho_func]; (repeat (conv in rho _ _ _ _ (Operand.tmp _) => whnf)); (try simp only [hd]); go_simp; (repeat (conv in rho _ _ _ _ (Operand.tmp _) => whnf)); (try simp only [hd]); rfl))
  refine free_op (fun v_ w_ => Own' 28 256 pageE w.heap.size w_ v_ ps) rfl (own_mono _ _ _) (fun vs wq hg hd => by
    (try simp [Region.binds] at hd); simp only [Does]; simp only [execOp, resolve, Option.map_some, Option.map_none, List.map_toArray, List.map_cons, List.map_nil, rho_const, rho_func]; (repeat (conv in rho _ _ _ _ (Operand.tmp _) => whnf)); (try simp only [hd]); go_simp; (repeat (conv in rho _ _ _ _ (Operand.tmp _) => whnf))
    have hle := Below.size (Grows.of_drew hg)
    refine (vown_page _ (.slice none 0 0) ps [] _ ((HPg.out.below (HG1.out.trans (Grows.of_drew hg))).more (Nat.le_trans HG1.out.size hle)) (Els.nil _ _) (by have := L1.out; simpa using this)).mono ?_
    rintro e w2 ⟨r, rfl, ho, hg2⟩
    rw [List.append_nil] at ho
    exact ⟨r, rfl, hg2, ho.more (Nat.le_trans HG1.out.size hle)⟩) ?_
  repeat (apply free_pure rfl; focus (intro vs w hg hd; have q0 := hg.cell b0; have q1 := hg.cell b1; have q2 := hg.cell b2; (try simp [Region.binds] at hd); simp only [execOp, resolve, Option.map_some, Option.map_none, List.map_toArray, List.map_cons, List.map_nil, rho_const, rho_func]; (repeat (conv in rho _ _ _ _ (Operand.tmp _) => whnf)); (try simp only [hd]); go_simp; (repeat (conv in rho _ _ _ _ (Operand.tmp _) => whnf)); (try simp only [hd]); rfl))
  refine free_op (fun v_ _ => v_ = .agg (pgA p)) rfl (dk_mono _) (fun vs wq hg hd => by
    (try simp [Region.binds] at hd)
    refine dk_load 28 (.tmp 5) ⟨w.heap.size + 1, 0, none⟩ _ rfl ?_ (pg_run_load_row HPl.out (Row.grows S2.out (Grows.of_drew hg))) ⟨Grows.refl _, rfl⟩
    (conv in rho _ _ _ _ (Operand.tmp _) => whnf)) ?_
  refine free_op (fun v_ _ => v_ = .agg (wrA (n, p))) rfl (dk_mono _) (fun vs wq hg hd => by
    simp [Region.binds] at hd
    refine does_build_wr (.tmp 30) (.tmp 31) rfl n p ?_ ?_ HPl.out ⟨Grows.refl _, rfl⟩
    · (conv in rho _ _ _ _ (Operand.tmp _) => whnf)
      simp [hd]
    · (conv in rho _ _ _ _ (Operand.tmp _) => whnf)
      simp [hd]) ?_
  refine free_op (fun v_ w_ => ElsAt 257 writeE [(n, p)] v_ w_) rfl (ElsAt.mono _) (fun vs wq hg hd => by
    simp [Region.binds] at hd
    refine does_slice_wr (.tmp 32) rfl (n, p) ?_ HPl.out ⟨Grows.alloc _ _, ?_⟩
    · (conv in rho _ _ _ _ (Operand.tmp _) => whnf)
      simp [hd]
    · unfold ElsAt
      rw [World.size_alloc]
      exact els_one wq (n, p) HPl.out) ?_
  refine free_op (fun v_ w_ => Own' 47 257 writeE w.heap.size w_ v_ (cs ++ [(n, p)])) rfl (own_mono _ _ _) (fun vs wq hg hd => by
    (try simp [Region.binds] at hd); simp only [Does]; simp only [execOp, resolve, Option.map_some, Option.map_none, List.map_toArray, List.map_cons, List.map_nil, rho_const, rho_func]; (repeat (conv in rho _ _ _ _ (Operand.tmp _) => whnf)); (try simp only [hd]); go_simp; (repeat (conv in rho _ _ _ _ (Operand.tmp _) => whnf))
    have hle := Below.size (Grows.of_drew hg)
    refine (vown_write _ _ cs [(n, p)] _ ((HCa.out.below (HG1.out.trans (Grows.of_drew hg))).more (Nat.le_trans HG1.out.size hle)) (by exact hd.2.1) (by have := L2'.out; simp; omega)).mono ?_
    rintro e w2 ⟨r, rfl, ho, hg2⟩
    exact ⟨r, rfl, hg2, ho.more (Nat.le_trans HG1.out.size hle)⟩) ?_
  repeat (apply free_pure rfl; focus (intro vs w hg hd; have q0 := hg.cell b0; have q1 := hg.cell b1; have q2 := hg.cell b2; (try simp [Region.binds] at hd); simp only [execOp, resolve, Option.map_some, Option.map_none, List.map_toArray, List.map_cons, List.map_nil, rho_const, rho_func]; (repeat (conv in rho _ _ _ _ (Operand.tmp _) => whnf)); (try simp only [hd]); go_simp; (repeat (conv in rho _ _ _ _ (Operand.tmp _) => whnf)); (try simp only [hd]); rfl))
  refine free_op (fun v_ w_ => Own' 3 1 intE w.heap.size w_ v_ bs) rfl (own_mono _ _ _) (fun vs wq hg hd => by
    (try simp [Region.binds] at hd); simp only [Does]; simp only [execOp, resolve, Option.map_some, Option.map_none, List.map_toArray, List.map_cons, List.map_nil, rho_const, rho_func]; (repeat (conv in rho _ _ _ _ (Operand.tmp _) => whnf)); (try simp only [hd]); go_simp; (repeat (conv in rho _ _ _ _ (Operand.tmp _) => whnf))
    have hle := Below.size (Grows.of_drew hg)
    refine (vown_int _ (.slice none 0 0) bs [] _ ((HBd.out.below (HG1.out.trans (Grows.of_drew hg))).more (Nat.le_trans HG1.out.size hle)) (Els.nil _ _) (by have := L3.out; simpa using this)).mono ?_
    rintro e w2 ⟨r, rfl, ho, hg2⟩
    rw [List.append_nil] at ho
    exact ⟨r, rfl, hg2, ho.more (Nat.le_trans HG1.out.size hle)⟩) ?_
  intro vs w' hg hv; have h2 := hv 2 (by omega); simp at h2; have h9 := hv 9 (by omega); simp at h9; have h12 := hv 12 (by omega); simp at h12; simp only [putL, dstAt, List.range, List.range.loop, if_true, List.getElem?_toArray, List.getElem?_cons_zero, List.getElem?_cons_succ, Option.bind_some, Act.put, List.setIfInBounds_toArray, List.set_cons_zero, List.set_cons_succ]
  have H3 := Lib.hid h2; have H7 := Lib.hid h9; have H11 := Lib.hid h12
  have RZ' := Lib.hid (Row.grows S3.out (Grows.of_drew hg))
  have HG' := Lib.hid (HG1.out.trans (Grows.of_drew hg))
  clear hv h2 h9 h12 hg b0 b1 b2
  generalize vs 0 = z0, vs 1 = z1, vs 2 = z2, vs 3 = z3, vs 4 = z4, vs 5 = z5, vs 6 = z6, vs 7 = z7, vs 8 = z8, vs 9 = z9, vs 10 = z10, vs 11 = z11, vs 12 = z12 at *
  obtain ⟨A3, c3, rfl, _⟩ := H3.out.els.form
  obtain ⟨A7, c7, rfl, _⟩ := H7.out.els.form
  obtain ⟨A11, c11, rfl, _⟩ := H11.out.els.form
  have hone : Hid ((#[Value.slice A3 ps.length c3, Value.slice A7 (cs ++ [(n, p)]).length c7, Value.slice A11 bs.length c11, Value.bool false] : Array Value).all (·.oneCell') = true) := by unfold Hid; simp [Value.oneCell']
  generalize (cs ++ [(n, p)]).length = m1 at *
  go_wp2_with (first
    | ((with_reducible refine wpList_store_dk ?_ (.tmp 6) (.tmp 38) ?_ (w.heap.size + 1 + 1) #[.slice A3 ps.length c3, .slice A7 m1 c7, .slice A11 bs.length c11, .bool false] #[.slice none 0 0, .slice none 0 0, .slice none 0 0, .bool false] ?_ ?_ ?_ ?_ ?_ ?_ ?_); exact rfl; exact rfl; exact rfl; exact rfl; exact rfl; exact rfl; exact hone.out; exact RZ'.out; intro w6 hw6 hg6))
  refine bodyPost_ret (results_dk_two (p := 6) (q := 7) (by exact rfl) _ (.int .i64 0) (by exact rfl) (by exact rfl) (by exact rfl) hw6) rfl ?_
  exact ⟨_, rfl, ⟨_, _, _, rfl, H3.out.aside hg6 RZ'.out (by decide), H7.out.aside hg6 RZ'.out (by decide), H11.out.aside hg6 RZ'.out (by decide)⟩, HG'.out.grown hg6 HG'.out.size (fun k e => by cases e; omega)⟩
end Go.Proofs.Ytfcghkmhcfgfkaa
