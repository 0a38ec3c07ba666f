/- vdev.Read. -/
import Derived.Test.YtfcghkmhcfgfkaaVdIn
import Derived.Test.YtfcghkmhcfgfkaaShelf
import Derived.Test.YtfcghkmhcfgfkaaFreeG
namespace Go.Proofs.Ytfcghkmhcfgfkaa
open Go.RowKit Go.Shelf
set_option linter.unusedVariables false
set_option linter.unusedSimpArgs false
attribute [local go_sem] Oper.semAt_some
/-- slices.Contains of a slice of numbers. -/
theorem contains_any (v : Value) (l : List Int) (x : Int) (w : World) {B : Nat} (hv : Els 1 intE B w v l) : Calls Try.prog 30 #[v, .int .i64 x] w fun e w' => e = .returned (.bool (l.contains x)) ∧ w' = w := by
  obtain ⟨A, cap, rfl, h1, h2, h3⟩ := hv.ints
  unfold maxLen at h2
  by_cases h0 : 0 < l.length
  · obtain ⟨b, o, rfl, _, hc⟩ := h3 h0
    have := Try.slices_Contains_int b o l.length cap l x w (Nat.le_refl _) (by omega) (fun j hj => hc j _ (by rw [List.getD_eq_getElem?_getD, List.getElem?_eq_getElem hj]; rfl))
    rwa [List.take_length] at this
  · obtain rfl : l = [] := List.length_eq_zero_iff.1 (by omega)
    exact Try.slices_Contains_int_empty A cap x w
theorem errno_run_load {w : World} {g : Nat} {x : Int} (hr : Row w g 31 #[.int .i64 x]) : (loadVar 31 ⟨g, 0, none⟩).run Try.prog w = .ok (.int .i64 x) w := by
  have hc : w.cell? ⟨g, 0, none⟩ = some (.int .i64 x) := hr.cell 0
  have hagg : (isAgg 31).run Try.prog w = .ok false w := by
    unfold isAgg
    rw [Sem.run_bind, run_underlying Try.underlying31 w]
    rfl
  simp [loadVar, hagg, go_sem, hc]
theorem contains_is (v : Value) (l : List Int) (x : Int) (t : Bool) (w : World) {B : Nat} (hv : Els 1 intE B w v l) (ht : l.contains x = t) : Calls Try.prog 30 #[v, .int .i64 x] w fun e w' => e = .returned (.bool t) ∧ w' = w := by
  have := contains_any v l x w hv
  rwa [ht] at this
theorem Grows.put_mark {w w' : World} (h : Grows w w') {D : Nat} {ds : Option (List Deferred)} {o : Obj} (hk : w'.heap[D]? = some (.deferred ds)) (hD : w.heap.size ≤ D) : Below w.heap.size w' (w'.putObj D o) :=
  belowK_b (w := w) (Nat.le_refl _) w' D _ _ hD hk rfl rfl
theorem does_store_errno {ρ : Operand → Value} {o : Oper} {w : World} {R : Value → World → Prop} (x y : Operand) (ho : o.op = .store 31 x y) (g : Nat) (k old : Int) (hx : ρ x = .pointer (some ⟨g, 0, none⟩)) (hy : ρ y = .int .i64 k)
    (hr : Row w g 31 #[.int .i64 old]) (hR : ∀ w', Row w' g 31 #[.int .i64 k] → w.grownBy w' (some g) → R undef w') : Does Try.prog o ρ w R := by
  have hc : w.cell? ⟨g, 0, none⟩ = some (.int .i64 old) := hr.cell 0
  have hf := hr.frozen 0
  obtain ⟨i0, hi, hs⟩ : ∃ i, Try.prog.info? 31 = some i ∧ i.size = 1 := Option.map_eq_some_iff.1 (show (Try.prog.info? 31).map (·.size) = some 1 by kernel_rfl)
  have hrun : (storeVar 31 ⟨g, 0, none⟩ (.int .i64 k)).run Try.prog w = .ok () (w.setCell ⟨g, 0, none⟩ (.int .i64 k)) := by
    simp [storeVar, sizeOf, typeInfo, hi, hs, go_sem, hc, hf]
  unfold Does execOp
  simp only [ho, hx, hy, Instr.storeAt, Instr.sureAddr, Sem.run_bind, Sem.run_pure, Result.andThen_ok, hrun]
  exact hR _ (hr.set 0 _) (setCell_grown _ _ _ _)
theorem wpListIn_store_errno {F : Fence} {nn : Nat} {w : World} {ops : Array Oper} {rest : List Oper} {o : Oper} {a : Act} {Q : Exit → Act → World → Prop} (hF : WideF F) (hgd : o.guard = none) (x y : Operand) (ho : o.op = .store 31 x y) (g : Nat) (k old : Int) (hx : a.eval x = .pointer (some ⟨g, 0, none⟩)) (hy : a.eval y = .int .i64 k)
    (hr : Row w g 31 #[.int .i64 old]) (h : ∀ w', Row w' g 31 #[.int .i64 k] → w.grownBy w' (some g) → wpListIn F nn Try.prog ops Q rest (a.put o.dst undef) w') : wpListIn F nn Try.prog ops Q (o :: rest) a w :=
  wpListIn_does hF hgd (by intro c; rw [ho]; simp) (R := fun v w' => v = undef ∧ Row w' g 31 #[.int .i64 k] ∧ w.grownBy w' (some g))
    (does_store_errno x y ho g k old hx hy hr fun w' h1 h2 => ⟨rfl, h1, h2⟩) (by rintro v w' ⟨rfl, h1, h2⟩; exact h w' h1 h2)
/-- How the search goes on, and how it ends. -/
def InvR (w w1 : World) (Bs : Nat) (C : Value) (c : List (Int × Pg)) (n e0 : Int) (p0 : Pg) (pre : List (Fin c.length)) (W : World) : Prop :=
  (∀ j ∈ pre, (c[j.val]).1 ≠ n) ∧ Row W (w.heap.size + 1) 3 #[.int .i64 n] ∧ Row W (w.heap.size + 1 + 1) 28 (pgA VdM.blank) ∧
  Row W w1.heap.size 31 #[.int .i64 e0] ∧ Row W (w1.heap.size + 1) 28 (pgA p0) ∧ Row W Bs 23 #[C] ∧ Below w.heap.size w W
def LeftR (w w1 : World) (c : List (Int × Pg)) (n : Int) (cd : Code) (pre : List (Fin c.length)) (W : World) : Prop :=
  ∃ ini last, (cd = .exit 0 ∧ pre = ini ++ [last] ∧ (c[last.val]).1 = n ∧ (∀ j ∈ ini, (c[j.val]).1 ≠ n)) ∧ Row W (w.heap.size + 1 + 1) 28 (pgA VdM.blank) ∧
  Row W w1.heap.size 31 #[.int .i64 0] ∧ Row W (w1.heap.size + 1) 28 (pgA (c[last.val]).2) ∧ Below w.heap.size w W
theorem prefix_last {n : Nat} {ini : List (Fin n)} {last : Fin n} (hp : ini ++ [last] <+: (List.finRange n).reverse) : ini = backs n (last.val + 1) := by
  have e := prefix_backs hp
  have hlen : (ini ++ [last]).length ≤ n := by have := hp.length_le; simpa using this
  rw [List.length_append, List.length_singleton] at hlen
  have hk : n - (ini ++ [last]).length < n := by rw [List.length_append, List.length_singleton]; omega
  rw [backs_step hk] at e
  obtain ⟨e1, e2⟩ := List.append_inj' e rfl
  have e3 : last = ⟨n - (ini ++ [last]).length, hk⟩ := by simpa using e2
  rw [congrArg Fin.val e3]
  exact e1
theorem mem_backs {n k : Nat} (j : Fin n) : j ∈ backs n k ↔ k ≤ j.val := by
  unfold backs
  rw [List.mem_reverse, List.mem_iff_getElem?]
  constructor
  · rintro ⟨i, hi⟩
    rw [List.getElem?_drop] at hi
    obtain ⟨h1, h2⟩ := List.getElem?_eq_some_iff.1 hi
    rw [← h2]
    simp
  · intro h
    refine ⟨j.val - k, ?_⟩
    rw [List.getElem?_drop, List.getElem?_eq_getElem (by simp; omega)]
    simp only [List.getElem_finRange, Option.some.injEq]
    apply Fin.ext
    simp
    omega
theorem lastW_left {c : List (Int × Pg)} {n : Int} {ini : List (Fin c.length)} {last : Fin c.length} (hp : ini ++ [last] <+: (List.finRange c.length).reverse) (hl : (c[last.val]).1 = n) (h : ∀ j ∈ ini, (c[j.val]).1 ≠ n) : VdM.lastW c n = some (c[last.val]).2 := by
  have e := prefix_last hp
  subst e
  refine VdM.lastW_some c n last.val _ (List.getElem?_eq_getElem last.isLt) hl ?_
  rw [List.all_eq_true]
  intro x hx
  obtain ⟨i, hi, rfl⟩ := List.getElem_of_mem hx
  rw [List.length_drop] at hi
  have := h ⟨last.val + 1 + i, by omega⟩ ((mem_backs _).2 (by simp))
  rw [List.getElem_drop]
  simpa using this
theorem lastW_all {c : List (Int × Pg)} {n : Int} (h : ∀ j ∈ (List.finRange c.length).reverse, (c[j.val]).1 ≠ n) : VdM.lastW c n = none := by
  apply VdM.lastW_none
  rw [List.all_eq_true]
  intro x hx
  obtain ⟨i, hi, rfl⟩ := List.getElem_of_mem hx
  have := h ⟨i, hi⟩ (by simp)
  simpa using this
set_option maxRecDepth 100000 in
set_option maxHeartbeats 4000000 in
theorem vread_in (nn : Nat) (hn : 4 ≤ nn) (v : Value) (d : Dk) (n : Int) (w : World) (hv : IsDisk w.heap.size w v d) :
    CallsIn Fence.wide nn Try.prog 12 #[v, .int .i64 n] w fun e w' => e = .returned (.tuple #[.agg (pgA (VdM.readP d n)), .int .i64 (VdM.readE d n)]) ∧ Grows w w' := by
  have h1n : 1 ≤ nn := by omega
  have HV := Lib.hid hv
  obtain ⟨pv, cv, bv, rfl, hp, hc, hb⟩ := hv
  have HPl := Lib.hid hp.1; have HCl := Lib.hid hc.1; have HBd := Lib.hid hb
  obtain ⟨A, cap, rfl, q1, q2, q3⟩ := hp.form
  obtain ⟨C, cup, rfl, r1, r2, r3⟩ := hc.form
  obtain ⟨E, cop, rfl, s1, s2, s3⟩ := hb.ints
  have HQ := Lib.hid q3; have HR := Lib.hid r3; have R2M := Lib.hid r2
  clear q3 r3 s3 hp hc hb
  unfold maxLen at q2 r2 s2
  have HA := Lib.hid (fun W h => vreach_any (.agg #[.slice A d.pages.length cap, .slice C d.cache.length cup, .slice E d.bad.length cop, .bool d.off]) d n W h)
  have HDP : Hid (VdM.readP d n = if VdM.atE d n = 0 then (match VdM.lastW d.cache n with | some p => p | none => if d.bad.contains n then VdM.blank else d.pages[n.toNat]?.getD VdM.blank) else VdM.blank) := rfl
  have HDE : Hid (VdM.readE d n = if VdM.atE d n = 0 then (match VdM.lastW d.cache n with | some _ => 0 | none => if d.bad.contains n then 31 else 0) else VdM.atE d n) := rfl
  obtain ⟨D, hD⟩ : ∃ D, D = #[Value.slice A d.pages.length cap, .slice C d.cache.length cup, .slice E d.bad.length cop, .bool d.off] := ⟨_, rfl⟩
  have Ds : Hid (D.size = 4 ∧ D[0]? = some (.slice A d.pages.length cap) ∧ D[1]? = some (.slice C d.cache.length cup) ∧ D[2]? = some (.slice E d.bad.length cop)) := by subst hD; exact ⟨rfl, rfl, rfl, rfl⟩
  rw [← hD] at HV HA ⊢
  clear hD
  have hz := zero_pg
  have R1 := Lib.hid (((Row.new w 26 D).alloc (.cells #[.int .i64 n] 3)).alloc (.cells (pgA VdM.blank) 28))
  have R2 : Hid (Row (((w.alloc (.cells D 26)).alloc (.cells #[.int .i64 n] 3)).alloc (.cells (pgA VdM.blank) 28)) (w.heap.size + 1) 3 #[.int .i64 n]) := by
    have := (Row.new (w.alloc (.cells D 26)) 3 #[.int .i64 n]).alloc (.cells (pgA VdM.blank) 28)
    rwa [World.size_alloc] at this
  have R3 : Hid (Row (((w.alloc (.cells D 26)).alloc (.cells #[.int .i64 n] 3)).alloc (.cells (pgA VdM.blank) 28)) (w.heap.size + 1 + 1) 28 (pgA VdM.blank)) := by
    have := Row.new ((w.alloc (.cells D 26)).alloc (.cells #[.int .i64 n] 3)) 28 (pgA VdM.blank)
    rwa [World.size_alloc, World.size_alloc] at this
  have HG := Lib.hid (((Grows.alloc w (.cells D 26)).trans (Grows.alloc _ (.cells #[.int .i64 n] 3))).trans (Grows.alloc _ (.cells (pgA VdM.blank) 28)))
  have HAt := Lib.hid (HA.out _ (HV.out.grows HG.out))
  clear HA
  by_cases h0 : VdM.atE d n = 0
  case neg =>
    have HP0 : Hid (VdM.readP d n = VdM.blank) := HDP.out.trans (if_neg h0)
    have HE0 : Hid (VdM.readE d n = VdM.atE d n) := HDE.out.trans (if_neg h0)
    generalize VdM.atE d n = e0 at *
    refine callsIn_wide.2 ?_
    clear HDP HDE
    go_enter Try.func12, Try.ntmps12
    go_wp2
    refine wp_scope_straight ?_
    go_wp2_with (first
      | ((with_reducible refine wpList_load_dk ?_ (.tmp 2) ?_ w.heap.size D ?_ ?_ ?_ ?_); exact rfl; exact rfl; exact rfl; exact R1.out; exact Ds.out.1)
      | (go_at_call 29; refine HAt.out.mono ?_; rintro e w1 ⟨rfl, g1⟩; have HG1 := Lib.hid (HG.out.trans g1); have S3 := Lib.hid (Row.grows R3.out g1); clear g1))
    have RE : Hid (Row (w1.alloc (.cells #[.int .i64 e0] 31)) w1.heap.size 31 #[.int .i64 e0]) := Row.new _ _ _
    have S3' := Lib.hid (S3.out.alloc (.cells #[.int .i64 e0] 31))
    have HG2 := Lib.hid (HG1.out.trans (Grows.alloc _ (.cells #[.int .i64 e0] 31)))
    have HN : Hid (w1.heap.size ≠ w.heap.size + 1 + 1) := by have := S3.out.lt; unfold Hid; omega
    generalize w1.alloc (.cells #[.int .i64 e0] 31) = W0 at *
    have f6 : ∀ w', Writes (w.heap.size + 1 + 1) 28 (pgA VdM.blank) 256 W0.drew w' → w'.cell? ⟨w1.heap.size, 0, none⟩ = some (.int .i64 e0) := fun w' h => h.cell (RE.out.cell 0) HN.out
    have hGR := Writes.rel (g := w.heap.size + 1 + 1) (t := 28) (new := pgA VdM.blank) (n := 256)
    refine wp_region_freeG hGR 3 42 (by kernel_rfl) (by kernel_rfl) rfl (by kernel_rfl) ?_; simp only [List.take_succ_cons, List.take_zero, List.drop_succ_cons, List.drop_zero]
    refine free_opG (fun v_ _ => v_ = .agg (pgA VdM.blank)) rfl (fun _ _ _ h _ => h) (fun vs wq hg hd => does_build_pg rfl ⟨Writes.rel.refl _, rfl⟩) ?_
    repeat (apply free_pureG hGR rfl; focus (intro vs w hg hd; have q0 := f6 _ hg; (try simp [Region.binds] at hd); simp only [execOp, resolve, Option.map_some, Option.map_none, List.map_toArray, List.map_cons, List.map_nil, rho_const, rho_func]; (repeat (conv in rho _ _ _ _ (Operand.tmp _) => whnf)); (try simp only [hd]); go_simp; (repeat (conv in rho _ _ _ _ (Operand.tmp _) => whnf)); (try simp only [hd]); rfl))
    refine free_opG (fun v_ w_ => Row w_ (w.heap.size + 1 + 1) 28 (pgA VdM.blank)) rfl (fun _ _ _ h k => k.2.1 h) (fun vs wq hg hd => by
      simp [Region.binds] at hd
      obtain ⟨old, ho1, ho2⟩ := hg.2.2 ⟨pgA VdM.blank, by rw [pgA_size, blank_len], S3'.out⟩
      refine does_store_row 28 (.tmp 4) (.tmp 14) rfl (w.heap.size + 1 + 1) (pgA VdM.blank) ?_ ?_ old _ ho2 (by rw [pgA_size, blank_len]; exact pg_info) (by rw [ho1, pgA_size, blank_len]) (pgA_one _) fun w' r1 r2 => ⟨Writes.of_write r2 r1 (by rw [pgA_size, blank_len]), r1⟩
      · (conv in rho _ _ _ _ (Operand.tmp _) => whnf)
      · (conv in rho _ _ _ _ (Operand.tmp _) => whnf)
        simp [hd]) ?_
    intro vs w' hg hv; have h1 := hv 1 (by omega); simp at h1; have h2 := hv 2 (by omega); simp at h2; simp only [putL, dstAt, List.range, List.range.loop, if_true, List.getElem?_toArray, List.getElem?_cons_zero, List.getElem?_cons_succ, Option.bind_some, Act.put, List.setIfInBounds_toArray, List.set_cons_zero, List.set_cons_succ]
    have hgW := hg.grows (HG2.out.trans (Grows.drew W0)) (by omega)
    rw [h1]
    have hR2 := h2
    clear hv h1 h2 hg f6 hGR
    generalize vs 0 = z0, vs 1 = z1, vs 2 = z2 at *
    go_wp2
    simp only [Exit.noGoto]
    refine bodyPost_ret (results_pg_two (p := 4) (q := 5) (by exact rfl) _ (.int .i64 e0) (by exact rfl) (by exact rfl) blank_len hR2) rfl ?_
    exact ⟨by rw [HP0.out, HE0.out], hgW⟩
  have H0 := Lib.hid h0
  rw [h0] at HAt
  have HP0 := Lib.hid (HDP.out.trans (if_pos h0))
  have HE0 := Lib.hid (HDE.out.trans (if_pos h0))
  have HN : Hid (0 ≤ n ∧ n < d.pages.length) := by
    have := H0.out
    unfold VdM.atE at this
    split at this
    · rename_i h; exact ⟨h.2.1, h.2.2⟩
    · omega
  clear h0 HDP HDE H0
  obtain ⟨m, rfl⟩ : ∃ m : Nat, n = m := ⟨n.toNat, by have := HN.out.1; omega⟩
  have hmN : (m : Int) < d.pages.length := HN.out.2
  have hmN2 : m < d.pages.length := by omega
  clear HN
  obtain ⟨g1, o1, rfl, hg1, hcA⟩ := HQ.out (by omega)
  have e1 : d.pages[m]? = some d.pages[m] := List.getElem?_eq_getElem hmN2
  have y1 := Lib.hid (hcA m _ e1)
  have z1 : Hid (d.pages[m].length = 256) := by have := HPl.out _ (List.mem_of_getElem? e1); rwa [pageE_len] at this
  rw [Int.toNat_natCast, e1, Option.getD_some] at HP0
  have HG1B := Lib.hid hg1
  clear e1 hcA HQ hg1
  generalize d.pages[m] = p0 at *
  obtain ⟨g, o, hA, hgo⟩ : ∃ g o : Nat, (0 < d.cache.length → C = some ⟨g, o, none⟩) ∧ ∀ (j : Nat) (x : Int × Pg), d.cache[j]? = some x → g < w.heap.size ∧ w.rangeAt g (o + j * 257) (writeE x) := by
    by_cases h0 : 0 < d.cache.length
    · obtain ⟨g, o, e, hl, hx⟩ := HR.out h0
      exact ⟨g, o, fun _ => e, fun j x hj => ⟨hl, hx j x hj⟩⟩
    · exact ⟨0, 0, fun h => absurd h h0, fun j x hj => absurd (List.getElem?_eq_some_iff.1 hj).1 (by omega)⟩
  have HGO := Lib.hid hgo
  have HAC := Lib.hid hA
  clear hgo hA HR
  obtain ⟨ps, cs, bs, off⟩ := d
  simp only at *
  refine callsIn_of_wp_marks Try.func12 rfl trivial ?_ rfl
  simp only [Try.ntmps12, List.size_toArray, List.length_cons, List.length_nil, Nat.reduceAdd, Nat.reduceSub, Array.replicate_succ, Array.replicate_zero, List.push_toArray, List.append_toArray, List.nil_append, List.cons_append]
  gi_wp2
  refine wpIn_wide.2 (wp_scope_straight ((wpIn_wide (n := nn)).1 ?_))
  obtain ⟨tb, htb⟩ : ∃ tb, tb = bs.contains (m : Int) := ⟨_, rfl⟩
  rw [← htb] at HP0 HE0
  have HTB : Hid (bs.contains (m : Int) = tb) := htb.symm
  clear htb
  cases tb
  focus
    gi_wp2_with (first
      | ((with_reducible refine wpListIn_load_dk ?_ (.tmp 2) ?_ w.heap.size D ?_ ?_ ?_ ?_); exact rfl; exact rfl; exact rfl; exact R1.out; exact Ds.out.1)
      | (refine ⟨trivial, ?_⟩; gi_at_call 29; refine (callsIn_wide.2 HAt.out).mono ?_; rintro e w1 ⟨rfl, k1⟩; have HG1 := Lib.hid (HG.out.trans k1); have S1 := Lib.hid (Row.grows R1.out k1); have S2 := Lib.hid (Row.grows R2.out k1); have S3 := Lib.hid (Row.grows R3.out k1); have HL := Lib.hid S3.out.lt; have b0 := ((S1.out.alloc (.cells #[.int .i64 0] 31)).cell 0).trans Ds.out.2.1; have bn := (S2.out.alloc (.cells #[.int .i64 0] 31)).cell 0; clear k1)
      | ((with_reducible refine wpListIn_load_pg WideF.wide ?_ (.tmp 19) ?_ g1 (o1 + m * 256) p0 ?_ ?_ ?_ ?_); exact rfl; exact rfl; exact rfl; exact z1.out; exact rangeAt_keep y1.out (fun a ha => Below.cell (HG1.out.trans (Grows.alloc _ _)) (by rw [ha]; exact HG1B.out)))
      | ((with_reducible refine wpListIn_store_pgrow WideF.wide ?_ (.tmp 7) (.tmp 20) ?_ (w1.heap.size + 1) p0 VdM.blank ?_ ?_ ?_ ?_ ?_ ?_); exact rfl; exact rfl; exact rfl; exact rfl; exact z1.out; exact blank_len; exact (by have h := Row.new (w1.alloc (.cells #[.int .i64 0] 31)) 28 (pgA VdM.blank); rwa [World.size_alloc] at h); intro W3 hp3 hg3; have P3 := Lib.hid hp3; have HB3 := Lib.hid (((HG1.out.trans (Grows.alloc _ (.cells #[.int .i64 0] 31))).trans (Grows.alloc _ (.cells (pgA VdM.blank) 28))).grown hg3 (by have := HG1.out.size; simp; omega) (fun k e => by cases e; have := HG1.out.size; omega)); have T1 := Lib.hid (((S1.out.alloc (.cells #[.int .i64 0] 31)).alloc (.cells (pgA VdM.blank) 28)).grown hg3 (by have := HL.out; simp; omega)); have T2 := Lib.hid (((S2.out.alloc (.cells #[.int .i64 0] 31)).alloc (.cells (pgA VdM.blank) 28)).grown hg3 (by have := HL.out; simp; omega)); have T3 := Lib.hid (((S3.out.alloc (.cells #[.int .i64 0] 31)).alloc (.cells (pgA VdM.blank) 28)).grown hg3 (by have := HL.out; simp; omega)); have TE := Lib.hid (((Row.new w1 31 #[.int .i64 0]).alloc (.cells (pgA VdM.blank) 28)).grown hg3 (by simp)); have HL3 := Lib.hid P3.out.lt; have b1 := (T1.out.cell 1).trans Ds.out.2.2.1; have b2 := (T1.out.cell 2).trans Ds.out.2.2.2; have bm := T2.out.cell 0; clear hp3 hg3)
      | (refine ⟨trivial, ?_⟩; gi_at_call 30; refine (callsIn_wide.2 (contains_is _ bs _ _ _ (HBd.out.below HB3.out) HTB.out)).mono ?_; rintro e w6 ⟨rfl, rfl⟩))
    obtain ⟨pR, eR, ZR⟩ : ∃ pR eR, Hid (pR.length = 256 ∧ Row w6 w1.heap.size 31 #[.int .i64 eR] ∧ Row w6 (w1.heap.size + 1) 28 (pgA pR) ∧ (VdM.lastW cs m = none → VdM.readP ⟨ps, cs, bs, off⟩ m = pR ∧ VdM.readE ⟨ps, cs, bs, off⟩ m = eR)) :=
      ⟨p0, 0, z1.out, TE.out, P3.out, fun h => ⟨by rw [HP0.out, h]; rfl, by rw [HE0.out, h]; rfl⟩⟩
  rotate_left
  focus
    gi_wp2_with (first
      | ((with_reducible refine wpListIn_load_dk ?_ (.tmp 2) ?_ w.heap.size D ?_ ?_ ?_ ?_); exact rfl; exact rfl; exact rfl; exact R1.out; exact Ds.out.1)
      | (refine ⟨trivial, ?_⟩; gi_at_call 29; refine (callsIn_wide.2 HAt.out).mono ?_; rintro e w1 ⟨rfl, k1⟩; have HG1 := Lib.hid (HG.out.trans k1); have S1 := Lib.hid (Row.grows R1.out k1); have S2 := Lib.hid (Row.grows R2.out k1); have S3 := Lib.hid (Row.grows R3.out k1); have HL := Lib.hid S3.out.lt; have b0 := ((S1.out.alloc (.cells #[.int .i64 0] 31)).cell 0).trans Ds.out.2.1; have bn := (S2.out.alloc (.cells #[.int .i64 0] 31)).cell 0; clear k1)
      | ((with_reducible refine wpListIn_load_pg WideF.wide ?_ (.tmp 19) ?_ g1 (o1 + m * 256) p0 ?_ ?_ ?_ ?_); exact rfl; exact rfl; exact rfl; exact z1.out; exact rangeAt_keep y1.out (fun a ha => Below.cell (HG1.out.trans (Grows.alloc _ _)) (by rw [ha]; exact HG1B.out)))
      | ((with_reducible refine wpListIn_store_pgrow WideF.wide ?_ (.tmp 7) (.tmp 20) ?_ (w1.heap.size + 1) p0 VdM.blank ?_ ?_ ?_ ?_ ?_ ?_); exact rfl; exact rfl; exact rfl; exact rfl; exact z1.out; exact blank_len; exact (by have h := Row.new (w1.alloc (.cells #[.int .i64 0] 31)) 28 (pgA VdM.blank); rwa [World.size_alloc] at h); intro W3 hp3 hg3; have P3a := Lib.hid hp3; have HB3a := Lib.hid (((HG1.out.trans (Grows.alloc _ (.cells #[.int .i64 0] 31))).trans (Grows.alloc _ (.cells (pgA VdM.blank) 28))).grown hg3 (by have := HG1.out.size; simp; omega) (fun k e => by cases e; have := HG1.out.size; omega)); have T1a := Lib.hid (((S1.out.alloc (.cells #[.int .i64 0] 31)).alloc (.cells (pgA VdM.blank) 28)).grown hg3 (by have := HL.out; simp; omega)); have T2a := Lib.hid (((S2.out.alloc (.cells #[.int .i64 0] 31)).alloc (.cells (pgA VdM.blank) 28)).grown hg3 (by have := HL.out; simp; omega)); have T3a := Lib.hid (((S3.out.alloc (.cells #[.int .i64 0] 31)).alloc (.cells (pgA VdM.blank) 28)).grown hg3 (by have := HL.out; simp; omega)); have TEa := Lib.hid (((Row.new w1 31 #[.int .i64 0]).alloc (.cells (pgA VdM.blank) 28)).grown hg3 (by simp)); have HL3a := Lib.hid P3a.out.lt; have b2 := (T1a.out.cell 2).trans Ds.out.2.2.2; have bm := T2a.out.cell 0; clear hp3 hg3)
      | (refine ⟨trivial, ?_⟩; gi_at_call 30; refine (callsIn_wide.2 (contains_is _ bs _ _ _ (HBd.out.below HB3a.out) HTB.out)).mono ?_; rintro e w4 ⟨rfl, rfl⟩)
      | ((with_reducible refine wpListIn_build_pg WideF.wide ?_ ?_ ?_); exact rfl; exact rfl)
      | ((with_reducible refine wpListIn_store_pgrow WideF.wide ?_ (.tmp 7) (.tmp 25) ?_ (w1.heap.size + 1) VdM.blank p0 ?_ ?_ ?_ ?_ ?_ ?_); exact rfl; exact rfl; exact rfl; exact rfl; exact blank_len; exact z1.out; exact P3a.out; intro W5 hp5 hg5; have P5 := Lib.hid hp5; have HB5 := Lib.hid (HB3a.out.grown hg5 HB3a.out.size (fun k e => by cases e; have := HG1.out.size; omega)); have X1 := Lib.hid (T1a.out.grown hg5 (by have := HL.out; simp; omega)); have X2 := Lib.hid (T2a.out.grown hg5 (by have := HL.out; simp; omega)); have X3 := Lib.hid (T3a.out.grown hg5 (by have := HL.out; simp; omega)); have XE := Lib.hid (TEa.out.grown hg5 (by simp)); clear hp5 hg5)
      | ((with_reducible refine wpListIn_store_errno WideF.wide ?_ (.tmp 6) (.const (.int .i64 31)) ?_ w1.heap.size 31 0 ?_ ?_ ?_ ?_); exact rfl; exact rfl; exact rfl; exact rfl; exact XE.out; intro w6 hp6 hg6; have TE := Lib.hid hp6; have P3 := Lib.hid (P5.out.grown hg6 (by simp)); have HB3 := Lib.hid (HB5.out.grown hg6 HB5.out.size (fun k e => by cases e; exact HG1.out.size)); have T1 := Lib.hid (X1.out.grown hg6 (by have := HL.out; simp; omega)); have T2 := Lib.hid (X2.out.grown hg6 (by have := HL.out; simp; omega)); have T3 := Lib.hid (X3.out.grown hg6 (by have := HL.out; simp; omega)); have HL3 := Lib.hid P3.out.lt; have b1 := (T1.out.cell 1).trans Ds.out.2.2.1; clear hp6 hg6))
    obtain ⟨pR, eR, ZR⟩ : ∃ pR eR, Hid (pR.length = 256 ∧ Row w6 w1.heap.size 31 #[.int .i64 eR] ∧ Row w6 (w1.heap.size + 1) 28 (pgA pR) ∧ (VdM.lastW cs m = none → VdM.readP ⟨ps, cs, bs, off⟩ m = pR ∧ VdM.readE ⟨ps, cs, bs, off⟩ m = eR)) :=
      ⟨VdM.blank, 31, blank_len, TE.out, P3.out, fun h => ⟨by rw [HP0.out, h]; rfl, by rw [HE0.out, h]; rfl⟩⟩
  all_goals
    refine wpIn_label ?_
    gi_wp2_with (first
      | (refine ⟨trivial, ?_⟩; gi_at_call 31; refine (callsIn_wide.2 (fromLast_any _ _ _ _ _ rfl)).mono ?_; rintro e w5 ⟨rfl, rfl⟩))
    rename_i Q1 K aK
    have aK := Lib.hid aK
    have BS := Lib.hid (Row.new w6 23 #[.slice C cs.length cup])
    have HS7 : Hid ((w6.alloc (.cells #[.slice C cs.length cup] 23)).heap.size = w6.heap.size + 1) := World.size_alloc _ _
    have HB7 := Lib.hid ((show Grows w w6 from HB3.out).trans (Grows.alloc _ (.cells #[.slice C cs.length cup] 23)))
    have U2 := Lib.hid (T2.out.alloc (.cells #[.slice C cs.length cup] 23))
    have U3 := Lib.hid (T3.out.alloc (.cells #[.slice C cs.length cup] 23))
    have UE := Lib.hid (ZR.out.2.1.alloc (.cells #[.slice C cs.length cup] 23))
    have UP := Lib.hid (ZR.out.2.2.1.alloc (.cells #[.slice C cs.length cup] 23))
    have HPR := Lib.hid ZR.out.1
    have HZ := Lib.hid ZR.out.2.2.2
    generalize hW7 : w6.alloc (.cells #[.slice C cs.length cup] 23) = w7 at *
    clear hW7 TE P3 T1 T2 T3 ZR b1
    refine wpIn_rangeFunc_ownG rfl h1n (gf := 43) (lb := #[.pointer (some ⟨w6.heap.size, 0, none⟩)]) rfl trivial (enters_of Try.func43 (by kernel_rfl) rfl)
      (fromLast_stops (nn - 1) (by omega) w6.heap.size C cs.length cup g o HAC.out r1 R2M.out w7 (by rw [HS7.out]; omega) (BS.out.cell 0)) KeptAt.t (KeptAt.b (by rw [HS7.out]; omega)) (Below.refl _ _) (fun _ => rfl)
      (InvR w w1 w6.heap.size (.slice C cs.length cup) cs m eR pR) (LeftR w w1 cs m) ?own ?ownx ?start ?_ ?assign ?body ?done ?stop
    case assign =>
      intro l y W K hK
      gi_wp2
      exact hK
    case own => exact OwnFrom.and (ownFrom_pure _ _) (OwnFrom.and (Own.from (row_stays _ _ _) _) (OwnFrom.and (Own.from (row_stays _ _ _) _) (OwnFrom.and (Own.from (row_stays _ _ _) _) (OwnFrom.and (Own.from (row_stays _ _ _) _) (OwnFrom.and (Own.from (row_stays _ _ _) _) (ownFrom_below (Nat.le_refl _) HB7.out.size))))))
    case ownx =>
      intro c s X Y row hs hg hr
      obtain ⟨ini, last, h1, h2, h3, h4, h5⟩ := hs
      exact ⟨ini, last, h1, row_stays _ _ _ () X Y row h2 hg (fun r e => (hr r e).2), row_stays _ _ _ () X Y row h3 hg (fun r e => (hr r e).2), row_stays _ _ _ () X Y row h4 hg (fun r e => (hr r e).2), ownFrom_below (n₀ := w.heap.size) (B := w7.heap.size) (Nat.le_refl _) HB7.out.size () X Y row h5 hg hr⟩
    case start => exact ⟨fun j hj => by simp at hj, U2.out, U3.out, UE.out, UP.out, BS.out, HB7.out⟩
    case body =>
      rintro l pre y W ⟨hok, hi, hr3, hre, hrp, hrb, hB⟩ hlt2
      have e1 : cs[y.val]? = some cs[y.val] := List.getElem?_eq_getElem y.isLt
      obtain ⟨hgl, hrx⟩ := HGO.out _ _ e1
      have hrx2 := rangeAt_keep hrx (fun a ha => Below.cell hB (by rw [ha]; exact hgl))
      have HGL : Hid (g < W.heap.size) := Nat.lt_of_lt_of_le hgl hB.size
      have HXL : Hid (cs[y.val].2.length = 256) := by have := HCl.out _ (List.mem_of_getElem? e1); rw [writeE_len] at this; exact Nat.succ.inj this
      have YD := Lib.hid (range_data hrx2)
      have c0 : W.cell? ⟨g, o + y.val * 257, none⟩ = some (.int .i64 cs[y.val].1) := by simpa using hrx2 0 _ rfl
      have cn := hi.cell 0
      have HOk := Lib.hid hok; have HI := Lib.hid hi; have HR3 := Lib.hid hr3; have HRE := Lib.hid hre; have HRP := Lib.hid hrp; have HRB := Lib.hid hrb; have HB := Lib.hid hB
      clear hok hi hr3 hre hrp hrb hB hrx hrx2 e1 hgl
      obtain ⟨x, hx⟩ : ∃ x, x = cs[y.val] := ⟨_, rfl⟩
      have HX := Lib.hid hx
      rw [← hx] at c0 YD HXL
      clear hx
      unfold wrAt
      obtain ⟨t, ht⟩ : ∃ t : Bool, t = (x.1 == (m : Int)) := ⟨_, rfl⟩
      have HT := Lib.hid ht
      clear ht
      gi_wp2
      refine wpIn_region_free (WideF.round _) 6 42 (by kernel_rfl) (by kernel_rfl) (by kernel_rfl) rfl (by kernel_rfl) ?_; simp only [List.take_succ_cons, List.take_zero, List.drop_succ_cons, List.drop_zero]
      repeat (apply free_pure rfl; focus (intro vs w hg hd; have q0 := hg.cell c0; have q1 := hg.cell cn; (try simp [Region.binds] at hd); simp only [execOp, resolve, Option.map_some, Option.map_none, List.map_toArray, List.map_cons, List.map_nil, rho_const, rho_func]; (repeat (conv in rho _ _ _ _ (Operand.tmp _) => whnf)); (try simp only [hd]); go_simp; (repeat (conv in rho _ _ _ _ (Operand.tmp _) => whnf)); (try simp only [hd]); rfl))
      intro vs w' hg hv; have h5 := hv 5 (by omega); simp at h5; simp only [putL, dstAt, List.range, List.range.loop, if_true, List.getElem?_toArray, List.getElem?_cons_zero, List.getElem?_cons_succ, Option.bind_some, Act.put, List.setIfInBounds_toArray, List.set_cons_zero, List.set_cons_succ]
      rw [← HT.out] at h5
      rw [h5]
      have hgW : Grows W w' := Grows.of_drew hg
      have HI' := Lib.hid (Row.grows HI.out hgW); have HR3' := Lib.hid (Row.grows HR3.out hgW); have HRE' := Lib.hid (Row.grows HRE.out hgW); have HRP' := Lib.hid (Row.grows HRP.out hgW); have HRB' := Lib.hid (Row.grows HRB.out hgW)
      have YD' := Lib.hid (range_grows YD.out hgW)
      have HB' := Lib.hid (HB.out.trans (Below.mono hgW HB.out.size))
      have HKO := Lib.hid (others_of_grows hgW)
      clear hv h5 hg c0 cn
      generalize vs 0 = z0, vs 1 = z1, vs 2 = z2, vs 3 = z3, vs 4 = z4, vs 5 = z5 at *
      cases t
      · gi_wp2
        refine ⟨HKO.out.from _, KeptAt.rows HRB.out HRB'.out, fun j hj => ?_, HI'.out, HR3'.out, HRE'.out, HRP'.out, HRB'.out, HB'.out⟩
        rcases List.mem_append.1 hj with hj | hj
        · exact HOk.out j hj
        · rw [List.mem_singleton.1 hj, ← HX.out]
          simpa using HT.out.symm
      · gi_wp2_with (first
          | ((with_reducible refine wpListIn_load_pg (WideF.round _) ?_ (.tmp 38) ?_ g (o + y.val * 257 + 1) x.2 ?_ ?_ ?_ ?_); exact rfl; exact rfl; exact rfl; exact HXL.out; exact YD'.out)
          | ((with_reducible refine wpListIn_store_pgrow (WideF.round _) ?_ (.tmp 7) (.tmp 39) ?_ (w1.heap.size + 1) x.2 pR ?_ ?_ ?_ ?_ ?_ ?_); exact rfl; exact rfl; exact rfl; exact rfl; exact HXL.out; exact HPR.out; exact HRP'.out; intro W5 hp5 hg5; have P5 := Lib.hid hp5; have HB5 := Lib.hid (HB'.out.grown hg5 HB'.out.size (fun k e => by cases e; have := HL.out; omega)); have X3 := Lib.hid (HR3'.out.grown hg5 (by have := HL.out; simp; omega)); have XE := Lib.hid (HRE'.out.grown hg5 (by simp)); have G5 := Lib.hid (KeepsFrom.of_grownBy (B := w7.heap.size) hg5 (fun j e => by cases e; have := HL3.out; have := HS7.out; omega)); clear hp5 hg5)
          | ((with_reducible refine wpListIn_store_errno (WideF.round _) ?_ (.tmp 6) (.const (.int .i64 0)) ?_ w1.heap.size 0 eR ?_ ?_ ?_ ?_); exact rfl; exact rfl; exact rfl; exact rfl; exact XE.out; intro W6 hp6 hg6; have P6 := Lib.hid hp6; have PP := Lib.hid (P5.out.grown hg6 (by simp)); have HB6 := Lib.hid (HB5.out.grown hg6 HB5.out.size (fun k e => by cases e; have := HL.out; omega)); have X36 := Lib.hid (X3.out.grown hg6 (by have := HL.out; simp; omega)); have G6 := Lib.hid (KeepsFrom.of_grownBy (B := w7.heap.size) hg6 (fun j e => by cases e; have := HL3.out; have := HS7.out; omega)); clear hp6 hg6))
        refine ⟨((HKO.out.from _).trans G5.out).trans G6.out, pre, y, ⟨rfl, rfl, ?_, HOk.out⟩, X36.out, P6.out, ?_, HB6.out⟩
        · rw [← HX.out]; simpa using HT.out.symm
        · rw [← HX.out]; exact PP.out
    case done =>
      rintro D0 ys W hD rfl ⟨hok, hi, hr3, hre, hrp, hrb, hB⟩ hK
      have HPE := Lib.hid (HZ.out (lastW_all hok))
      have HPF := Lib.hid HPR.out
      clear hok hi hrb
      have hGR := Writes.rel (g := w.heap.size + 1 + 1) (t := 28) (new := pgA pR) (n := 256)
      have hN6 : w1.heap.size ≠ w.heap.size + 1 + 1 := by have := HL.out; omega
      have hN7 : w1.heap.size + 1 ≠ w.heap.size + 1 + 1 := by have := HL.out; omega
      have f6 : ∀ w', Writes (w.heap.size + 1 + 1) 28 (pgA pR) 256 W.drew w' → w'.cell? ⟨w1.heap.size, 0, none⟩ = some (.int .i64 eR) := fun w' h => h.cell (hre.cell 0) hN6
      have HRP := Lib.hid hrp; have HR3 := Lib.hid hr3; have HB := Lib.hid hB; have HK := Lib.hid hK; have HD := Lib.hid hD
      clear hre hrp hr3 hB hK hD
      refine aK.out _ _ ?_
      clear aK
      gi_wp2
      refine wpIn_region_freeG hGR WideF.wide 3 42 (by kernel_rfl) (by kernel_rfl) (by kernel_rfl) rfl (by kernel_rfl) ?_; simp only [List.take_succ_cons, List.take_zero, List.drop_succ_cons, List.drop_zero]
      refine free_opG (fun v_ _ => v_ = .agg (pgA pR)) rfl (fun _ _ _ h _ => h) (fun vs wq hg hd => by
        (try simp [Region.binds] at hd)
        refine dk_load 28 (.tmp 7) ⟨w1.heap.size + 1, 0, none⟩ _ rfl ?_ (pg_run_load_row HPF.out (hg.row (w := W.drew) HRP.out hN7)) ⟨Writes.rel.refl _, rfl⟩
        (conv in rho _ _ _ _ (Operand.tmp _) => whnf)) ?_
      repeat (apply free_pureG hGR rfl; focus (intro vs w hg hd; have q0 := f6 _ hg; (try simp [Region.binds] at hd); simp only [execOp, resolve, Option.map_some, Option.map_none, List.map_toArray, List.map_cons, List.map_nil, rho_const, rho_func]; (repeat (conv in rho _ _ _ _ (Operand.tmp _) => whnf)); (try simp only [hd]); go_simp; (repeat (conv in rho _ _ _ _ (Operand.tmp _) => whnf)); (try simp only [hd]); rfl))
      refine free_opG (fun v_ w_ => Row w_ (w.heap.size + 1 + 1) 28 (pgA pR)) rfl (fun _ _ _ h k => k.2.1 h) (fun vs wq hg hd => by
        simp [Region.binds] at hd
        obtain ⟨old, ho1, ho2⟩ := hg.2.2 ⟨pgA VdM.blank, by rw [pgA_size, blank_len], HR3.out⟩
        refine does_store_row 28 (.tmp 4) (.tmp 40) rfl (w.heap.size + 1 + 1) (pgA pR) ?_ ?_ old _ ho2 (by rw [pgA_size, HPF.out]; exact pg_info) (by rw [ho1, pgA_size, HPF.out]) (pgA_one _) fun w' r1 r2 => ⟨Writes.of_write r2 r1 (by rw [pgA_size, HPF.out]), r1⟩
        · (conv in rho _ _ _ _ (Operand.tmp _) => whnf)
        · (conv in rho _ _ _ _ (Operand.tmp _) => whnf)
          simp [hd]) ?_
      intro vs w' hg hv; have h1 := hv 1 (by omega); simp at h1; have h2 := hv 2 (by omega); simp at h2; simp only [putL, dstAt, List.range, List.range.loop, if_true, List.getElem?_toArray, List.getElem?_cons_zero, List.getElem?_cons_succ, Option.bind_some, Act.put, List.setIfInBounds_toArray, List.set_cons_zero, List.set_cons_succ]
      have hgW : Grows w w' := HB.out.drew.grown hg.1 HB.out.size (fun k e => by cases e; omega)
      have hK2 : w'.heap[D0]? = some (.deferred (some [])) := (hg.1.block D0 (Array.getElem?_eq_some_iff.1 HK.out).1 (by have := HD.out; have := HS7.out; have := HL3.out; have := HL.out; simp; omega)).trans HK.out
      rw [h1]
      have hR2 := h2
      clear hv h1 h2 hg f6 hGR
      generalize vs 0 = z0, vs 1 = z1, vs 2 = z2 at *
      gi_wp2
      refine ⟨by simp, .inl ⟨_, _, rfl, run_takeDeferred hK2, ?_⟩⟩
      exact ⟨_, results_pg_two (p := 4) (q := 5) (by exact rfl) _ (.int .i64 eR) (by exact rfl) (by exact rfl) HPF.out (hR2.kept_put hK2 _), by rw [HPE.out.1, HPE.out.2], Below.trans hgW (Grows.put_mark hgW hK2 (by have := HD.out; have := HB7.out.size; omega))⟩
    case stop =>
      rintro D0 c pre W hD hpre ⟨ini, last, ⟨rfl, rfl, hl, hne⟩, hr3, hre, hrp, hB⟩ hK
      have hlw := lastW_left hpre hl hne
      have HPE : Hid (VdM.readP ⟨ps, cs, bs, off⟩ m = (cs[last.val]).2 ∧ VdM.readE ⟨ps, cs, bs, off⟩ m = 0) := ⟨by rw [HP0.out, hlw], by rw [HE0.out, hlw]⟩
      have HPF : Hid ((cs[last.val]).2.length = 256) := by have := HCl.out _ (List.getElem_mem last.isLt); rw [writeE_len] at this; exact Nat.succ.inj this
      generalize (cs[last.val]).2 = pF at *
      clear hpre hl hne hlw
      refine wpIn_exit ?_
      have hGR := Writes.rel (g := w.heap.size + 1 + 1) (t := 28) (new := pgA pF) (n := 256)
      have hN6 : w1.heap.size ≠ w.heap.size + 1 + 1 := by have := HL.out; omega
      have hN7 : w1.heap.size + 1 ≠ w.heap.size + 1 + 1 := by have := HL.out; omega
      have f6 : ∀ w', Writes (w.heap.size + 1 + 1) 28 (pgA pF) 256 W.drew w' → w'.cell? ⟨w1.heap.size, 0, none⟩ = some (.int .i64 0) := fun w' h => h.cell (hre.cell 0) hN6
      have HRP := Lib.hid hrp; have HR3 := Lib.hid hr3; have HB := Lib.hid hB; have HK := Lib.hid hK; have HD := Lib.hid hD
      clear hre hrp hr3 hB hK hD
      refine aK.out _ _ ?_
      clear aK
      gi_wp2
      refine wpIn_region_freeG hGR WideF.wide 3 42 (by kernel_rfl) (by kernel_rfl) (by kernel_rfl) rfl (by kernel_rfl) ?_; simp only [List.take_succ_cons, List.take_zero, List.drop_succ_cons, List.drop_zero]
      refine free_opG (fun v_ _ => v_ = .agg (pgA pF)) rfl (fun _ _ _ h _ => h) (fun vs wq hg hd => by
        (try simp [Region.binds] at hd)
        refine dk_load 28 (.tmp 7) ⟨w1.heap.size + 1, 0, none⟩ _ rfl ?_ (pg_run_load_row HPF.out (hg.row (w := W.drew) HRP.out hN7)) ⟨Writes.rel.refl _, rfl⟩
        (conv in rho _ _ _ _ (Operand.tmp _) => whnf)) ?_
      repeat (apply free_pureG hGR rfl; focus (intro vs w hg hd; have q0 := f6 _ hg; (try simp [Region.binds] at hd); simp only [execOp, resolve, Option.map_some, Option.map_none, List.map_toArray, List.map_cons, List.map_nil, rho_const, rho_func]; (repeat (conv in rho _ _ _ _ (Operand.tmp _) => whnf)); (try simp only [hd]); go_simp; (repeat (conv in rho _ _ _ _ (Operand.tmp _) => whnf)); (try simp only [hd]); rfl))
      refine free_opG (fun v_ w_ => Row w_ (w.heap.size + 1 + 1) 28 (pgA pF)) rfl (fun _ _ _ h k => k.2.1 h) (fun vs wq hg hd => by
        simp [Region.binds] at hd
        obtain ⟨old, ho1, ho2⟩ := hg.2.2 ⟨pgA VdM.blank, by rw [pgA_size, blank_len], HR3.out⟩
        refine does_store_row 28 (.tmp 4) (.tmp 40) rfl (w.heap.size + 1 + 1) (pgA pF) ?_ ?_ old _ ho2 (by rw [pgA_size, HPF.out]; exact pg_info) (by rw [ho1, pgA_size, HPF.out]) (pgA_one _) fun w' r1 r2 => ⟨Writes.of_write r2 r1 (by rw [pgA_size, HPF.out]), r1⟩
        · (conv in rho _ _ _ _ (Operand.tmp _) => whnf)
        · (conv in rho _ _ _ _ (Operand.tmp _) => whnf)
          simp [hd]) ?_
      intro vs w' hg hv; have h1 := hv 1 (by omega); simp at h1; have h2 := hv 2 (by omega); simp at h2; simp only [putL, dstAt, List.range, List.range.loop, if_true, List.getElem?_toArray, List.getElem?_cons_zero, List.getElem?_cons_succ, Option.bind_some, Act.put, List.setIfInBounds_toArray, List.set_cons_zero, List.set_cons_succ]
      have hgW : Grows w w' := HB.out.drew.grown hg.1 HB.out.size (fun k e => by cases e; omega)
      have hK2 : w'.heap[D0]? = some (.deferred (some [])) := (hg.1.block D0 (Array.getElem?_eq_some_iff.1 HK.out).1 (by have := HD.out; have := HS7.out; have := HL3.out; have := HL.out; simp; omega)).trans HK.out
      rw [h1]
      have hR2 := h2
      clear hv h1 h2 hg f6 hGR
      generalize vs 0 = z0, vs 1 = z1, vs 2 = z2 at *
      gi_wp2
      refine ⟨by simp, .inl ⟨_, _, rfl, run_takeDeferred hK2, ?_⟩⟩
      exact ⟨_, results_pg_two (p := 4) (q := 5) (by exact rfl) _ (.int .i64 0) (by exact rfl) (by exact rfl) HPF.out (hR2.kept_put hK2 _), by rw [HPE.out.1, HPE.out.2], Below.trans hgW (Grows.put_mark hgW hK2 (by have := HD.out; have := HB7.out.size; omega))⟩
theorem vread_any (v : Value) (d : Dk) (n : Int) (w : World) (hv : IsDisk w.heap.size w v d) :
    Calls Try.prog 12 #[v, .int .i64 n] w fun e w' => e = .returned (.tuple #[.agg (pgA (VdM.readP d n)), .int .i64 (VdM.readE d n)]) ∧ Grows w w' := callsIn_wide.1 (vread_in 4 (Nat.le_refl _) v d n w hv)
end Go.Proofs.Ytfcghkmhcfgfkaa
