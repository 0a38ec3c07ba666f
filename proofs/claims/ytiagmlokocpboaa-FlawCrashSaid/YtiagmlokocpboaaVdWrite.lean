/- VdWrite -/
import Derived.Test.YtiagmlokocpboaaVdRead
import Derived.Test.YtiagmlokocpboaaBaseB
/- The document's Write. -/
namespace Go.Proofs.Ytiagmlokocpboaa
open Go.RowKit
set_option linter.unusedVariables false
set_option linter.unusedSimpArgs false
/-- Rows of one's own of two element types lie in two blocks. -/
theorem own_other {α β : Type} {e e2 : TypeId} {s s2 : Nat} {f : α → List Value} {f2 : β → List Value} {base base2 : Nat} {w w' : World} {v v2 : Value} {l : List α} {l2 : List β} (h : Own' e s f base w v l) (h2 : Own' e2 s2 f2 base2 w v2 l2) (hne : e ≠ e2) (hg : w.grownBy w' v2.ownBlock) : Own' e s f base w' v l := by
  refine ⟨h.1, h.2.kept hg ?_⟩
  rcases h.2.2 with ⟨rfl, _⟩ | ⟨g, cap, cur, rfl, _, hh, _⟩
  · exact .inl rfl
  · refine .inr fun hb => ?_
    rcases h2.2.2 with ⟨rfl, _⟩ | ⟨g', cap', cur', rfl, _, hh', _⟩
    · cases hb
    · simp only [Value.ownBlock, Option.some.injEq] at hb
      subst hb
      rw [hh] at hh'
      injection hh' with hh'
      injection hh' with _ ht
      exact hne ht
theorem row_other {α : Type} {e t : TypeId} {s : Nat} {f : α → List Value} {base g : Nat} {w w' : World} {v : Value} {l : List α} {cs : Array Value} (h : Own' e s f base w v l) (hr : Row w g t cs) (hne : e ≠ t) (hg : w.grownBy w' v.ownBlock) : Row w' g t cs := by
  refine hr.grown hg fun hb => ?_
  rcases h.2.2 with ⟨rfl, _⟩ | ⟨g', cap', cur, rfl, _, hh, _⟩
  · cases hb
  · exact own_ne_row h.2 hr hne (by simpa [Value.ownBlock] using hb.symm)
theorem own_lt {α : Type} {e : TypeId} {s : Nat} {f : α → List Value} {base : Nat} {w : World} {v : Value} {l : List α} (h : Own' e s f base w v l) : ∀ k, v.ownBlock = some k → base ≤ k ∧ k < w.heap.size := World.ownsRow.lt h.2
theorem results_dk_two {fn : Func} {p q : Tmp} {w : World} {g : Nat} {D : Array Value} (h : fn.results = #[.cell p 26, .tmp q]) (tmps : Array Value) (v : Value) (hp : tmps.getD p undef = .pointer (some ⟨g, 0, none⟩)) (hq : tmps.getD q undef = v) (h4 : D.size = 4) (hr : Row w g 26 D) :
    (results fn tmps).run Try.prog w = .ok (.tuple #[.agg D, v]) w := by
  have hp' : tmps[p]?.getD undef = .pointer (some ⟨g, 0, none⟩) := by simpa using hp
  have hq' : tmps[q]?.getD undef = v := by simpa using hq
  have hload : (loadVar 26 ⟨g, 0, none⟩).run Try.prog w = .ok (.agg D) w :=
    run_loadVar_row w g 26 26 D (0, 0) _ hr Try.underlying26 rfl (by rw [h4]; exact disk_info)
  simp [results, h, hp', hq', asAddr, hload]
/-- A disk's four cells, each of them one cell. -/
theorem dk_one {B : Nat} {W : World} {D : Array Value} {d : Dk} (h : IsDisk B W (.agg D) d) : D.size = 4 ∧ D.all (·.oneCell') = true := by
  obtain ⟨pv, cv, bv, h0, h1, h2, h3⟩ := h
  obtain ⟨A, cap, rfl, _⟩ := h1.form
  obtain ⟨A', cap', rfl, _⟩ := h2.form
  obtain ⟨A'', cap'', rfl, _⟩ := h3.form
  simp only [Value.agg.injEq] at h0
  subst h0
  exact ⟨rfl, by simp [Value.oneCell']⟩
theorem setCell_grown (W : World) (b i : Nat) (v : Value) : W.grownBy (W.setCell ⟨b, i, none⟩ v) (some b) :=
  ⟨rfl, rfl, rfl, by rw [World.size_setCell]; exact Nat.le_refl _, fun k _ hk => Below.heap_setCell _ _ _ k (fun e => hk (by rw [e]))⟩
def noDk : Array Value := #[.slice none 0 0, .slice none 0 0, .slice none 0 0, .bool false]
section
variable {w : World} {ops : Array Oper} {rest : List Oper} {o : Oper} {a : Act} {Q : Exit → Act → World → Prop}
theorem wpList_store_dk (hgd : o.guard = none) (x y : Operand) (ho : o.op = .store 26 x y) (g : Nat) (D old : Array Value) (hx : a.eval x = .pointer (some ⟨g, 0, none⟩)) (hy : a.eval y = .agg D) (h4 : D.size = 4) (h4' : old.size = 4) (h1 : D.all (·.oneCell') = true) (hr : Row w g 26 old)
    (h : ∀ w', Row w' g 26 D → w.grownBy w' (some g) → wpList Try.prog ops Q rest (a.put o.dst undef) w') : wpList Try.prog ops Q (o :: rest) a w :=
  wpList_store_row hgd 26 x y ho g D hx hy 26 old hr (by rw [h4]; exact disk_info) (by rw [h4, h4']) h1
    (h _ (hr.setRow _) (setRow_grown _ _ _))
theorem wpList_load_pgrow (hgd : o.guard = none) (x : Operand) (ho : o.op = .load 40 x) (g : Nat) (p : Pg) (hx : a.eval x = .pointer (some ⟨g, 0, none⟩)) (hl : p.length = 256) (hr : Row w g 40 (pgA p))
    (h : wpList Try.prog ops Q rest (a.put o.dst (.agg (pgA p))) w) : wpList Try.prog ops Q (o :: rest) a w :=
  wpList_load_row hgd 40 x ho g hx 40 (pgA p) (0, 0) _ hr Try.underlying40 rfl (by rw [pgA_size, hl]; exact pg_info) h
end
section
variable {w : World} {ops : Array Oper} {rest : List Oper} {o : Oper} {a : Act} {Q : Exit → Act → World → Prop}
theorem wpList_build_wr (hgd : o.guard = none) (x y : Operand) (ho : o.op = .build 42 #[(0, x), (1, y)]) (n : Int) (p : Pg) (hx : a.eval x = .int .i64 n) (hy : a.eval y = .agg (pgA p)) (hl : p.length = 256)
    (h : wpList Try.prog ops Q rest (a.put o.dst (.agg (wrA (n, p)))) w) : wpList Try.prog ops Q (o :: rest) a w := by
  refine wpList_plain hgd fun K hK => ?_
  have e : Try.prog.built 42 ((#[(0, x), (1, y)] : Array (Nat × Operand)).map fun (i, x) => (i, a.eval x)).toList = some (wrA (n, p)) := by
    simp only [List.map_toArray, List.map_cons, List.map_nil, hx, hy]
    exact built_write n p hl
  refine wp_build 42 _ ho (by rw [e]; rfl) ?_
  rw [e]
  exact hK _ _ h
theorem wpList_slice_wr (hgd : o.guard = none) (x : Operand) (ho : o.op = .buildSlice 23 1 #[(0, x)]) (q : Int × Pg) (hx : a.eval x = .agg (wrA q)) (hl : q.2.length = 256)
    (h : wpList Try.prog ops Q rest (a.put o.dst (.slice (some ⟨w.heap.size, 0, none⟩) 1 1)) (w.alloc (.cells (wrA q) 42))) : wpList Try.prog ops Q (o :: rest) a w :=
  Great.wpList_buildSliceTo hgd 23 42 1 _ ho w.heap.size rfl o.dst rfl Try.underlying23 (wrA q) (by simp only [List.map_toArray, List.map_cons, List.map_nil, hx]; exact builtSlice_write q hl) h
end
theorem els_one (W : World) (q : Int × Pg) (hl : q.2.length = 256) : Els 257 writeE (W.heap.size + 1) (W.alloc (.cells (wrA q) 42)) (.slice (some ⟨W.heap.size, 0, none⟩) 1 1) [q] := by
  refine ⟨fun x hx => ?_, _, 1, rfl, Nat.le_refl _, by decide, fun _ => ⟨W.heap.size, 0, rfl, Nat.lt_succ_self _, fun j u hu => ?_⟩⟩
  · rw [List.mem_singleton.1 hx, writeE_len, hl]
  · rw [Nat.zero_add, (Row.new W 42 (wrA q)).cell]
    simpa [wrA] using hu
set_option maxRecDepth 20000 in
set_option maxHeartbeats 4000000 in
theorem rwrite_any (v : Value) (d : Dk) (n : Int) (p : Pg) (w : World) (hp : p.length = 256) (hv : IsDisk w.heap.size w v d) (l1 : d.pages.length ≤ 1000000) (l2 : d.cache.length ≤ 1000000) (l3 : d.bad.length ≤ 1000000) :
    Calls Try.prog 25 #[v, .int .i64 n, .agg (pgA p)] w fun e w' => ∃ r, e = .returned (.tuple #[r, .int .i64 (VdM.writeErr d n)]) ∧ OwnDisk w.heap.size w' r (VdM.writeD d n p) ∧ Grows w w' := by
  have HV := Lib.hid hv; have HPl := Lib.hid hp; have L1 := Lib.hid l1; have L2 := Lib.hid l2; have L3 := Lib.hid l3
  obtain ⟨pv, cv, bv, rfl, _, hc, _⟩ := hv
  obtain ⟨C, cup, rfl, r1, r2, _⟩ := hc.form
  clear hc hp l1 l3
  unfold maxLen at r2
  have HE : Hid (VdM.writeErr d n = if VdM.atE d n = 0 ∧ d.cache.length = 2000 then 32 else VdM.atE d n) := rfl
  have HD : Hid (VdM.writeD d n p = if VdM.writeErr d n = 0 then { d with cache := d.cache ++ [(n, p)] } else d) := rfl
  have HA := Lib.hid (fun W h => rat_any (.agg #[pv, .slice C d.cache.length cup, bv, .bool d.off]) d n W h)
  have HC := Lib.hid (fun W h => rcopy_any (.agg #[pv, .slice C d.cache.length cup, bv, .bool d.off]) d W h L1.out L2.out L3.out)
  obtain ⟨D, hD⟩ : ∃ D, D = #[pv, .slice C d.cache.length cup, bv, .bool d.off] := ⟨_, rfl⟩
  have Ds : Hid (D.size = 4 ∧ D[1]? = some (.slice C d.cache.length cup)) := by subst hD; exact ⟨rfl, rfl⟩
  rw [← hD] at HV HA HC ⊢
  clear hD
  generalize hm : d.cache.length = m at *
  have R1 := Lib.hid (((Row.new w 26 D).alloc (.cells (pgA p) 40)).alloc (.cells noDk 26))
  have R2 : Hid (Row (((w.alloc (.cells D 26)).alloc (.cells (pgA p) 40)).alloc (.cells noDk 26)) (w.heap.size + 1) 40 (pgA p)) := by
    have := (Row.new (w.alloc (.cells D 26)) 40 (pgA p)).alloc (.cells noDk 26)
    rwa [World.size_alloc] at this
  have R3 : Hid (Row (((w.alloc (.cells D 26)).alloc (.cells (pgA p) 40)).alloc (.cells noDk 26)) (w.heap.size + 1 + 1) 26 noDk) := by
    have := Row.new ((w.alloc (.cells D 26)).alloc (.cells (pgA p) 40)) 26 noDk
    rwa [World.size_alloc, World.size_alloc] at this
  have HG := Lib.hid (((Grows.alloc w (.cells D 26)).trans (Grows.alloc _ (.cells (pgA p) 40))).trans (Grows.alloc _ (.cells noDk 26)))
  have HAt := Lib.hid (HA.out _ (HV.out.grows HG.out))
  clear HA
  unfold noDk at R1 R2 R3 HG HAt
  by_cases h0 : VdM.writeErr d n = 0
  case neg =>
    have HDD := Lib.hid (HD.out.trans (if_neg h0))
    rw [HDD.out]
    clear HDD HD
    by_cases h1 : VdM.atE d n = 0 ∧ m = 2000
    · have HE1 := Lib.hid (HE.out.trans (if_pos h1))
      rw [h1.1] at HAt
      rw [HE1.out]
      have hm2 : (m : Int) = 2000 := by omega
      have hm3 := h1.2
      clear h0 h1 HE HE1
      go_enter Try.func25, Try.ntmps25
      go_wp2_with (first
        | ((with_reducible refine wpList_load_dk (o := ⟨some 10, _, _, _, _, _⟩) ?_ (.tmp 3) ?_ w.heap.size D ?_ ?_ ?_ ?_); exact rfl; exact rfl; exact rfl; exact R1.out; exact Ds.out.1)
        | (go_at_call 36; refine HAt.out.mono ?_; rintro e w1 ⟨rfl, g1⟩; have HG1 := Lib.hid (HG.out.trans g1); have S1 := Lib.hid (Row.grows R1.out g1); have S2 := Lib.hid (Row.grows R2.out g1); have S3 := Lib.hid (Row.grows R3.out g1); have c1 := ((Row.grows R1.out g1).cell 1).trans Ds.out.2; have HCc := Lib.hid (HC.out w1 (HV.out.grows (HG.out.trans g1))); clear g1)
        | ((with_reducible refine wpList_load_dk (o := ⟨some 21, _, _, _, _, _⟩) ?_ (.tmp 3) ?_ w.heap.size D ?_ ?_ ?_ ?_); exact rfl; exact rfl; exact rfl; exact S1.out; exact Ds.out.1)
        | (go_at_call 35; refine HCc.out.mono ?_; rintro e w2 ⟨r, rfl, hr, g2⟩; have HG2 := Lib.hid (HG1.out.trans g2); have T3 := Lib.hid (Row.grows S3.out g2); obtain ⟨pv2, cv2, bv2, rfl, o1, o2, o3⟩ := hr; have HO1 := Lib.hid (o1.more HG1.out.size); have HO2 := Lib.hid (o2.more HG1.out.size); have HO3 := Lib.hid (o3.more HG1.out.size); have H41 := Lib.hid (dk_one (d := d) ⟨pv2, cv2, bv2, rfl, o1.els, o2.els, o3.els⟩); clear o1 o2 o3 g2)
        | ((with_reducible refine wpList_store_dk ?_ (.tmp 9) (.tmp 22) ?_ w2.heap.size #[pv2, cv2, bv2, .bool d.off] #[.slice none 0 0, .slice none 0 0, .slice none 0 0, .bool false] ?_ ?_ ?_ ?_ ?_ ?_ ?_); exact rfl; exact rfl; exact rfl; exact rfl; exact rfl; exact rfl; exact H41.out.2; exact Row.new w2 _ _; intro w3 hw3 hg3; have V3 := Lib.hid hw3; have VT3 := Lib.hid ((T3.out.alloc _).grown hg3 (by have := T3.out.lt; simp; omega)); have W1 := Lib.hid ((HO1.out.grows (Grows.alloc _ _)).aside hg3 (Row.new w2 _ _) (by decide)); have W2 := Lib.hid ((HO2.out.grows (Grows.alloc _ _)).aside hg3 (Row.new w2 _ _) (by decide)); have W3 := Lib.hid ((HO3.out.grows (Grows.alloc _ _)).aside hg3 (Row.new w2 _ _) (by decide)); have HG3 := Lib.hid ((HG2.out.trans (Grows.alloc _ _)).grown hg3 (by have := HG2.out.size; simp; omega) (fun k e => by cases e; exact HG2.out.size)); clear hw3 hg3)
        | ((with_reducible refine wpList_load_dk (o := ⟨some 33, _, _, _, _, _⟩) ?_ (.tmp 9) ?_ w2.heap.size #[pv2, cv2, bv2, .bool d.off] ?_ ?_ ?_ ?_); exact rfl; exact rfl; exact rfl; exact V3.out; exact rfl)
        | ((with_reducible refine wpList_store_dk ?_ (.tmp 6) (.tmp 33) ?_ (w.heap.size + 1 + 1) #[pv2, cv2, bv2, .bool d.off] #[.slice none 0 0, .slice none 0 0, .slice none 0 0, .bool false] ?_ ?_ ?_ ?_ ?_ ?_ ?_); exact rfl; exact rfl; exact rfl; exact rfl; exact rfl; exact rfl; exact H41.out.2; exact VT3.out; intro w6 hw6 hg6))
      refine bodyPost_ret (results_dk_two (p := 6) (q := 7) (by exact rfl) _ (.int .i64 32) (by exact rfl) (by exact rfl) (by exact rfl) hw6) rfl ?_
      exact ⟨_, rfl, ⟨_, _, _, rfl, W1.out.aside hg6 VT3.out (by decide), W2.out.aside hg6 VT3.out (by decide), W3.out.aside hg6 VT3.out (by decide)⟩, HG3.out.grown hg6 HG3.out.size (fun k e => by cases e; omega)⟩
    · have HE1 := Lib.hid (HE.out.trans (if_neg h1))
      rw [HE1.out] at h0 ⊢
      clear h1 HE HE1
      generalize VdM.atE d n = e0 at *
      go_enter Try.func25, Try.ntmps25
      go_wp2_with (first
        | ((with_reducible refine wpList_load_dk (o := ⟨some 10, _, _, _, _, _⟩) ?_ (.tmp 3) ?_ w.heap.size D ?_ ?_ ?_ ?_); exact rfl; exact rfl; exact rfl; exact R1.out; exact Ds.out.1)
        | (go_at_call 36; refine HAt.out.mono ?_; rintro e w1 ⟨rfl, g1⟩; have HG1 := Lib.hid (HG.out.trans g1); have S1 := Lib.hid (Row.grows R1.out g1); have S2 := Lib.hid (Row.grows R2.out g1); have S3 := Lib.hid (Row.grows R3.out g1); have c1 := ((Row.grows R1.out g1).cell 1).trans Ds.out.2; have HCc := Lib.hid (HC.out w1 (HV.out.grows (HG.out.trans g1))); clear g1)
        | ((with_reducible refine wpList_load_dk (o := ⟨some 21, _, _, _, _, _⟩) ?_ (.tmp 3) ?_ w.heap.size D ?_ ?_ ?_ ?_); exact rfl; exact rfl; exact rfl; exact S1.out; exact Ds.out.1)
        | (go_at_call 35; refine HCc.out.mono ?_; rintro e w2 ⟨r, rfl, hr, g2⟩; have HG2 := Lib.hid (HG1.out.trans g2); have T3 := Lib.hid (Row.grows S3.out g2); obtain ⟨pv2, cv2, bv2, rfl, o1, o2, o3⟩ := hr; have HO1 := Lib.hid (o1.more HG1.out.size); have HO2 := Lib.hid (o2.more HG1.out.size); have HO3 := Lib.hid (o3.more HG1.out.size); have H41 := Lib.hid (dk_one (d := d) ⟨pv2, cv2, bv2, rfl, o1.els, o2.els, o3.els⟩); clear o1 o2 o3 g2)
        | ((with_reducible refine wpList_store_dk ?_ (.tmp 9) (.tmp 22) ?_ w2.heap.size #[pv2, cv2, bv2, .bool d.off] #[.slice none 0 0, .slice none 0 0, .slice none 0 0, .bool false] ?_ ?_ ?_ ?_ ?_ ?_ ?_); exact rfl; exact rfl; exact rfl; exact rfl; exact rfl; exact rfl; exact H41.out.2; exact Row.new w2 _ _; intro w3 hw3 hg3; have V3 := Lib.hid hw3; have VT3 := Lib.hid ((T3.out.alloc _).grown hg3 (by have := T3.out.lt; simp; omega)); have W1 := Lib.hid ((HO1.out.grows (Grows.alloc _ _)).aside hg3 (Row.new w2 _ _) (by decide)); have W2 := Lib.hid ((HO2.out.grows (Grows.alloc _ _)).aside hg3 (Row.new w2 _ _) (by decide)); have W3 := Lib.hid ((HO3.out.grows (Grows.alloc _ _)).aside hg3 (Row.new w2 _ _) (by decide)); have HG3 := Lib.hid ((HG2.out.trans (Grows.alloc _ _)).grown hg3 (by have := HG2.out.size; simp; omega) (fun k e => by cases e; exact HG2.out.size)); clear hw3 hg3)
        | ((with_reducible refine wpList_load_dk (o := ⟨some 33, _, _, _, _, _⟩) ?_ (.tmp 9) ?_ w2.heap.size #[pv2, cv2, bv2, .bool d.off] ?_ ?_ ?_ ?_); exact rfl; exact rfl; exact rfl; exact V3.out; exact rfl)
        | ((with_reducible refine wpList_store_dk ?_ (.tmp 6) (.tmp 33) ?_ (w.heap.size + 1 + 1) #[pv2, cv2, bv2, .bool d.off] #[.slice none 0 0, .slice none 0 0, .slice none 0 0, .bool false] ?_ ?_ ?_ ?_ ?_ ?_ ?_); exact rfl; exact rfl; exact rfl; exact rfl; exact rfl; exact rfl; exact H41.out.2; exact VT3.out; intro w6 hw6 hg6))
      refine bodyPost_ret (results_dk_two (p := 6) (q := 7) (by exact rfl) _ (.int .i64 e0) (by exact rfl) (by exact rfl) (by exact rfl) hw6) rfl ?_
      exact ⟨_, rfl, ⟨_, _, _, rfl, W1.out.aside hg6 VT3.out (by decide), W2.out.aside hg6 VT3.out (by decide), W3.out.aside hg6 VT3.out (by decide)⟩, HG3.out.grown hg6 HG3.out.size (fun k e => by cases e; omega)⟩
  have HDD := Lib.hid (HD.out.trans (if_pos h0))
  have hat : VdM.atE d n = 0 ∧ ¬ m = 2000 := by
    rw [HE.out] at h0
    split at h0
    · omega
    · rename_i hh; exact ⟨h0, fun h => hh ⟨h0, h⟩⟩
  obtain ⟨hat, hm2⟩ := hat
  have hm2' : ¬ (m : Int) = 2000 := by omega
  rw [hat] at HAt
  rw [h0, HDD.out]
  clear hat hm2 HE HD h0 HDD
  go_enter Try.func25, Try.ntmps25
  go_wp2_with (first
    | ((with_reducible refine wpList_load_dk (o := ⟨some 10, _, _, _, _, _⟩) ?_ (.tmp 3) ?_ w.heap.size D ?_ ?_ ?_ ?_); exact rfl; exact rfl; exact rfl; exact R1.out; exact Ds.out.1)
    | (go_at_call 36; refine HAt.out.mono ?_; rintro e w1 ⟨rfl, g1⟩; have HG1 := Lib.hid (HG.out.trans g1); have S1 := Lib.hid (Row.grows R1.out g1); have S2 := Lib.hid (Row.grows R2.out g1); have S3 := Lib.hid (Row.grows R3.out g1); have c1 := ((Row.grows R1.out g1).cell 1).trans Ds.out.2; have HCc := Lib.hid (HC.out w1 (HV.out.grows (HG.out.trans g1))); clear g1)
    | ((with_reducible refine wpList_load_dk (o := ⟨some 21, _, _, _, _, _⟩) ?_ (.tmp 3) ?_ w.heap.size D ?_ ?_ ?_ ?_); exact rfl; exact rfl; exact rfl; exact S1.out; exact Ds.out.1)
    | (go_at_call 35; refine HCc.out.mono ?_; rintro e w2 ⟨r, rfl, hr, g2⟩; have HG2 := Lib.hid (HG1.out.trans g2); have T2 := Lib.hid (Row.grows S2.out g2); have T3 := Lib.hid (Row.grows S3.out g2); obtain ⟨pv2, cv2, bv2, rfl, o1, o2, o3⟩ := hr; have HO1 := Lib.hid (o1.more HG1.out.size); have HO2 := Lib.hid (o2.more HG1.out.size); have HO3 := Lib.hid (o3.more HG1.out.size); have H41 := Lib.hid (dk_one (d := d) ⟨pv2, cv2, bv2, rfl, o1.els, o2.els, o3.els⟩); clear o1 o2 o3 g2)
    | ((with_reducible refine wpList_store_dk ?_ (.tmp 9) (.tmp 22) ?_ w2.heap.size #[pv2, cv2, bv2, .bool d.off] #[.slice none 0 0, .slice none 0 0, .slice none 0 0, .bool false] ?_ ?_ ?_ ?_ ?_ ?_ ?_); exact rfl; exact rfl; exact rfl; exact rfl; exact rfl; exact rfl; exact H41.out.2; exact Row.new w2 _ _; intro w3 hw3 hg3; have V3 := Lib.hid hw3; have d1 := hw3.cell 1; have f1 := hw3.frozen 1; have VT2 := Lib.hid ((T2.out.alloc _).grown hg3 (by have := T2.out.lt; simp; omega)); have VT3 := Lib.hid ((T3.out.alloc _).grown hg3 (by have := T3.out.lt; simp; omega)); have W1 := Lib.hid ((HO1.out.grows (Grows.alloc _ _)).aside hg3 (Row.new w2 _ _) (by decide)); have W2 := Lib.hid ((HO2.out.grows (Grows.alloc _ _)).aside hg3 (Row.new w2 _ _) (by decide)); have W3 := Lib.hid ((HO3.out.grows (Grows.alloc _ _)).aside hg3 (Row.new w2 _ _) (by decide)); have HG3 := Lib.hid ((HG2.out.trans (Grows.alloc _ _)).grown hg3 (by have := HG2.out.size; simp; omega) (fun k e => by cases e; exact HG2.out.size)); clear hw3 hg3)
    | ((with_reducible refine wpList_load_pgrow (o := ⟨some 28, _, _, _, _, _⟩) ?_ (.tmp 5) ?_ (w.heap.size + 1) p ?_ ?_ ?_ ?_); exact rfl; exact rfl; exact rfl; exact HPl.out; exact VT2.out)
    | ((with_reducible refine wpList_build_wr (o := ⟨some 29, _, _, _, _, _⟩) ?_ (.tmp 27) (.tmp 28) ?_ n p ?_ ?_ ?_ ?_); exact rfl; exact rfl; exact rfl; exact rfl; exact HPl.out)
    | ((with_reducible refine wpList_slice_wr (o := ⟨some 30, _, _, _, _, _⟩) ?_ (.tmp 29) ?_ (n, p) ?_ ?_ ?_); exact rfl; exact rfl; exact rfl; exact HPl.out)
    | (at_builtin; refine wpList_append_els elT_write writeE_one rfl (.tmp 26) (.tmp 30) rfl w.heap.size (w3.heap.size + 1) d.cache [(n, p)] (by exact (W2.out.grows (Grows.alloc _ _))) (by exact els_one w3 (n, p) HPl.out) ?_ ?_ ?_ ?_; (have := L2.out; unfold maxLen; simp; omega); (have := L2.out; simp; omega); (have := HG3.out.size; simp; omega); intro v4 w4 h4 hg4 hb4; have hg4' : (w3.alloc (.cells (wrA (n, p)) 42)).grownBy w4 cv2.ownBlock := hg4; clear hg4 hb4; have W2a := W2.out.grows (Grows.alloc w3 (.cells (wrA (n, p)) 42)); have V4 := Lib.hid (row_other W2a (V3.out.alloc _) (by decide) hg4'); have VT4 := Lib.hid (row_other W2a (VT3.out.alloc _) (by decide) hg4'); have Y1 := Lib.hid (own_other (W1.out.grows (Grows.alloc w3 (.cells (wrA (n, p)) 42))) W2a (by decide) hg4'); have Y3 := Lib.hid (own_other (W3.out.grows (Grows.alloc w3 (.cells (wrA (n, p)) 42))) W2a (by decide) hg4'); have HG4 := Lib.hid (((Grows.trans HG3.out (Grows.alloc w3 (.cells (wrA (n, p)) 42))).grown hg4' (by have := HG3.out.size; simp; omega) (fun k e => (own_lt W2a k e).1))); have Hlt := Lib.hid VT3.out.lt; have d1' := V4.out.cell 1; have f1' := V4.out.frozen 1; have Hne := Lib.hid T3.out.lt; obtain ⟨A4, L4, c4, rfl⟩ : ∃ A L c, v4 = .slice A L c := (by obtain ⟨A, c, e, _⟩ := h4.els.form; exact ⟨_, _, _, e⟩); have Y2 := Lib.hid h4; clear h4 hg4' W2a d1 f1)
    | ((with_reducible refine wpList_load_dk (o := ⟨some 33, _, _, _, _, _⟩) ?_ (.tmp 9) ?_ w2.heap.size #[pv2, .slice A4 L4 c4, bv2, .bool d.off] ?_ ?_ ?_ ?_); exact rfl; exact rfl; exact rfl; (have h := V4.out.set 1 (.slice A4 L4 c4); simpa using h); exact rfl)
    | ((with_reducible refine wpList_store_dk ?_ (.tmp 6) (.tmp 33) ?_ (w.heap.size + 1 + 1) #[pv2, .slice A4 L4 c4, bv2, .bool d.off] #[.slice none 0 0, .slice none 0 0, .slice none 0 0, .bool false] ?_ ?_ ?_ ?_ ?_ ?_ ?_); exact rfl; exact rfl; exact rfl; exact rfl; exact rfl; exact rfl; exact (dk_one (d := ⟨d.pages, d.cache ++ [(n, p)], d.bad, d.off⟩) ⟨pv2, _, bv2, rfl, Y1.out.els, Y2.out.els, Y3.out.els⟩).2; exact VT4.out.far (by have := Hne.out; simp; omega) _; intro w6 hw6 hg6))
  have G5 := setCell_grown w4 w2.heap.size 1 (.slice A4 L4 c4)
  have V5 : Row (w4.setCell ⟨w2.heap.size, 1, none⟩ (.slice A4 L4 c4)) (w.heap.size + 1 + 1) 26 #[.slice none 0 0, .slice none 0 0, .slice none 0 0, .bool false] := VT4.out.far (by have := Hne.out; simp; omega) _
  refine bodyPost_ret (results_dk_two (p := 6) (q := 7) (by exact rfl) _ (.int .i64 0) (by exact rfl) (by exact rfl) (by exact rfl) hw6) rfl ?_
  exact ⟨_, rfl, ⟨_, _, _, rfl, (Y1.out.aside G5 V4.out (by decide)).aside hg6 V5 (by decide), (Y2.out.aside G5 V4.out (by decide)).aside hg6 V5 (by decide), (Y3.out.aside G5 V4.out (by decide)).aside hg6 V5 (by decide)⟩,
    (HG4.out.grown G5 HG4.out.size (fun k e => by cases e; exact HG2.out.size)).grown hg6 (by rw [World.size_setCell]; exact HG4.out.size) (fun k e => by cases e; omega)⟩
end Go.Proofs.Ytiagmlokocpboaa
