/- vdev.Waits. -/
import Derived.Test.YtfcghkmhcfgfkaaVdvSort
namespace Go.Proofs.Ytfcghkmhcfgfkaa
open Go.RowKit Go.Shelf
set_option linter.unusedVariables false
set_option linter.unusedSimpArgs false
attribute [local go_sem] Oper.semAt_some
/-- What a round keeps: the places so far. -/
def InvW (w : World) (Bs : Nat) (C : Value) (c : List (Int × Pg)) (pre : List (Fin c.length)) (W : World) : Prop :=
  (∃ v, Row W (w.heap.size + 1) 24 #[v] ∧ Own' 3 1 intE w.heap.size W v (pre.map fun j => (c[j.val]).1)) ∧ Row W Bs 23 #[C] ∧ pre.length ≤ c.length ∧ Below w.heap.size w W
theorem places_all (c : List (Int × Pg)) : (List.finRange c.length).reverse.map (fun j => (c[j.val]).1) = (c.map (·.1)).reverse := by
  have := congrArg (List.map (·.1)) (VdM.revs_map c)
  rw [List.map_map] at this
  rw [← List.map_reverse, ← this]
  rfl
set_option maxRecDepth 100000 in
set_option maxHeartbeats 4000000 in
theorem vwaits_in (nn : Nat) (hn : 4 ≤ nn) (v : Value) (d : Dk) (w : World) (hv : IsDisk w.heap.size w v d) (l2 : d.cache.length ≤ 900000) :
    CallsIn Fence.wide nn Try.prog 20 #[v] w fun e w' => ∃ r, e = .returned r ∧ Own' 3 1 intE w.heap.size w' r (VdM.waits d.cache) ∧ Grows w w' := by
  have h1n : 1 ≤ nn := by omega
  obtain ⟨pv, cv, bv, rfl, _, hc, _⟩ := hv
  obtain ⟨C, cup, rfl, r1, r2, r3⟩ := hc.form
  have HR := Lib.hid r3; have R2M := Lib.hid r2
  clear r3 hc
  unfold maxLen at r2
  obtain ⟨D, hD⟩ : ∃ D, D = #[pv, .slice C d.cache.length cup, bv, .bool d.off] := ⟨_, rfl⟩
  have Ds : Hid (D.size = 4 ∧ D[1]? = some (.slice C d.cache.length cup)) := by subst hD; exact ⟨rfl, rfl⟩
  rw [← hD]
  clear hD
  obtain ⟨g, o, hA, hgo⟩ : ∃ g o : Nat, (0 < d.cache.length → C = some ⟨g, o, none⟩) ∧ ∀ (j : Nat) (x : Int × Pg), d.cache[j]? = some x → g < w.heap.size ∧ w.rangeAt g (o + j * 257) (writeE x) := by
    by_cases h0 : 0 < d.cache.length
    · obtain ⟨g, o, e, hl, hx⟩ := HR.out h0
      exact ⟨g, o, fun _ => e, fun j x hj => ⟨hl, hx j x hj⟩⟩
    · exact ⟨0, 0, fun h => absurd h h0, fun j x hj => absurd (List.getElem?_eq_some_iff.1 hj).1 (by omega)⟩
  have HGO := Lib.hid hgo
  have HAC := Lib.hid hA
  clear hgo hA HR
  generalize d.cache = cs at *
  have b1 := ((Row.new w 26 D).alloc (.cells #[.slice none 0 0] 24)).cell 1
  rw [Ds.out.2] at b1
  refine callsIn_of_wp_marks Try.func20 rfl trivial ?_ rfl
  simp only [Try.ntmps20, List.size_toArray, List.length_cons, List.length_nil, Nat.reduceAdd, Nat.reduceSub, Array.replicate_succ, Array.replicate_zero, List.push_toArray, List.append_toArray, List.nil_append, List.cons_append]
  gi_wp2_with (first
    | (refine ⟨trivial, ?_⟩; gi_at_call 31; refine (callsIn_wide.2 (fromLast_any _ _ _ _ _ rfl)).mono ?_; rintro e w5 ⟨rfl, rfl⟩))
  rename_i Q1 K aK
  have aK := Lib.hid aK
  have V3 : Hid (Row (((w.alloc (.cells D 26)).alloc (.cells #[.slice none 0 0] 24)).alloc (.cells #[.slice C cs.length cup] 23)) (w.heap.size + 1) 24 #[.slice none 0 0]) := by
    have := (Row.new (w.alloc (.cells D 26)) 24 #[.slice none 0 0]).alloc (.cells #[.slice C cs.length cup] 23)
    rwa [World.size_alloc] at this
  have VB : Hid (Row (((w.alloc (.cells D 26)).alloc (.cells #[.slice none 0 0] 24)).alloc (.cells #[.slice C cs.length cup] 23)) (w.heap.size + 1 + 1) 23 #[.slice C cs.length cup]) := by
    have := Row.new ((w.alloc (.cells D 26)).alloc (.cells #[.slice none 0 0] 24)) 23 #[.slice C cs.length cup]
    rwa [World.size_alloc, World.size_alloc] at this
  have HB7 := Lib.hid (((Grows.alloc w (.cells D 26)).trans (Grows.alloc _ (.cells #[.slice none 0 0] 24))).trans (Grows.alloc _ (.cells #[.slice C cs.length cup] 23)))
  have HS7 : Hid ((((w.alloc (.cells D 26)).alloc (.cells #[.slice none 0 0] 24)).alloc (.cells #[.slice C cs.length cup] 23)).heap.size = w.heap.size + 3) := by unfold Hid; simp
  generalize hW7 : ((w.alloc (.cells D 26)).alloc (.cells #[.slice none 0 0] 24)).alloc (.cells #[.slice C cs.length cup] 23) = w7 at *
  clear hW7 b1
  refine wpIn_rangeFunc_ownG rfl h1n (gf := 43) (lb := #[.pointer (some ⟨w.heap.size + 1 + 1, 0, none⟩)]) rfl trivial (enters_of Try.func43 (by kernel_rfl) rfl)
    (fromLast_stops (nn - 1) (by omega) (w.heap.size + 1 + 1) C cs.length cup g o HAC.out r1 R2M.out w7 (by rw [HS7.out]; omega) (VB.out.cell 0)) KeptAt.t (KeptAt.b (by rw [HS7.out]; omega)) (Below.refl _ _) (fun _ => rfl)
    (InvW w (w.heap.size + 1 + 1) (.slice C cs.length cup) cs) (fun _ _ _ => False) ?own (fun _ _ _ _ _ hs _ _ => hs) ?start ?_ ?assign ?body ?done ?stop
  case assign =>
    intro l y W K hK
    gi_wp2
    exact hK
  case own =>
    refine OwnFrom.and (fun s X Y row hs hg hr => ?_) (OwnFrom.and (Own.from (row_stays _ _ _) _) (OwnFrom.and (ownFrom_pure _ _) (ownFrom_below (Nat.le_refl _) HB7.out.size)))
    obtain ⟨u, h1, h2⟩ := hs
    exact ⟨u, row_stays _ _ _ () X Y row h1 hg (fun r e => (hr r e).2), own_stays _ _ _ _ _ (fun _ : Unit => _) () X Y row h2 hg (fun r e => (hr r e).2)⟩
  case start => exact ⟨⟨_, V3.out, Own'.nil _ _ _ _ _⟩, VB.out, Nat.zero_le _, HB7.out⟩
  case stop =>
    rintro D0 c pre W _ _ h _
    exact h.elim
  case body =>
    rintro l pre y W ⟨⟨u, h3, ho⟩, hbs, hlen, hB⟩ hlt2
    have e1 : cs[y.val]? = some cs[y.val] := List.getElem?_eq_getElem y.isLt
    obtain ⟨hgl, hrx⟩ := HGO.out _ _ e1
    have c0 : W.cell? ⟨g, o + y.val * 257, none⟩ = some (.int .i64 cs[y.val].1) := by
      have := rangeAt_keep hrx (fun a ha => Below.cell hB (by rw [ha]; exact hgl)) 0 _ rfl
      simpa using this
    obtain ⟨x, hx⟩ : ∃ x, x = cs[y.val].1 := ⟨_, rfl⟩
    have HX := Lib.hid hx
    rw [← hx] at c0
    have H3 := Lib.hid h3; have HO := Lib.hid ho; have HBS := Lib.hid hbs; have HB := Lib.hid hB
    have HPL : Hid ((pre.map fun j => (cs[j.val]).1).length ≤ 900000) := by unfold Hid; rw [List.length_map]; omega
    have HPre : Hid ((pre ++ [y]).map (fun j => (cs[j.val]).1) = (pre.map fun j => (cs[j.val]).1) ++ [x]) := by unfold Hid; rw [List.map_append, hx]; rfl
    have HLT := Lib.hid hlt2
    have c3 := h3.cell 0
    clear h3 ho hbs hB hx hrx e1
    generalize (pre.map fun j => (cs[j.val]).1) = L at *
    unfold wrAt
    gi_wp2
    refine wpIn_region_free (WideF.round _) 6 20 (by kernel_rfl) (by kernel_rfl) (by kernel_rfl) rfl (by kernel_rfl) ?_; simp only [List.take_succ_cons, List.take_zero, List.drop_succ_cons, List.drop_zero]
    repeat (apply free_pure rfl; focus (intro vs w hg hd; have q0 := hg.cell c0; have q1 := hg.cell c3; (try simp [Region.binds] at hd); simp only [execOp, resolve, Option.map_some, Option.map_none, List.map_toArray, List.map_cons, List.map_nil, rho_const, rho_func]; (repeat (conv in rho _ _ _ _ (Operand.tmp _) => whnf)); (try simp only [hd]); go_simp; (repeat (conv in rho _ _ _ _ (Operand.tmp _) => whnf)); (try simp only [hd]); rfl))
    refine free_op (fun v_ w_ => ElsAt 1 intE [x] v_ w_) rfl (ElsAt.mono _) (fun vs wq hg hd => by
      (try simp [Region.binds] at hd); simp only [Does]; simp only [execOp, resolve, Option.map_some, Option.map_none, List.map_toArray, List.map_cons, List.map_nil, rho_const, rho_func]; (repeat (conv in rho _ _ _ _ (Operand.tmp _) => whnf)); (try simp only [hd]); go_simp; (repeat (conv in rho _ _ _ _ (Operand.tmp _) => whnf))
      refine ⟨Grows.alloc _ _, ?_⟩
      unfold ElsAt
      rw [World.size_alloc]
      exact ints_one wq x) ?_
    intro vs w' hg hv; have h0 := hv 0 (by omega); simp at h0; have h5 := hv 5 (by omega); simp at h5; simp only [putL, dstAt, List.range, List.range.loop, if_true, List.getElem?_toArray, List.getElem?_cons_zero, List.getElem?_cons_succ, Option.bind_some, Act.put, List.setIfInBounds_toArray, List.set_cons_zero, List.set_cons_succ]
    have hgW : Grows W w' := Grows.of_drew hg
    have M3 := Lib.hid (Row.grows H3.out hgW); have MO := Lib.hid (HO.out.grows hgW); have MBS := Lib.hid (Row.grows HBS.out hgW)
    have MB := Lib.hid (HB.out.trans (Below.mono hgW HB.out.size))
    have MKO := Lib.hid (others_of_grows hgW)
    have H5 := Lib.hid h5
    rw [h0]
    clear hv h0 h5 hg c0 c3
    generalize vs 0 = z0, vs 1 = z1, vs 2 = z2, vs 3 = z3, vs 4 = z4, vs 5 = z5 at *
    gi_wp2_with (first
      | ((with_reducible refine wpListIn_append_els elT_int intE_one (WideF.round _) ?_ (.tmp 9) (.tmp 14) ?_ w.heap.size w'.heap.size L [x] ?_ ?_ ?_ ?_ ?_ ?_); exact rfl; exact rfl; exact MO.out; exact H5.out; have := HPL.out; simp; unfold maxLen; omega; have := HPL.out; simp; omega; exact MB.out.size; intro v5 w5 h51 h52 _; obtain ⟨B5, c5, rfl, _⟩ := h51.els.form; generalize (L ++ [x]).length = m5 at *; have X0 := Lib.hid h51; have X3 := Lib.hid (row_other MO.out M3.out (by decide) h52); have XBS := Lib.hid (row_other MO.out MBS.out (by decide) h52); have XB := Lib.hid (MB.out.grown h52 MB.out.size (fun j e => own_low MO.out j e)); have XK := Lib.hid (KeepsOthers.of_grownBy h52 (fun j ob e ho => own_block_cells MO.out e ho)); have f5 := X3.out.cell 0; have f6 := X3.out.frozen 0; clear h51 h52))
    refine ⟨((MKO.out.trans XK.out).trans (KeepsOthers.setCell _ _ _)).from _, KeptAt.rows HBS.out (XBS.out.far (by simp) _), ⟨⟨_, X3.out.set 0 _, ?_⟩, XBS.out.far (by simp) _, by rw [List.length_append, List.length_singleton]; exact HLT.out, XB.out.setCell (by simp) _⟩⟩
    rw [HPre.out]
    exact X0.out.aside (setCell_grown _ _ _ _) X3.out (by decide)
  case done =>
    rintro D0 ys W hD rfl ⟨⟨u, h3, ho⟩, hbs, hlen, hB⟩ hK
    refine aK.out _ _ ?_
    clear aK
    rw [places_all] at ho
    obtain ⟨l, hl⟩ : ∃ l, l = (cs.map (·.1)).reverse := ⟨_, rfl⟩
    rw [← hl] at ho
    have HWS : Hid (Lib.compact (l.mergeSort fun x y => decide (x ≤ y)) = VdM.waits cs) := VdM.waits_of_sort cs l (fun z => by rw [hl, List.mem_reverse])
    have HLL : Hid (l.length ≤ 1000000) := by unfold Hid; rw [hl]; simp; omega
    have HDD := Lib.hid hD; have HB := Lib.hid hB; have HK := Lib.hid hK; have HO := Lib.hid ho; have H3 := Lib.hid h3
    have c3 := h3.cell 0
    clear hl hbs hD hB hK ho h3
    gi_wp2_with (first
      | (refine ⟨trivial, ?_⟩; gi_at_call 37; refine (callsIn_wide.2 (sort_any HO.out HLL.out)).mono ?_; rintro e w8 ⟨rfl, o8, g8⟩; have HO8 := Lib.hid o8; have H38 := Lib.hid (row_other HO.out H3.out (by decide) g8); have HB8 := Lib.hid (HB.out.grown g8 HB.out.size (fun j e => own_low HO.out j e)); have HK8 : Hid (w8.heap[D0]? = some (.deferred (some []))) := (g8.block D0 (Array.getElem?_eq_some_iff.1 HK.out).1 (own_mark_ne HO.out HK.out)).trans HK.out; have c38 := H38.out.cell 0; clear o8 g8)
      | (refine ⟨trivial, ?_⟩; gi_at_call 38; refine (callsIn_wide.2 (compact_any HO8.out (by rw [List.length_mergeSort]; exact HLL.out))).mono ?_; rintro e w9 ⟨r, rfl, o9, g9⟩; rw [HWS.out] at o9; have HO9 := Lib.hid o9; have HB9 := Lib.hid (HB8.out.grown g9 HB8.out.size (fun j e => own_low HO8.out j e)); have HK9 : w9.heap[D0]? = some (.deferred (some [])) := (g9.block D0 (Array.getElem?_eq_some_iff.1 HK8.out).1 (own_mark_ne HO8.out HK8.out)).trans HK8.out; clear o9 g9))
    refine ⟨by simp, .inl ⟨_, _, rfl, run_takeDeferred HK9, ?_⟩⟩
    exact ⟨_, results_tmp rfl _ _ _, _, rfl, own_put HO9.out HK9 _, Below.trans HB9.out (Grows.put_mark HB9.out HK9 (by have := HDD.out; have := HB7.out.size; omega))⟩
theorem vwaits_any (v : Value) (d : Dk) (w : World) (hv : IsDisk w.heap.size w v d) (l2 : d.cache.length ≤ 900000) :
    Calls Try.prog 20 #[v] w fun e w' => ∃ r, e = .returned r ∧ Own' 3 1 intE w.heap.size w' r (VdM.waits d.cache) ∧ Grows w w' := callsIn_wide.1 (vwaits_in 4 (Nat.le_refl _) v d w hv l2)
end Go.Proofs.Ytfcghkmhcfgfkaa
