/- PtWhere -/
import Derived.Test.YtnigflobmiiefaaDoorPtIter
import Derived.Test.YtnigflobmiiefaaDoorVdIn
import Derived.Test.YtnigflobmiiefaaDoorVdRef
/- Where: a pointer's addresses as a row. -/
namespace Go.Proofs.YtnigflobmiiefaaDoor
open Go.RowKit Go.Shelf
set_option linter.unusedVariables false
set_option linter.unusedSimpArgs false
attribute [local go_sem] Oper.semAt_some wrap_i64_hI
/-- What holds in the rounds of Where. -/
def InvH (w : World) (Bx : Nat) (x : Pt) (N : Nat) (pre : List (BitVec 16)) (W : World) : Prop :=
  (∃ u, Row W (w.heap.size + 1) 43 #[u] ∧ Own' 3 1 intE w.heap.size W u (pre.map hI)) ∧ Row W Bx 27 (ptA x) ∧ pre.length ≤ N ∧ Grows w W
set_option maxRecDepth 100000 in
set_option maxHeartbeats 2000000 in
theorem where_in (nn : Nat) (hn : 4 ≤ nn) (x : Pt) (w : World) :
    CallsIn Fence.wide nn Tryd.prog 26 #[.agg (ptA x)] w fun e w' => ∃ r, e = .returned r ∧ Own' 3 1 intE w.heap.size w' r ((PtM.wheres x).map hI) ∧ Grows w w' := by
  have h1n : 1 ≤ nn := by omega
  have HX : Hid (Row ((w.alloc (.cells (ptA x) 27)).alloc (.cells #[.slice none 0 0] 43)) w.heap.size 27 (ptA x)) := (Row.new w 27 (ptA x)).alloc _
  have HM : Hid (Row ((w.alloc (.cells (ptA x) 27)).alloc (.cells #[.slice none 0 0] 43)) (w.heap.size + 1) 43 #[.slice none 0 0]) := by
    have := Row.new (w.alloc (.cells (ptA x) 27)) 43 #[.slice none 0 0]
    rwa [World.size_alloc] at this
  have HG := Lib.hid ((Grows.alloc w (.cells (ptA x) 27)).trans (Grows.alloc _ (.cells #[.slice none 0 0] 43)))
  have HS : Hid (((w.alloc (.cells (ptA x) 27)).alloc (.cells #[.slice none 0 0] 43)).heap.size = w.heap.size + 2) := by unfold Hid; simp
  refine callsIn_of_wp_marks Tryd.func26 rfl trivial ?_ rfl
  simp only [Tryd.ntmps26, List.size_toArray, List.length_cons, List.length_nil, Nat.reduceAdd, Nat.reduceSub, Array.replicate_succ, Array.replicate_zero, List.push_toArray, List.append_toArray, List.nil_append, List.cons_append]
  have HA := Lib.hid (fun W => addresses_any x W)
  gi_wp2_with (first
    | ((with_reducible refine wpListIn_does (o := ⟨some 5, _, _, _, _, _⟩) WideF.wide ?_ ?_ (dk_load 27 (.tmp 1) ⟨w.heap.size, 0, none⟩ (.agg (ptA x)) rfl rfl (run_load_pt HX.out) (R := fun v w' => v = .agg (ptA x) ∧ _ = w') ⟨rfl, rfl⟩) ?_); exact rfl; (intro c hc; cases hc); rintro v w' ⟨rfl, rfl⟩)
    | (refine ⟨trivial, ?_⟩; gi_at_call 31; refine (callsIn_wide.2 (HA.out _)).mono ?_; rintro e w2 ⟨rfl, hx2, hm2, hb2⟩; rw [HS.out] at hx2 hm2; have HX2 := Lib.hid hx2; have HM2 := Lib.hid hm2; have HL2 := Lib.hid (Row.grows HM.out hb2); have HG2 := Lib.hid (HG.out.trans hb2); clear hx2 hm2 hb2))
  rename_i Q1 K aK
  have aK := Lib.hid aK
  refine wpIn_rangeFunc_ownG rfl h1n (gf := 42) (lb := #[.pointer (some ⟨w.heap.size + 2, 0, none⟩), .pointer (some ⟨w.heap.size + 2 + 1, 0, none⟩)]) rfl trivial (enters_of Tryd.func42 (by kernel_rfl) rfl)
    (addr_stops (nn - 1) (by omega) (w.heap.size + 2) (w.heap.size + 2 + 1) x w2 HX2.out HM2.out) (fun h k => KeptAt.t h k) (KeptAt.b HX2.out.lt) (Below.refl _ _) (fun _ => rfl)
    (InvH w (w.heap.size + 2) x (PtM.wheres x).length) (fun _ _ _ => False) ?own (fun _ _ _ _ _ hs _ _ => hs) ?start
    (fun y => { tmps := #[Value.agg (ptA x), Value.pointer (some { block := w.heap.size, off := 0 }), Value.slice none 0 0,
          Value.pointer (some { block := w.heap.size + 1, off := 0 }), .int .i64 (hI y), Value.agg (ptA x),
          Value.func (Fn.func 42) #[]
            #[Value.pointer (some { block := w.heap.size + 2, off := 0 }),
              Value.pointer (some { block := w.heap.size + 2 + 1, off := 0 })],
          .int .i64 (hI y), undef, undef, undef, undef, undef], defers := [] }) ?assign ?body ?done ?stop
  case assign =>
    intro l y W K hK
    gi_wp2
    exact hK
  case own =>
    refine OwnFrom.and (fun s X Y row hs hg hr => ?_) (OwnFrom.and (Own.from (row_stays _ _ _) _) (OwnFrom.and (ownFrom_pure _ _) (ownFrom_below (Nat.le_refl _) HG2.out.size)))
    obtain ⟨u, h1, h2⟩ := hs
    exact ⟨u, row_stays _ _ _ () X Y row h1 hg (fun r e => (hr r e).2), own_stays _ _ _ _ _ (fun _ : Unit => _) () X Y row h2 hg (fun r e => (hr r e).2)⟩
  case start => exact ⟨⟨_, HL2.out, Own'.nil _ _ _ _ _⟩, HX2.out, Nat.zero_le _, HG2.out⟩
  case stop =>
    rintro D0 c pre W _ _ h _
    exact h.elim
  case body =>
    rintro l pre y W ⟨⟨u, h3, ho⟩, hbs, hlen, hB⟩ hlt2
    have H3 := Lib.hid h3; have HO := Lib.hid ho; have HBS := Lib.hid hbs; have HB := Lib.hid hB
    have HPL : Hid ((pre.map hI).length ≤ 900000) := by unfold Hid; rw [List.length_map]; have := wheres_length x; omega
    have HPre : Hid ((pre ++ [y]).map hI = pre.map hI ++ [hI y]) := by unfold Hid; rw [List.map_append]; rfl
    have HLT := Lib.hid hlt2
    have c3 := h3.cell 0
    clear h3 ho hbs hB
    generalize pre.map hI = L at *
    have MO := Lib.hid (HO.out.grows (Grows.alloc W (.cells #[.int .i64 (hI y)] 3)))
    have M3 := Lib.hid (H3.out.alloc (.cells #[.int .i64 (hI y)] 3))
    have MBS := Lib.hid (HBS.out.alloc (.cells #[.int .i64 (hI y)] 3))
    have MB := Lib.hid (Grows.trans HB.out (Grows.alloc W (.cells #[.int .i64 (hI y)] 3)))
    have MKO := Lib.hid (others_of_grows (Grows.alloc W (.cells #[.int .i64 (hI y)] 3)))
    gi_wp2_with (first
      | ((with_reducible refine wpListIn_append_els elT_int intE_one (WideF.round _) ?_ (.tmp 8) (.tmp 10) ?_ w.heap.size (W.heap.size + 1) L [hI y] ?_ ?_ ?_ ?_ ?_ ?_); exact rfl; exact rfl; exact MO.out; exact ints_one W (hI y); have := HPL.out; simp; unfold maxLen; omega; have := HPL.out; simp; omega; exact MB.out.size; intro v5 w5 h51 h52 _; obtain ⟨B5, c5, rfl, _⟩ := h51.els.form; generalize (L ++ [hI y]).length = m5 at *; have X0 := Lib.hid h51; have X3 := Lib.hid (row_other MO.out M3.out (by decide) h52); have XBS := Lib.hid (row_other MO.out MBS.out (by decide) h52); have XB := Lib.hid (MB.out.grown h52 MB.out.size (fun j e => own_low MO.out j e)); have XK := Lib.hid (KeepsOthers.of_grownBy h52 (fun j ob e ho => own_block_cells MO.out e ho)); have f5 := X3.out.cell 0; have f6 := X3.out.frozen 0; clear h51 h52))
    refine ⟨((MKO.out.trans XK.out).trans (KeepsOthers.setCell _ _ _)).from _, KeptAt.rows HBS.out (XBS.out.far (by simp) _), ⟨⟨_, X3.out.set 0 _, ?_⟩, XBS.out.far (by simp) _, by rw [List.length_append, List.length_singleton]; exact HLT.out, XB.out.setCell (by simp) _⟩⟩
    rw [HPre.out]
    exact X0.out.aside (setCell_grown _ _ _ _) X3.out (by decide)
  case done =>
    rintro D0 ys W hD rfl ⟨⟨u, h3, ho⟩, hbs, hlen, hB⟩ hK
    refine aK.out _ _ ?_
    clear aK
    have c3 := h3.cell 0
    gi_wp2
    refine ⟨by simp, .inl ⟨_, _, rfl, run_takeDeferred hK, ?_⟩⟩
    exact ⟨_, results_tmp rfl _ _ _, _, rfl, own_put ho hK _, Below.trans hB (Grows.put_mark hB hK (by have := HG2.out.size; omega))⟩
theorem where_any (x : Pt) (w : World) : Calls Tryd.prog 26 #[.agg (ptA x)] w fun e w' => ∃ r, e = .returned r ∧ Own' 3 1 intE w.heap.size w' r ((PtM.wheres x).map hI) ∧ Grows w w' :=
  callsIn_wide.1 (where_in 4 (Nat.le_refl _) x w)
end Go.Proofs.YtnigflobmiiefaaDoor
