/- BrCollect -/
import Derived.Test.YtjcommodiihcdaaDoorBrIter
import Derived.Test.YtjcommodiihcdaaDoorLfCollect
import Derived.Test.YtjcommodiihcdaaDoorVdA
/- Layer 7: the kids that a page tells, collected. -/
namespace Go.Proofs.YtjcommodiihcdaaDoor
open Go.RowKit Go.Shelf Go.Joins
set_option linter.unusedVariables false
set_option linter.unusedSimpArgs false
attribute [local go_sem] Oper.semAt_some
theorem Turns.kdOwn {B base : Nat} {W W' : World} {r : KRaw} {x : Kd} (h : Turns B W W') (hr : KdOwn base W r x) : KdOwn base W' r x := ⟨h.mine hr.1, hr.2⟩
theorem Turns.ownKds {B base : Nat} {W W' : World} {v : Value} {l : List Kd} (h : Turns B W W') (ho : OwnKds base W v l) : OwnKds base W' v l := by
  obtain ⟨rs, h1, h2, h3⟩ := ho
  refine ⟨rs, ⟨h1.1, ?_⟩, h2, fun j r x hr hx => h.kdOwn (h3 j r x hr hx)⟩
  obtain ⟨k, o, o', _, g2, g3, rfl⟩ := h
  exact ownsRow_putObj h1.2 o' g2 g3
/-- Kids of a call's own stay where a block of another type is turned. -/
theorem OwnKds.apart {base g : Nat} {w w' : World} {v : Value} {l : List Kd} {t : TypeId} {cs : Array Value} (h : OwnKds base w v l) (hg : w.grownBy w' (some g)) (hr : Row w g t cs) (h1 : 5 ≠ t) (h2 : 47 ≠ t) : OwnKds base w' v l := by
  obtain ⟨rs, k1, k2, k3⟩ := h
  exact ⟨rs, k1.aside hg hr h2, k2, fun j r x hr' hx => ⟨(k3 j r x hr' hx).1.apartK hg hr h1, (k3 j r x hr' hx).2⟩⟩
/-- What the rounds so far leave: the items in their box. -/
def ColK (w : World) (pre : List (KRaw × Kd)) (W : World) : Prop := ∃ v, Row W w.heap.size 22 #[v] ∧ OwnKds w.heap.size W v (pre.map (·.2)) ∧ Below w.heap.size w W
def ColB (w : World) (t0 t1 t2 : Value) (pre : List (KRaw × Kd)) (x : KRaw × Kd) (a : Act) (W : World) : Prop :=
  ColK w pre W ∧ pre.length < 256 ∧ KdOwn w.heap.size W x.1 x.2 ∧ w.heap.size ≤ W.heap.size ∧ ∃ g, Row W g 47 (kdA x.1) ∧
    a = { tmps := #[t0, t1, .pointer (some ⟨w.heap.size, 0, none⟩), undef, .slice none 0 0, .pointer (some ⟨g, 0, none⟩), t2, .agg (kdA x.1), undef, undef, undef, undef, undef], defers := [] }
set_option maxRecDepth 100000 in
set_option maxHeartbeats 4000000 in
theorem kappendSeq_in (n : Nat) (hn : 4 ≤ n) (Bp : Nat) (p : List (BitVec 8)) (w : World) (hp : PRow w Bp p) (hG : Glob w) :
    CallsIn Fence.wide n Tryd.prog 44 #[.slice none 0 0, .func (.func 45) #[] #[.pointer (some ⟨Bp, 0, none⟩)]] w fun e w' => ∃ v l, e = .returned v ∧ BrM.Coll (LeafM.many p) (p.drop 2) l ∧ OwnKds w.heap.size w' v l ∧ Grows w w' := by
  have h1 : 1 ≤ n := by omega
  have HP := Lib.hid hp; have HGl := Lib.hid hG
  have HB0 : Hid (0 < w.heap.size) := Nat.lt_of_le_of_lt (Nat.zero_le _) hp.lt
  have HBp : Hid (Bp < w.heap.size) := hp.lt
  clear hp hG
  refine callsIn_of_wp_marks Tryd.func44 rfl trivial ?_ rfl
  simp only [Tryd.ntmps44, List.size_toArray, List.length_cons, List.length_nil, Nat.reduceAdd, Nat.reduceSub, Array.replicate_succ, Array.replicate_zero, List.push_toArray, List.append_toArray, List.nil_append, List.cons_append]
  gi_wp2
  rename_i Q1 K aK
  have aK := Lib.hid aK
  have BX := Lib.hid (Row.new w 22 #[.slice none 0 0])
  have GX := Lib.hid (Grows.alloc w (.cells #[.slice none 0 0] 22))
  have HS : Hid ((w.alloc (.cells #[.slice none 0 0] 22)).heap.size = w.heap.size + 1) := by unfold Hid; simp
  have HP1 := Lib.hid (HP.out.alloc (.cells #[.slice none 0 0] 22))
  generalize w.alloc (.cells #[.slice none 0 0] 22) = w1 at *
  refine wpIn_range_tells h1 rfl (enters_of Tryd.func45 (by kernel_rfl) rfl)
    (kids_tells (n - 1) (by omega) Bp w.heap.size p w1 HB0.out HBp.out (by rw [HS.out]; omega) HP1.out (HGl.out.grows GX.out)) (fun _ => rfl) (fun h k => h.t k)
    (fun W W' hW ht => (ht.less (by rw [HS.out]; omega)).leaves (by rw [HS.out] at hW; omega)) (ColK w) ?lasts ?turn ?start
    (ColB w (.slice none 0 0) (.func (.func 45) #[] #[.pointer (some ⟨Bp, 0, none⟩)]) (.func (.func 45) #[] #[.pointer (some ⟨Bp, 0, none⟩)])) ?aturn ?assign ?body ?done
  case lasts =>
    rintro s W W' ⟨v, h1, h2, h3⟩ hg
    exact ⟨v, Row.grows h1 hg, h2.grows hg, h3.trans (Below.mono hg h3.size)⟩
  case turn =>
    rintro s W W' ⟨v, h1, h2, h3⟩ ht
    have ht := ht.less (B := w.heap.size) (by rw [HS.out]; omega)
    exact ⟨v, ht.row h1, ht.ownKds h2, ht.below h3 h3.size⟩
  case start => exact ⟨_, BX.out, OwnKds.nil _ _, GX.out⟩
  case aturn =>
    rintro s x a W W' ⟨⟨v, h1, h2, h3⟩, hl, hr, hs, g, hg, ha⟩ ht
    have ht := ht.less (B := w.heap.size) (by rw [HS.out]; omega)
    exact ⟨⟨v, ht.row h1, ht.ownKds h2, ht.below h3 h3.size⟩, hl, ht.kdOwn hr, (ht.below h3 h3.size).size, g, ht.row hg, ha⟩
  case assign =>
    rintro l pre x W ⟨v, h1, h2, h3⟩ hx hl hW
    have H1 := Lib.hid h1; have H2 := Lib.hid h2; have H3 := Lib.hid h3; have HX := Lib.hid hx; have HL := Lib.hid hl; have HWs := Lib.hid hW
    have HZ := Lib.hid (Row.new W 47 (kdA noK))
    clear h1 h2 h3 hx hl hW
    gi_wp2_with (first
      | ((with_reducible refine wpListIn_store_kid (WideF.round _) ?_ (.tmp 5) (.tmp 7) ?_ W.heap.size x.1 (kdA noK) ?_ ?_ ?_ ?_ ?_); exact rfl; exact rfl; exact rfl; exact rfl; exact rfl; exact HZ.out; intro u1 hp1 hg1))
    have g := grown_fresh rfl hg1
    have hb := H3.out.trans (Below.mono g H3.out.size)
    exact ⟨(others_of_grows g).from _, Leaves.of_grows g H3.out.size, ⟨v, Row.grows H1.out g, H2.out.grows g, hb⟩, HL.out, HX.out.grows g, hb.size, _, hp1, rfl⟩
  case body =>
    rintro l pre x a₁ W ⟨⟨v, h1, h2, h3⟩, hl, hr, hs, g, hg, rfl⟩ hW
    have H1 := Lib.hid h1; have H2 := Lib.hid h2; have H3 := Lib.hid h3; have HL := Lib.hid hl; have HR := Lib.hid hr; have HG := Lib.hid hg; have HSz := Lib.hid hs
    have k1 := h1.cell 0; have f1 := h1.frozen 0
    clear h1 h2 h3 hl hr hg hs hW
    gi_wp2_with (first
      | ((with_reducible refine wpListIn_load_kid (op := ⟨some 9, _, _, _, _, _⟩) (WideF.round _) ?_ (.tmp 5) ?_ g x.1 ?_ ?_ ?_); exact rfl; exact rfl; exact rfl; exact HG.out)
      | ((with_reducible refine wpListIn_slice_kid (op := ⟨some 10, _, _, _, _, _⟩) (WideF.round _) ?_ (.tmp 9) ?_ x.1 ?_ ?_); exact rfl; exact rfl; exact rfl)
      | ((with_reducible refine wpListIn_append_kds (op := ⟨some 11, _, _, _, _, _⟩) (WideF.round _) ?_ (.tmp 8) (.tmp 10) ?_ w.heap.size (W.heap.size + 1) (pre.map (·.2)) x.1 x.2 ?_ ?_ ?_ ?_ ?_ ?_); exact rfl; exact rfl; exact H2.out.grows (Grows.alloc _ _); exact kd_one _ _; exact HR.out.grows (Grows.alloc _ _); (rw [List.length_map]; have := HL.out; omega); (have := HSz.out; have := (Grows.alloc W (.cells (kdA x.1) 47)).size; omega); intro v3 w3 h3 g3; have O3 := Lib.hid h3; obtain ⟨A5, n5, c5, rfl⟩ : ∃ A n c, v3 = .slice A n c := (by obtain ⟨A, c, e, _⟩ := h3.form; exact ⟨A, _, c, e⟩); have G3 := Lib.hid g3; have GA := Lib.hid (Grows.alloc W (.cells (kdA x.1) 47)); have B3 : Hid (Row w3 w.heap.size 22 #[v]) := (by obtain ⟨rs, j1, _, _⟩ := H2.out.grows GA.out; exact row_other j1 (Row.grows H1.out GA.out) (by decide) g3); have k3 := B3.out.cell 0; have f3 := B3.out.frozen 0; clear h3 g3))
    have hB4 : Row (w3.setCell ⟨w.heap.size, 0, none⟩ (.slice A5 n5 c5)) w.heap.size 22 #[(.slice A5 n5 c5)] := B3.out.set 0 (.slice A5 n5 c5)
    have hO4 := O3.out.apart (setCell_grown w3 w.heap.size 0 (.slice A5 n5 c5)) B3.out (by decide) (by decide)
    have hbA := Below.mono (Grows.alloc W (.cells (kdA x.1) 47)) HSz.out
    have hb3 : Below w.heap.size W w3 := hbA.grown G3.out (Nat.le_trans HSz.out GA.out.size) (H2.out.grows GA.out).low
    have hb4 : Below w.heap.size W (w3.setCell ⟨w.heap.size, 0, none⟩ (.slice A5 n5 c5)) := Below.setCell hb3 (p := ⟨w.heap.size, 0, none⟩) (Nat.le_refl _) (.slice A5 n5 c5)
    refine ⟨?_, ⟨hb4, fun u m hm => ?_⟩, (.slice A5 n5 c5), hB4, by rw [List.map_append]; exact hO4, H3.out.trans hb4⟩
    · refine (((KeepsOthers.alloc W _).trans (KeepsOthers.of_grownBy G3.out (fun j o e ho => ?_))).trans (KeepsOthers.setCell w3 _ _)).from _
      obtain ⟨rs, j1, _, _⟩ := H2.out.grows GA.out
      exact own_block_cells j1 e ho
    · obtain ⟨rs, j1, _, _⟩ := H2.out.grows GA.out
      exact ((hm.grows GA.out).asideK j1 G3.out).apartK (setCell_grown w3 w.heap.size 0 (.slice A5 n5 c5)) B3.out (by decide)
  case done =>
    rintro D xs W hD hS ⟨v, h1, h2, h3⟩ hK
    have H2 := Lib.hid h2; have H3 := Lib.hid h3; have HD := Lib.hid hD; have HSs := Lib.hid hS; have HK := Lib.hid hK
    have k1 := h1.cell 0
    clear h1 h2 h3 hD hS hK
    refine aK.out _ _ ?_
    clear aK
    gi_wp2
    refine ⟨by simp, .inl ⟨_, _, rfl, run_takeDeferred HK.out, ?_⟩⟩
    have ht : Turns w.heap.size W (W.putObj D (.deferred none)) := ⟨D, _, _, by have := HD.out; have := HS.out; omega, HK.out, rfl, rfl⟩
    refine ⟨v, ?_, v, _, rfl, HSs.out, ht.ownKds H2.out, ht.below H3.out H3.out.size⟩
    simp [results, Tryd.f44, go_sem]
theorem kappendSeq_any (Bp : Nat) (p : List (BitVec 8)) (w : World) (hp : PRow w Bp p) (hG : Glob w) :
    Calls Tryd.prog 44 #[.slice none 0 0, .func (.func 45) #[] #[.pointer (some ⟨Bp, 0, none⟩)]] w fun e w' => ∃ v l, e = .returned v ∧ BrM.Coll (LeafM.many p) (p.drop 2) l ∧ OwnKds w.heap.size w' v l ∧ Grows w w' :=
  callsIn_wide.1 (kappendSeq_in 4 (Nat.le_refl _) Bp p w hp hG)
theorem kcollect_any (Bp : Nat) (p : List (BitVec 8)) (w : World) (hp : PRow w Bp p) (hG : Glob w) :
    Calls Tryd.prog 29 #[.func (.func 45) #[] #[.pointer (some ⟨Bp, 0, none⟩)]] w fun e w' => ∃ v l, e = .returned v ∧ BrM.Coll (LeafM.many p) (p.drop 2) l ∧ OwnKds w.heap.size w' v l ∧ Grows w w' := by
  have HA := Lib.hid (kappendSeq_any Bp p w hp hG)
  clear hp hG
  go_enter Tryd.func29, Tryd.ntmps29
  go_wp2_with (first
    | (go_at_call 44; (with_reducible refine HA.out.mono ?_); rintro e w1 ⟨v, l, rfl, h1, h2, h3⟩; have H1 := Lib.hid h1; have H2 := Lib.hid h2; have H3 := Lib.hid h3; clear h1 h2 h3))
  go_ret
  exact ⟨_, _, rfl, H1.out, H2.out, H3.out⟩
end Go.Proofs.YtjcommodiihcdaaDoor
