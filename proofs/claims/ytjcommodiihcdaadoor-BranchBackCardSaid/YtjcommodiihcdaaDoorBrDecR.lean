/- BrDecR -/
import Derived.Test.YtjcommodiihcdaaDoorBrE
import Derived.Test.YtjcommodiihcdaaDoorBrA
import Derived.Test.YtjcommodiihcdaaDoorPtTake
import Derived.Test.YtjcommodiihcdaaDoorPtA
import Derived.Test.YtjcommodiihcdaaDoorBaseB
/- The document's Decode for layer 7. -/
namespace Go.Proofs.YtjcommodiihcdaaDoor
open Go.RowKit
set_option linter.unusedVariables false
set_option linter.unusedSimpArgs false
attribute [local go_sem high] sliced_cut
theorem wpList_loadG_page7 {w : World} {ops : Array Oper} {rest : List Oper} {o : Oper} {a : Act} {Q : Exit → Act → World → Prop} (hw : Region.wanted o (yielded ops a.tmps) = true) (x : Operand) (ho : o.op = .load 24 x) (g : Nat) (l : List (BitVec 8)) (hx : a.eval x = .pointer (some ⟨g, 0, none⟩)) (hr : PRow w g l)
    (h : wpList Tryd.prog ops Q rest (a.put o.dst (.agg (pageA l))) w) : wpList Tryd.prog ops Q (o :: rest) a w :=
  wpList_does hw (R := fun v w' => v = .agg (pageA l) ∧ w = w') (dk_load 24 x ⟨g, 0, none⟩ _ ho hx (run_load_page hr) ⟨rfl, rfl⟩) (by rintro v w' ⟨rfl, rfl⟩; exact h)
theorem results_two7 {w : World} {fn : Func} {p q : Tmp} (h : fn.results = #[.tmp p, .tmp q]) (tmps : Array Value) (s t : Value) (hp : tmps.getD p undef = s) (hq : tmps.getD q undef = t) :
    (results fn tmps).run Tryd.prog w = .ok (.tuple #[s, t]) w := by
  have hp' : tmps[p]?.getD undef = s := by simpa using hp
  have hq' : tmps[q]?.getD undef = t := by simpa using hq
  simp [results, h, hp', hq']
theorem page_is7 (a b : List (BitVec 8)) (ha : a.length = 256) (hb : b.length = 256) (w : World) : (Op.equalIn 10000 24 (.agg (pageA a)) (.agg (pageA b))).run Tryd.prog w = .ok (decide (a = b)) w := page_eq_run a b ha hb w
theorem grows_below7 {w w3 wq : World} (h : Grows w w3) (hb : Below (w.heap.size + 1) w3 wq) : Grows w wq := Below.trans h (Below.mono hb (Nat.le_succ _))
theorem wpList_build_kid {w : World} {ops : Array Oper} {rest : List Oper} {o : Oper} {a : Act} {Q : Exit → Act → World → Prop} (hw : Region.wanted o (yielded ops a.tmps) = true) (x y : Operand) (ho : o.op = .build 47 #[(0, x), (1, y)]) (r : KRaw) (hx : a.eval x = .slice r.ka r.kn r.kc) (hy : a.eval y = .agg (ptA r.ptr))
    (h : wpList Tryd.prog ops Q rest (a.put o.dst (.agg (kdA r))) w) : wpList Tryd.prog ops Q (o :: rest) a w :=
  wpList_does hw (R := fun v w' => v = .agg (kdA r) ∧ w = w') (does_build_kid x y ho r hx hy ⟨rfl, rfl⟩) (by rintro v w' ⟨rfl, rfl⟩; exact h)
set_option maxRecDepth 100000 in
set_option maxHeartbeats 8000000 in
theorem rdecode7_any (p : List (BitVec 8)) (w : World) (hp : p.length = 256) :
    Calls Tryd.prog 13 #[.agg (pageA p)] w fun e w' => ∃ v, e = .returned (.tuple #[v, .int .i64 (BrM.decE p)]) ∧ OwnKds w.heap.size w' v (BrM.decL p) ∧ Grows w w' := by
  have hz := fun w => zero_page w
  have R1 := Lib.hid (PRow.new w hp)
  have G1 := Lib.hid (Grows.alloc w (.cells (pageA p) 24))
  have HPL := Lib.hid hp
  have x0 : p[0]? = some (p[0]'(by omega)) := List.getElem?_eq_getElem (by omega)
  have x1 : p[1]? = some (p[1]'(by omega)) := List.getElem?_eq_getElem (by omega)
  have hfi : ((LeafM.first p : Nat) : Int) = bI (p[0]'(by omega)) := by unfold LeafM.first; rw [x0]; rfl
  have hma : ((LeafM.many p : Nat) : Int) = bI (p[1]'(by omega)) := by unfold LeafM.many; rw [x1]; rfl
  have c0 := R1.out.cell 0 _ x0
  have c1 := R1.out.cell 1 _ x1
  have HX1 := Lib.hid x1
  have hM256 : LeafM.many p < 256 := by unfold LeafM.many; exact BitVec.isLt _
  have HF1 := Lib.hid (BrM.dec_first (p := p)); have HF2 := Lib.hid (BrM.dec_many (p := p))
  have HF3 := Lib.hid (fun k l r h1 h2 h3 => BrM.dec_lost (p := p) (k := k) (l := l) (r := r) h1 h2 h3)
  have HF4 := Lib.hid (fun l r h1 h2 h3 => BrM.dec_got (p := p) (l := l) (r := r) h1 h2 h3)
  rw [← hfi] at c0
  rw [← hma] at c1
  have HC1 := Lib.hid (fun W (h : PRow W w.heap.size p) => (h.cell 1 _ HX1.out).trans (by rw [← hma]))
  have HL0 : Hid ((p.drop 2).length ≤ 900000) := by unfold Hid; rw [List.length_drop]; omega
  have HB0 : Hid (Bytes (w.heap.size + 1) (w.alloc (.cells (pageA p) 24)) (.slice (some ⟨w.heap.size, 2, none⟩) 254 254) (p.drop 2)) := by
    refine ⟨some ⟨w.heap.size, 2, none⟩, 254, by simp [hp], by simp [hp], by decide, fun _ => ⟨w.heap.size, 2, rfl, Nat.lt_succ_self _, fun j u hu => ?_⟩⟩
    rw [List.getElem?_map] at hu
    obtain ⟨x, hx, rfl⟩ := Option.map_eq_some_iff.1 hu
    rw [List.getElem?_drop] at hx
    exact R1.out.cell (2 + j) x hx
  clear hp x0 x1 hfi hma HX1
  generalize hfp : LeafM.first p = fp at *
  generalize hmp : LeafM.many p = M at *
  clear hfp hmp
  by_cases h1 : fp = 2
  case neg =>
    have hN := Lib.hid (HF1.out h1)
    have hb1 : ((fp : Int) != 2) = true := by simp; omega
    have hb2 : ((fp : Int) == 2) = false := by simp; omega
    go_enter Tryd.func13, Tryd.ntmps13
    go_wp2
    refine bodyPost_ret (results_two7 (p := 2) (q := 3) (by exact rfl) _ _ _ (by exact rfl) (by exact rfl)) rfl ?_
    exact ⟨_, by rw [hN.out.1]; rfl, by rw [hN.out.2]; exact OwnKds.nil _ _, G1.out⟩
  subst h1
  by_cases h2 : 6 < M
  case pos =>
    have hN := Lib.hid (HF2.out h2)
    have h2' : (6 : Int) < M := by omega
    have hwM : IntKind.i64.wrap (M : Int) = M := IntWalk.i64_in _ (by omega)
    go_enter Tryd.func13, Tryd.ntmps13
    go_wp2
    refine bodyPost_ret (results_two7 (p := 2) (q := 3) (by exact rfl) _ _ _ (by exact rfl) (by exact rfl)) rfl ?_
    exact ⟨_, by rw [hN.out.1]; rfl, by rw [hN.out.2]; exact OwnKds.nil _ _, G1.out⟩
  have h2' : ¬ (6 : Int) < M := by omega
  have hwM : IntKind.i64.wrap (M : Int) = M := IntWalk.i64_in _ (by omega)
  have HM6 := Lib.hid h2
  have HI0 : Hid (BrM.kids 0 (p.drop 2) = some ([], p.drop 2)) := rfl
  go_enter Tryd.func13, Tryd.ntmps13
  go_wp2
  go_loopw [4, 5, 6, 7, 8, 9, 10, 11, 12] (fun out b i _ _ _ _ _ _ wr => ∃ (k : Nat) (l : List Kd) (r : List (BitVec 8)), k ≤ M ∧ i = .int .i64 k ∧ BrM.kids k (p.drop 2) = some (l, r) ∧ r.length ≤ 900000 ∧ OwnKds (w.heap.size + 1) wr out l ∧ Bytes (w.heap.size + 1) wr b r ∧ PRow wr w.heap.size p ∧ Grows w wr) (fun _ _ i _ _ _ _ _ _ _ => M - (intOf i).toNat)
  case atStart => exact ⟨0, [], _, Nat.zero_le _, rfl, HI0.out, HL0.out, OwnKds.nil _ _, HB0.out, R1.out, G1.out⟩
  case round =>
    obtain ⟨k, l, r, hk, rfl, hit, hrl, ho, hb, hr, hg⟩ := hrel
    have HIt := Lib.hid hit; have HRl := Lib.hid hrl; have HO := Lib.hid ho; have HBy := Lib.hid hb; have HR := Lib.hid hr; have HG := Lib.hid hg
    have cw1 := HC1.out _ hr
    have HBs : Hid (w.heap.size + 1 ≤ wr.heap.size) := hr.lt
    obtain ⟨Ak, nk, ck, rfl⟩ := ho.slice
    have hll := BrM.kids_len _ _ _ _ hit
    have HLL := Lib.hid hll
    clear hit hrl ho hb hr hg hll
    by_cases hlt : k < M
    · have hlt' : (k : Int) < M := by omega
      have CT1 := Lib.hid (rtakeBytesB_any (B := w.heap.size + 1) u5 r 8 wr HBs.out HBy.out HRl.out (by decide) (by decide))
      have CT2 := Lib.hid (fun W s (h1 : w.heap.size + 1 ≤ (World.heap W).size) (h2 : Bytes (w.heap.size + 1) W s (PackM.tbR r 8)) => rpttakeB_any s (PackM.tbR r 8) W h1 h2 (Nat.le_trans (BrM.tbR_len7 r 8) HRl.out))
      have HNo := Lib.hid (fun h => HF3.out k l r hlt HIt.out (BrM.kid_no h))
      have HYe := Lib.hid (fun h1 h2 => BrM.kids_next HIt.out (BrM.kid_yes h1 h2))
      have HRR : Hid ((PtM.takeR (PackM.tbR r 8)).length ≤ 900000) := Nat.le_trans (BrM.ptR_len7 _) (Nat.le_trans (BrM.tbR_len7 r 8) HRl.out)
      generalize PackM.tbE r 8 = e1 at *
      generalize PackM.tbS r 8 = s1 at *
      generalize PackM.tbR r 8 = r1 at *
      generalize PtM.takeE r1 = e2 at *
      generalize PtM.takeP r1 = P at *
      generalize PtM.takeR r1 = r2 at *
      by_cases he1 : e1 = 0
      case neg =>
        have hN := Lib.hid (HNo.out (fun h => he1 h.1))
        have hb : (e1 != 0) = true := by simpa using he1
        go_wp2_with (first
          | (go_at_call 31; (with_reducible refine CT1.out.mono ?_); rintro e w3 ⟨s3, q3, rfl, hm, hb, hg⟩; obtain ⟨A3, c3, rfl, _, _⟩ := hm.form; have M3 := Lib.hid (hm.more HBs.out); have B3 := Lib.hid hb; have G3 := Lib.hid (HG.out.trans hg); have R3 := Lib.hid (HR.out.grows hg); have O3 := Lib.hid (HO.out.grows hg); have S3 : Hid (w.heap.size + 1 ≤ w3.heap.size) := Nat.le_trans HBs.out hg.size; clear hm hb hg)
          | (go_at_call 32; (with_reducible refine (CT2.out _ _ S3.out B3.out).mono ?_); rintro e w4 ⟨q4, rfl, hb, hg⟩; have M4 := Lib.hid (M3.out.grows hg); have B4 := Lib.hid hb; have G4 := Lib.hid (G3.out.trans hg); have R4 := Lib.hid (R3.out.grows hg); have O4 := Lib.hid (O3.out.grows hg); have S4 : Hid (w.heap.size + 1 ≤ w4.heap.size) := Nat.le_trans S3.out hg.size; have Z4 := Lib.hid (Row.new w4 45 #[.int .u8 0, .int .u16 0, .int .u16 0, .int .u32 0, .int .u64 0]); clear hb hg)
          | ((with_reducible refine wpList_store_pt ?_ (.tmp 10) (.tmp 41) ?_ w4.heap.size P #[.int .u8 0, .int .u16 0, .int .u16 0, .int .u32 0, .int .u64 0] ?_ ?_ ?_ ?_ ?_); exact rfl; exact rfl; exact rfl; exact rfl; exact rfl; exact Z4.out; intro w5 hp5 hg5; have g := grown_fresh (W := w4) (W' := w5) rfl hg5; have P5 := Lib.hid hp5; have M5 := Lib.hid (M4.out.grows g); have G5 := Lib.hid (G4.out.trans g); have R5 := Lib.hid (R4.out.grows g); have O5 := Lib.hid (O4.out.grows g); have B5 := Lib.hid (B4.out.below (Below.mono g S4.out)); have S5 : Hid (w.heap.size + 1 ≤ w5.heap.size) := Nat.le_trans S4.out g.size; clear hp5 hg5 g))
        refine bodyPost_ret (results_two7 (p := 2) (q := 3) (by exact rfl) _ _ _ (by exact rfl) (by exact rfl)) rfl ?_
        exact ⟨_, by rw [hN.out.1]; rfl, by rw [hN.out.2]; exact OwnKds.nil _ _, G5.out⟩
      by_cases he2 : e2 = 0
      case neg =>
        have hN := Lib.hid (HNo.out (fun h => he2 h.2))
        have hb : (e2 != 0) = true := by simpa using he2
        subst he1
        go_wp2_with (first
          | (go_at_call 31; (with_reducible refine CT1.out.mono ?_); rintro e w3 ⟨s3, q3, rfl, hm, hb, hg⟩; obtain ⟨A3, c3, rfl, _, _⟩ := hm.form; have M3 := Lib.hid (hm.more HBs.out); have B3 := Lib.hid hb; have G3 := Lib.hid (HG.out.trans hg); have R3 := Lib.hid (HR.out.grows hg); have O3 := Lib.hid (HO.out.grows hg); have S3 : Hid (w.heap.size + 1 ≤ w3.heap.size) := Nat.le_trans HBs.out hg.size; clear hm hb hg)
          | (go_at_call 32; (with_reducible refine (CT2.out _ _ S3.out B3.out).mono ?_); rintro e w4 ⟨q4, rfl, hb, hg⟩; have M4 := Lib.hid (M3.out.grows hg); have B4 := Lib.hid hb; have G4 := Lib.hid (G3.out.trans hg); have R4 := Lib.hid (R3.out.grows hg); have O4 := Lib.hid (O3.out.grows hg); have S4 : Hid (w.heap.size + 1 ≤ w4.heap.size) := Nat.le_trans S3.out hg.size; have Z4 := Lib.hid (Row.new w4 45 #[.int .u8 0, .int .u16 0, .int .u16 0, .int .u32 0, .int .u64 0]); clear hb hg)
          | ((with_reducible refine wpList_store_pt ?_ (.tmp 10) (.tmp 41) ?_ w4.heap.size P #[.int .u8 0, .int .u16 0, .int .u16 0, .int .u32 0, .int .u64 0] ?_ ?_ ?_ ?_ ?_); exact rfl; exact rfl; exact rfl; exact rfl; exact rfl; exact Z4.out; intro w5 hp5 hg5; have g := grown_fresh (W := w4) (W' := w5) rfl hg5; have P5 := Lib.hid hp5; have M5 := Lib.hid (M4.out.grows g); have G5 := Lib.hid (G4.out.trans g); have R5 := Lib.hid (R4.out.grows g); have O5 := Lib.hid (O4.out.grows g); have B5 := Lib.hid (B4.out.below (Below.mono g S4.out)); have S5 : Hid (w.heap.size + 1 ≤ w5.heap.size) := Nat.le_trans S4.out g.size; clear hp5 hg5 g))
        refine bodyPost_ret (results_two7 (p := 2) (q := 3) (by exact rfl) _ _ _ (by exact rfl) (by exact rfl)) rfl ?_
        exact ⟨_, by rw [hN.out.1]; rfl, by rw [hN.out.2]; exact OwnKds.nil _ _, G5.out⟩
      have HNx := Lib.hid (HYe.out he1 he2)
      subst he1 he2
      go_wp2_with (first
        | (go_at_call 31; (with_reducible refine CT1.out.mono ?_); rintro e w3 ⟨s3, q3, rfl, hm, hb, hg⟩; obtain ⟨A3, c3, rfl, _, _⟩ := hm.form; have M3 := Lib.hid (hm.more HBs.out); have B3 := Lib.hid hb; have G3 := Lib.hid (HG.out.trans hg); have R3 := Lib.hid (HR.out.grows hg); have O3 := Lib.hid (HO.out.grows hg); have S3 : Hid (w.heap.size + 1 ≤ w3.heap.size) := Nat.le_trans HBs.out hg.size; clear hm hb hg)
        | (go_at_call 32; (with_reducible refine (CT2.out _ _ S3.out B3.out).mono ?_); rintro e w4 ⟨q4, rfl, hb, hg⟩; have M4 := Lib.hid (M3.out.grows hg); have B4 := Lib.hid hb; have G4 := Lib.hid (G3.out.trans hg); have R4 := Lib.hid (R3.out.grows hg); have O4 := Lib.hid (O3.out.grows hg); have S4 : Hid (w.heap.size + 1 ≤ w4.heap.size) := Nat.le_trans S3.out hg.size; have Z4 := Lib.hid (Row.new w4 45 #[.int .u8 0, .int .u16 0, .int .u16 0, .int .u32 0, .int .u64 0]); clear hb hg)
        | ((with_reducible refine wpList_store_pt ?_ (.tmp 10) (.tmp 41) ?_ w4.heap.size P #[.int .u8 0, .int .u16 0, .int .u16 0, .int .u32 0, .int .u64 0] ?_ ?_ ?_ ?_ ?_); exact rfl; exact rfl; exact rfl; exact rfl; exact rfl; exact Z4.out; intro w5 hp5 hg5; have g := grown_fresh (W := w4) (W' := w5) rfl hg5; have P5 := Lib.hid hp5; have M5 := Lib.hid (M4.out.grows g); have G5 := Lib.hid (G4.out.trans g); have R5 := Lib.hid (R4.out.grows g); have O5 := Lib.hid (O4.out.grows g); have B5 := Lib.hid (B4.out.below (Below.mono g S4.out)); have S5 : Hid (w.heap.size + 1 ≤ w5.heap.size) := Nat.le_trans S4.out g.size; clear hp5 hg5 g)
        | ((with_reducible refine wpList_load_pt ?_ (.tmp 10) ?_ w4.heap.size P ?_ ?_ ?_); exact rfl; exact rfl; exact rfl; exact P5.out)
        | ((with_reducible refine wpList_build_kid (o := ⟨some 53, _, _, _, _, _⟩) ?_ (.tmp 51) (.tmp 52) ?_ ⟨A3, s1.length, c3, P⟩ ?_ ?_ ?_); exact rfl; exact rfl; exact rfl; exact rfl)
        | ((with_reducible refine wpList_slice_kid (o := ⟨some 54, _, _, _, _, _⟩) ?_ (.tmp 53) ?_ ⟨A3, s1.length, c3, P⟩ ?_ ?_); exact rfl; exact rfl; exact rfl)
        | ((with_reducible refine wpList_append_kds (o := ⟨some 55, _, _, _, _, _⟩) ?_ (.tmp 50) (.tmp 54) ?_ (w.heap.size + 1) (w5.heap.size + 1) l ⟨A3, s1.length, c3, P⟩ ⟨s1, P⟩ ?_ ?_ ?_ ?_ ?_ ?_); exact rfl; exact rfl; exact O5.out.grows (Grows.alloc _ _); exact kd_one _ _; exact ⟨M5.out.grows (Grows.alloc _ _), rfl⟩; (rw [HLL.out]; omega); exact Nat.le_trans S5.out (Grows.alloc w5 (.cells (kdA ⟨A3, s1.length, c3, P⟩) 47)).size; intro v6 w6 h6 g6; have O6 := Lib.hid h6; have GA := Lib.hid (Grows.alloc w5 (.cells (kdA ⟨A3, s1.length, c3, P⟩) 47)); have bl : Below (w.heap.size + 1) w5 w6 := Below.grown (Below.mono GA.out S5.out) g6 (Nat.le_trans S5.out GA.out.size) O5.out.low; have R6 := Lib.hid (R5.out.below bl (Nat.lt_succ_self _)); have B6 := Lib.hid (B5.out.below bl); have G6 := Lib.hid (grows_below7 G5.out bl); clear h6 g6 bl))
      go_roundw
      case rel => exact ⟨k + 1, _, _, by omega, by go_num, HNx.out, HRR.out, O6.out, B6.out, R6.out, G6.out⟩
      case measure => simp [intOf]; omega
    · obtain rfl : k = M := by omega
      have hlt' : ¬ (k : Int) < k := by omega
      have HG4 := Lib.hid (HF4.out l r (by trivial) HM6.out HIt.out)
      have CEn := Lib.hid (rencode7_any (.slice Ak nk ck) l wr HO.out.kds)
      have HFL := Lib.hid (BrM.encP_len l)
      have HOm := Lib.hid (HO.out.more (Nat.le_succ w.heap.size))
      generalize BrM.encP l = ep at *
      generalize BrM.encE l = ee at *
      go_wp2_with (first
        | (go_at_call 11; (with_reducible refine CEn.out.mono ?_); rintro e w4 ⟨rfl, hg⟩; have O4 := Lib.hid (HOm.out.grows hg); have G4 := Lib.hid (HG.out.trans hg); have R4 := Lib.hid (HR.out.grows hg); have N4 := Lib.hid (PRow.new w4 noughts_length); clear hg)
        | ((with_reducible refine wpList_store_page ?_ (.tmp 13) (.tmp 60) ?_ w4.heap.size ep noughts ?_ ?_ ?_ ?_ ?_); exact rfl; exact rfl; exact rfl; exact rfl; exact HFL.out; exact N4.out; intro w5 hp5 hg5; have g := grown_fresh (W := w4) (W' := w5) rfl hg5; have N5 := Lib.hid hp5; have O5 := Lib.hid (O4.out.grows g); have G5 := Lib.hid (G4.out.trans g); have R5 := Lib.hid (R4.out.grows g); clear hp5 hg5 g))
      by_cases he : ee = 0
      · by_cases hq : ep = p
        · have hY := Lib.hid (HG4.out.1 ⟨he, hq⟩)
          subst he
          have heq := page_is7 ep p HFL.out HPL.out w5
          rw [decide_eq_true hq] at heq
          clear hq
          go_wp2_with (first
            | ((with_reducible refine wpList_loadG_page7 (o := ⟨some 65, _, _, _, _, _⟩) ?_ (.tmp 13) ?_ w4.heap.size ep ?_ ?_ ?_); exact rfl; exact rfl; exact rfl; exact N5.out)
            | ((with_reducible refine wpList_loadG_page7 (o := ⟨some 66, _, _, _, _, _⟩) ?_ (.tmp 1) ?_ w.heap.size p ?_ ?_ ?_); exact rfl; exact rfl; exact rfl; exact R5.out))
          refine bodyPost_ret (results_two7 (p := 2) (q := 3) (by exact rfl) _ _ _ (by exact rfl) (by exact rfl)) rfl ?_
          exact ⟨_, by rw [hY.out.1]; rfl, by rw [hY.out.2]; exact O5.out, G5.out⟩
        · have hN := Lib.hid (HG4.out.2 (fun h => hq h.2))
          subst he
          have heq := page_is7 ep p HFL.out HPL.out w5
          rw [decide_eq_false hq] at heq
          clear hq
          go_wp2_with (first
            | ((with_reducible refine wpList_loadG_page7 (o := ⟨some 65, _, _, _, _, _⟩) ?_ (.tmp 13) ?_ w4.heap.size ep ?_ ?_ ?_); exact rfl; exact rfl; exact rfl; exact N5.out)
            | ((with_reducible refine wpList_loadG_page7 (o := ⟨some 66, _, _, _, _, _⟩) ?_ (.tmp 1) ?_ w.heap.size p ?_ ?_ ?_); exact rfl; exact rfl; exact rfl; exact R5.out))
          refine bodyPost_ret (results_two7 (p := 2) (q := 3) (by exact rfl) _ _ _ (by exact rfl) (by exact rfl)) rfl ?_
          exact ⟨_, by rw [hN.out.1]; rfl, by rw [hN.out.2]; exact OwnKds.nil _ _, G5.out⟩
      · have hN := Lib.hid (HG4.out.2 (fun h => he h.1))
        have hb : (ee != 0) = true := by simpa using he
        go_wp2
        refine bodyPost_ret (results_two7 (p := 2) (q := 3) (by exact rfl) _ _ _ (by exact rfl) (by exact rfl)) rfl ?_
        exact ⟨_, by rw [hN.out.1]; rfl, by rw [hN.out.2]; exact OwnKds.nil _ _, G5.out⟩
end Go.Proofs.YtjcommodiihcdaaDoor
