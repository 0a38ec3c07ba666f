/- BranchBackAny -/
import Derived.Test.YtjcommodiihcdaaDoorBrF
import Derived.Test.YtjcommodiihcdaaDoorBrB
import Derived.Test.YtjcommodiihcdaaDoorBrD
import Derived.Test.YtjcommodiihcdaaDoorBrDecR
/- BranchBack: what the call answers. -/
namespace Go.Proofs.YtjcommodiihcdaaDoor
open Go.RowKit
set_option linter.unusedVariables false
set_option linter.unusedSimpArgs false
theorem flipped_ne7 {l : List (BitVec 8)} {i : Nat} {x b : BitVec 8} (h : l[i]? = some x) (hb : b ≠ 0#8) : l.set i (x ^^^ b) ≠ l := by
  intro e
  have h1 := congrArg (fun z => z[i]?) e
  have hi := (List.getElem?_eq_some_iff.1 h).1
  simp only [h, List.getElem?_set_self hi, Option.some.injEq] at h1
  refine hb ?_
  have h2 := congrArg (fun z => x ^^^ z) h1
  simpa [← BitVec.xor_assoc] using h2
theorem flipped_eq7 {l : List (BitVec 8)} {i : Nat} {x : BitVec 8} (h : l[i]? = some x) : l.set i (x ^^^ 0#8) = l := by
  rw [BitVec.xor_zero]
  apply List.ext_getElem?
  intro j
  rw [List.getElem?_set]
  split
  · subst_vars
    rw [if_pos (List.getElem?_eq_some_iff.1 h).1, h]
  · rfl
set_option maxHeartbeats 8000000 in
set_option maxRecDepth 100000 in
theorem branchBack_any (v : Value) (l : List Kd) (at_ : Int) (b : BitVec 8) (w : World) (hv : Kds w.heap.size w v l) (a1 : -9223372036854775808 ≤ at_) (a2 : at_ ≤ 9223372036854775807) (hG : Glob w) :
    Calls Tryd.prog 4 #[v, .int .i64 at_, .int .u8 (bI b)] w fun e w' => e = .returned (.bool true) ∧ Below w.heap.size w w' := by
  have hz := fun w => zero_page w
  have G0 := Lib.hid (Grows.refl w)
  have CGreat := Lib.hid (fun W (h : Grows w W) => rgreat7_any v l W (hv.grows h))
  have CWakes := Lib.hid (fun W (h : Grows w W) => wakes7_any W (hG.grows h))
  have CEnc := Lib.hid (fun W (h : Grows w W) => encode7_any v l W (hv.grows h) (hG.grows h))
  have CRight := Lib.hid (fun W (h : Grows w W) => right7_any v l W (hv.grows h))
  have CDec := Lib.hid (fun q (hq : q.length = 256) W (h : Grows w W) => decode7_any q W hq (hG.grows h))
  have CSame := Lib.hid (fun u m W (h : Grows w W) (hu : Kds (World.heap W).size W u m) => same7_any u v m l W hu (hv.grows h))
  have CS1 := Lib.hid (fun u W (h : Grows w W) (hu : Kds (World.heap W).size W u l) => same7_any u v l l W hu (hv.grows h))
  have hn := page_is7 noughts noughts noughts_length noughts_length
  simp only [decide_true] at hn CS1
  obtain ⟨⟨m1, m2⟩, i, i256, e1⟩ := into' at_ 256 (by omega)
  rw [show ((256 : Nat) : Int) = 256 from rfl] at m1 m2 e1
  have k2 : at_.tmod 256 % 256 = (i : Int) := by rw [← e1]; simp
  have k1 : IntKind.i64.wrap (at_.tmod 256 + 256) = at_.tmod 256 + 256 := IntWalk.i64_in _ (by omega)
  have k3 : (at_.tmod 256 + 256).tmod 256 = (i : Int) := by rw [Int.tmod_eq_emod_of_nonneg (by omega)]; exact e1
  have i256' : (i : Int) < 256 := by omega
  clear e1
  obtain ⟨A, cap, rfl, _, _⟩ := hv.form
  clear hv hG
  cases hgr : BrM.great l
  case true =>
    rw [hgr] at CGreat
    clear hgr
    go_enter Tryd.func4, Tryd.ntmps4
    go_wp2_with (first
      | (go_at_call 8; (with_reducible refine (CGreat.out _ G0.out).mono ?_); rintro e w1 ⟨rfl, g⟩; have G1 := Lib.hid (G0.out.trans g); clear g)
      | (go_at_call 9; (with_reducible refine (CWakes.out _ G1.out).mono ?_); rintro e w2 ⟨rfl, g⟩; have G2 := Lib.hid (G1.out.trans g); clear g))
    go_ret
    exact ⟨rfl, G2.out⟩
  rw [hgr] at CGreat
  clear hgr
  cases hR : BrM.right l
  case false =>
    have hE := BrM.enc_not hR
    rw [hR] at CRight
    rw [hE.1, hE.2, blank_noughts7] at CEnc
    clear hR hE
    go_enter Tryd.func4, Tryd.ntmps4
    go_wp2_with (first
      | (go_at_call 8; (with_reducible refine (CGreat.out _ G0.out).mono ?_); rintro e w1 ⟨rfl, g⟩; have G1 := Lib.hid (G0.out.trans g); clear g)
      | (go_at_call 10; (with_reducible refine (CEnc.out _ G1.out).mono ?_); rintro e w2 ⟨rfl, g⟩; have G2 := Lib.hid (G1.out.trans g); clear g)
      | ((with_reducible refine wpList_store_page ?_ (.tmp 7) (.tmp 19) ?_ w2.heap.size noughts noughts ?_ ?_ ?_ ?_ ?_); exact rfl; exact rfl; exact rfl; exact rfl; exact noughts_length; exact PRow.new w2 noughts_length; intro w3 hp hg; have g := grown_fresh (W := w2) (W' := w3) rfl hg; have R3 := Lib.hid hp; have G3 := Lib.hid (G2.out.trans g); clear hp hg g)
      | (go_at_call 15; (with_reducible refine (CRight.out _ G3.out).mono ?_); rintro e w4 ⟨rfl, g⟩; have R4 := Lib.hid (R3.out.grows g); have G4 := Lib.hid (G3.out.trans g); clear g)
      | ((with_reducible refine wpList_loadG_page7 (o := ⟨some 27, _, _, _, _, _⟩) ?_ (.tmp 7) ?_ w2.heap.size noughts ?_ ?_ ?_); exact rfl; exact rfl; exact rfl; exact R4.out)
      | (go_at_call 9; (with_reducible refine (CWakes.out _ G4.out).mono ?_); rintro e w5 ⟨rfl, g⟩; have R5 := Lib.hid (R4.out.grows g); have G5 := Lib.hid (G4.out.trans g); clear g))
    go_ret
    exact ⟨rfl, G5.out⟩
  rw [hR] at CRight
  have hE := (BrM.enc_right hR).1
  have HDE := Lib.hid (BrM.dec_enc hR)
  have HDP := Lib.hid (fun q m (h : BrM.dec q = some m) => BrM.dec_page h)
  rw [hE] at CEnc
  clear hR hE
  have HPL := Lib.hid (BrM.encP_len l)
  have HPD := Lib.hid (fun q (h : BrM.encP l = q) => h)
  have CD1 : Hid (∀ W, Grows w W → Calls Tryd.prog 12 #[.agg (pageA (BrM.encP l))] W fun e w' => (∃ A n c, e = .returned (.tuple #[.slice A n c, .int .i64 0]) ∧ OwnKds W.heap.size w' (.slice A n c) l) ∧ Grows W w') := fun W h => by
    refine (CDec.out _ HPL.out W h).mono ?_
    rintro e w' ⟨u, rfl, ho, hg⟩
    obtain ⟨h1, h2⟩ := BrM.dec_some HDE.out
    rw [h2] at ho
    obtain ⟨A, n, c, rfl⟩ := ho.slice
    exact ⟨⟨A, n, c, by rw [h1], ho⟩, hg⟩
  obtain ⟨ep, hep⟩ : ∃ ep, ep = BrM.encP l := ⟨_, rfl⟩
  rw [← hep] at CEnc CD1 HPL HPD HDE
  have e1 : ep[i]? = some (ep[i]'(by have := HPL.out; omega)) := List.getElem?_eq_getElem _
  generalize ep[i]'(by have := HPL.out; omega) = x at *
  have HNe := Lib.hid (fun h => flipped_ne7 (b := b) e1 h)
  have HEq := Lib.hid (flipped_eq7 e1)
  have HE1 := Lib.hid e1
  obtain ⟨q, hq⟩ : ∃ q, q = ep.set i (x ^^^ b) := ⟨_, rfl⟩
  have HQL : Hid (q.length = 256) := by rw [hq]; unfold Hid; rw [List.length_set]; exact HPL.out
  have HQ := Lib.hid hq
  rw [← hq] at HNe
  have HNot : Hid (b ≠ 0#8 → ∀ m, BrM.dec q = some m → decide (m = l) = false) := fun hb m h => by
    refine decide_eq_false fun e => HNe.out hb ?_
    have h2 := (HDP.out q m h).2.1
    rw [← h2, e]
    exact hep.symm
  have HBack : Hid (b = 0#8 → q = ep) := fun hb => by rw [HQ.out, hb]; exact HEq.out
  have hx := bits_xor_b x b
  clear e1 hq hep HPD HDP HNe HEq
  go_enter Tryd.func4, Tryd.ntmps4
  go_wp2_with (first
    | (go_at_call 8; (with_reducible refine (CGreat.out _ G0.out).mono ?_); rintro e w1 ⟨rfl, g⟩; have G1 := Lib.hid (G0.out.trans g); clear g)
    | (go_at_call 10; (with_reducible refine (CEnc.out _ G1.out).mono ?_); rintro e w2 ⟨rfl, g⟩; have G2 := Lib.hid (G1.out.trans g); clear g)
    | ((with_reducible refine wpList_store_page ?_ (.tmp 7) (.tmp 19) ?_ w2.heap.size ep noughts ?_ ?_ ?_ ?_ ?_); exact rfl; exact rfl; exact rfl; exact rfl; exact HPL.out; exact PRow.new w2 noughts_length; intro w3 hp hg; have g := grown_fresh (W := w2) (W' := w3) rfl hg; have R3 := Lib.hid hp; have G3 := Lib.hid (G2.out.trans g); clear hp hg g)
    | (go_at_call 15; (with_reducible refine (CRight.out _ G3.out).mono ?_); rintro e w4 ⟨rfl, g⟩; have R4 := Lib.hid (R3.out.grows g); have G4 := Lib.hid (G3.out.trans g); clear g)
    | ((with_reducible refine wpList_load_page (o := ⟨some 35, _, _, _, _, _⟩) ?_ (.tmp 7) ?_ w2.heap.size ep ?_ ?_ ?_); exact rfl; exact rfl; exact rfl; exact R4.out)
    | (go_at_call 12; (with_reducible refine (CD1.out _ G4.out).mono ?_); rintro e w5 ⟨⟨A8, n8, c8, rfl, ho⟩, g⟩; have R5 := Lib.hid (R4.out.grows g); have G5 := Lib.hid (G4.out.trans g); have V5 := Lib.hid ho; clear ho; clear g)
    | (go_at_call 14; (with_reducible refine (CS1.out _ _ G5.out V5.out.kds).mono ?_); rintro e w6 ⟨rfl, g⟩; have R6 := Lib.hid (R5.out.grows g); have V6 := Lib.hid (V5.out.grows g); have G6 := Lib.hid (G5.out.trans g); have c0 := R6.out.cell i x HE1.out; have f0 := R6.out.frozen i; have RS : Hid (PRow (w6.setCell ⟨w2.heap.size, i, none⟩ (.int .u8 (bI (x ^^^ b)))) w2.heap.size q) := (by have := R6.out.set i (x ^^^ b); rw [← HQ.out] at this; exact this); have GS := Lib.hid (show Grows w (w6.setCell ⟨w2.heap.size, i, none⟩ (.int .u8 (bI (x ^^^ b)))) from Below.setCell G6.out (p := ⟨w2.heap.size, i, none⟩) G2.out.size (.int .u8 (bI (x ^^^ b)))); clear g)
    | ((with_reducible refine wpList_load_page (o := ⟨some 63, _, _, _, _, _⟩) ?_ (.tmp 7) ?_ w2.heap.size q ?_ ?_ ?_); exact rfl; exact rfl; exact rfl; exact RS.out))
  by_cases hb : bI b = 0
  · have hb0 : b = 0#8 := bI_inj hb
    have HD : Hid (BrM.dec q = some l) := by unfold Hid; rw [HBack.out hb0]; exact HDE.out
    have CDq : Hid (∀ W, Grows w W → Calls Tryd.prog 12 #[.agg (pageA q)] W fun e w' => (∃ A n c, e = .returned (.tuple #[.slice A n c, .int .i64 0]) ∧ OwnKds W.heap.size w' (.slice A n c) l) ∧ Grows W w') := fun W h => by
      refine (CDec.out q HQL.out W h).mono ?_
      rintro e w' ⟨u, rfl, ho, hg⟩
      obtain ⟨h1, h2⟩ := BrM.dec_some HD.out
      rw [h2] at ho
      obtain ⟨A, n, c, rfl⟩ := ho.slice
      exact ⟨⟨A, n, c, by rw [h1], ho⟩, hg⟩
    have hbb : (bI b == 0) = true := by simpa using hb
    clear HD HDE HBack HNot hb0
    go_wp2_with (first
      | (go_at_call 12; (with_reducible refine (CDq.out _ GS.out).mono ?_); rintro e w7 ⟨⟨A9, n9, c9, rfl, ho⟩, g⟩; have R7 := Lib.hid (RS.out.grows g); have G7 := Lib.hid (GS.out.trans g); have U7 := Lib.hid ho; clear ho; clear g)
      | (go_at_call 14; (with_reducible refine (CS1.out _ _ G7.out U7.out.kds).mono ?_); rintro e w8 ⟨rfl, g⟩; have R8 := Lib.hid (R7.out.grows g); have U8 := Lib.hid (U7.out.grows g); have G8 := Lib.hid (G7.out.trans g); clear g)
      | (go_at_call 9; (with_reducible refine (CWakes.out _ G8.out).mono ?_); rintro e w9 ⟨rfl, g⟩; have R9 := Lib.hid (R8.out.grows g); have U9 := Lib.hid (U8.out.grows g); have G9 := Lib.hid (G8.out.trans g); clear g))
    go_ret
    exact ⟨rfl, G9.out⟩
  have hbb : (bI b == 0) = false := by simpa using hb
  have HNt := Lib.hid (HNot.out (fun e => hb (by rw [e]; rfl)))
  clear HNot HBack HDE
  cases hd : BrM.dec q with
  | none =>
    have CDq : Hid (∀ W, Grows w W → Calls Tryd.prog 12 #[.agg (pageA q)] W fun e w' => (∃ A c, e = .returned (.tuple #[.slice A 0 c, .int .i64 50])) ∧ Grows W w') := fun W h => by
      refine (CDec.out q HQL.out W h).mono ?_
      rintro e w' ⟨u, rfl, ho, hg⟩
      obtain ⟨h1, h2⟩ := BrM.dec_none hd
      rw [h2] at ho
      obtain ⟨A, c, rfl, _⟩ := ho.form
      exact ⟨⟨A, c, by rw [h1]; rfl⟩, hg⟩
    clear hd
    go_wp2_with (first
      | (go_at_call 12; (with_reducible refine (CDq.out _ GS.out).mono ?_); rintro e w7 ⟨⟨A9, c9, rfl⟩, g⟩; have R7 := Lib.hid (RS.out.grows g); have G7 := Lib.hid (GS.out.trans g); clear g)
      | (go_at_call 9; (with_reducible refine (CWakes.out _ G7.out).mono ?_); rintro e w8 ⟨rfl, g⟩; have R8 := Lib.hid (R7.out.grows g); have G8 := Lib.hid (G7.out.trans g); clear g))
    go_ret
    exact ⟨rfl, G8.out⟩
  | some m =>
    have HD := Lib.hid hd
    have CDq : Hid (∀ W, Grows w W → Calls Tryd.prog 12 #[.agg (pageA q)] W fun e w' => (∃ A n c, e = .returned (.tuple #[.slice A n c, .int .i64 0]) ∧ OwnKds W.heap.size w' (.slice A n c) m) ∧ Grows W w') := fun W h => by
      refine (CDec.out q HQL.out W h).mono ?_
      rintro e w' ⟨u, rfl, ho, hg⟩
      obtain ⟨h1, h2⟩ := BrM.dec_some HD.out
      rw [h2] at ho
      obtain ⟨A, n, c, rfl⟩ := ho.slice
      exact ⟨⟨A, n, c, by rw [h1], ho⟩, hg⟩
    have CS2 := Lib.hid (fun u W h hu => CSame.out u m W h hu)
    rw [HNt.out m hd] at CS2
    clear hd HD
    go_wp2_with (first
      | (go_at_call 12; (with_reducible refine (CDq.out _ GS.out).mono ?_); rintro e w7 ⟨⟨A9, n9, c9, rfl, ho⟩, g⟩; have R7 := Lib.hid (RS.out.grows g); have G7 := Lib.hid (GS.out.trans g); have U7 := Lib.hid ho; clear ho; clear g)
      | (go_at_call 14; (with_reducible refine (CS2.out _ _ G7.out U7.out.kds).mono ?_); rintro e w8 ⟨rfl, g⟩; have R8 := Lib.hid (R7.out.grows g); have U8 := Lib.hid (U7.out.grows g); have G8 := Lib.hid (G7.out.trans g); clear g)
      | (go_at_call 9; (with_reducible refine (CWakes.out _ G8.out).mono ?_); rintro e w9 ⟨rfl, g⟩; have R9 := Lib.hid (R8.out.grows g); have U9 := Lib.hid (U8.out.grows g); have G9 := Lib.hid (G8.out.trans g); clear g))
    go_ret
    exact ⟨rfl, G9.out⟩
end Go.Proofs.YtjcommodiihcdaaDoor
