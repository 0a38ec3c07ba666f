/- LeafBytesAny -/
import Derived.Test.YthdncpkmhodokaaDoorLeafBackAny
/- LeafBytes: what the call answers. -/
namespace Go.Proofs.YthdncpkmhodokaaDoor
open Go.RowKit
set_option linter.unusedVariables false
set_option linter.unusedSimpArgs false
theorem flipped_ne {l : List (BitVec 8)} {i : Nat} {x b : BitVec 8} (h : l[i]? = some x) (hb : b ≠ 0#8) : l.set i (x ^^^ b) ≠ l := by
  intro e
  have h1 := congrArg (fun z => z[i]?) e
  have hi := (List.getElem?_eq_some_iff.1 h).1
  simp only [h, List.getElem?_set_self hi, Option.some.injEq] at h1
  refine hb ?_
  have h2 := congrArg (fun z => x ^^^ z) h1
  simpa [← BitVec.xor_assoc] using h2
set_option maxHeartbeats 8000000 in
set_option maxRecDepth 100000 in
theorem leafBytes_any (v : Value) (l : List It) (at_ : Int) (b : BitVec 8) (w : World) (hv : Its w.heap.size w v l) (a1 : -9223372036854775808 ≤ at_) (a2 : at_ ≤ 9223372036854775807) (hG : Glob w) :
    Calls Tryd.prog 5 #[v, .int .i64 at_, .int .u8 (bI b)] w fun e w' => e = .returned (.bool true) ∧ Below w.heap.size w w' := by
  have hz := fun w => zero_page w
  have G0 := Lib.hid (Grows.refl w)
  have CGreat := Lib.hid (fun W (h : Grows w W) => rgreat6_any v l W (hv.grows h))
  have CWakes := Lib.hid (fun W (h : Grows w W) => wakes6_any W (hG.grows h))
  have CEnc := Lib.hid (fun W (h : Grows w W) => encode6_any v l W (hv.grows h) (hG.grows h))
  have CRight := Lib.hid (fun W (h : Grows w W) => rrights6_any v l W (hv.grows h))
  have CDec := Lib.hid (fun q (hq : q.length = 256) W (h : Grows w W) => decode6_any q W hq (hG.grows h))
  have CSame := Lib.hid (fun u m W (h : Grows w W) (hu : Its (World.heap W).size W u m) => rsame6_any u v m l W hu (hv.grows h))
  obtain ⟨⟨m1, m2⟩, i, i256, e1⟩ := into' at_ 256 (by omega)
  rw [show ((256 : Nat) : Int) = 256 from rfl] at m1 m2 e1
  have k2 : at_.tmod 256 % 256 = (i : Int) := by rw [← e1]; simp
  have k1 : IntKind.i64.wrap (at_.tmod 256 + 256) = at_.tmod 256 + 256 := IntWalk.i64_in _ (by omega)
  have k3 : (at_.tmod 256 + 256).tmod 256 = (i : Int) := by rw [Int.tmod_eq_emod_of_nonneg (by omega)]; exact e1
  have i256' : (i : Int) < 256 := by omega
  clear e1
  obtain ⟨A, cap, rfl, _, _⟩ := hv.form
  clear hv hG
  cases hgr : LeafM.great l
  case true =>
    rw [hgr] at CGreat
    clear hgr
    go_enter Tryd.func5, Tryd.ntmps5
    go_wp2_with (first
      | (go_at_call 8; (with_reducible refine (CGreat.out _ G0.out).mono ?_); rintro e w1 ⟨rfl, g⟩; have G1 := Lib.hid (G0.out.trans g); clear g)
      | (go_at_call 9; (with_reducible refine (CWakes.out _ G1.out).mono ?_); rintro e w2 ⟨rfl, g⟩; have G2 := Lib.hid (G1.out.trans g); clear g))
    go_ret
    exact ⟨rfl, G2.out⟩
  rw [hgr] at CGreat
  clear hgr
  cases hR : LeafM.right l
  case false =>
    rw [hR] at CRight
    clear hR
    go_enter Tryd.func5, Tryd.ntmps5
    go_wp2_with (first
      | (go_at_call 8; (with_reducible refine (CGreat.out _ G0.out).mono ?_); rintro e w1 ⟨rfl, g⟩; have G1 := Lib.hid (G0.out.trans g); clear g)
      | (go_at_call 16; (with_reducible refine (CRight.out _ G1.out).mono ?_); rintro e w2 ⟨rfl, g⟩; have G2 := Lib.hid (G1.out.trans g); clear g)
      | (go_at_call 9; (with_reducible refine (CWakes.out _ G2.out).mono ?_); rintro e w3 ⟨rfl, g⟩; have G3 := Lib.hid (G2.out.trans g); clear g))
    go_ret
    exact ⟨rfl, G3.out⟩
  rw [hR] at CRight
  have hE := (LeafM.enc_right hR).1
  have HDP := Lib.hid (fun q m (h : LeafM.dec q = some m) => LeafM.dec_page h)
  rw [hE] at CEnc
  clear hR hE
  by_cases hb : bI b = 0
  · go_enter Tryd.func5, Tryd.ntmps5
    go_wp2_with (first
      | (go_at_call 8; (with_reducible refine (CGreat.out _ G0.out).mono ?_); rintro e w1 ⟨rfl, g⟩; have G1 := Lib.hid (G0.out.trans g); clear g)
      | (go_at_call 16; (with_reducible refine (CRight.out _ G1.out).mono ?_); rintro e w2 ⟨rfl, g⟩; have G2 := Lib.hid (G1.out.trans g); clear g)
      | (go_at_call 9; (with_reducible refine (CWakes.out _ G2.out).mono ?_); rintro e w3 ⟨rfl, g⟩; have G3 := Lib.hid (G2.out.trans g); clear g))
    go_ret
    exact ⟨rfl, G3.out⟩
  have HB0 : Hid (b ≠ 0#8) := fun e => hb (by rw [e]; rfl)
  have hbb : (bI b == 0) = false := by simpa using hb
  have HPL := Lib.hid (LeafM.encP_len l)
  have HPD := Lib.hid (fun q (h : LeafM.encP l = q) => h)
  obtain ⟨ep, hep⟩ : ∃ ep, ep = LeafM.encP l := ⟨_, rfl⟩
  rw [← hep] at CEnc HPL HPD
  have e1 : ep[i]? = some (ep[i]'(by have := HPL.out; omega)) := List.getElem?_eq_getElem _
  generalize ep[i]'(by have := HPL.out; omega) = x at *
  have HNe := Lib.hid (flipped_ne e1 HB0.out)
  have HE1 := Lib.hid e1
  obtain ⟨q, hq⟩ : ∃ q, q = ep.set i (x ^^^ b) := ⟨_, rfl⟩
  have HQL : Hid (q.length = 256) := by rw [hq]; unfold Hid; rw [List.length_set]; exact HPL.out
  have HQ := Lib.hid hq
  rw [← hq] at HNe
  have HNot : Hid (∀ m, LeafM.dec q = some m → decide (m = l) = false) := fun m h => by
    refine decide_eq_false fun e => HNe.out ?_
    have h2 := (HDP.out q m h).2
    rw [← h2, e]
    exact hep.symm
  have hx := bits_xor_b x b
  clear e1 hq hep HPD HDP HNe
  go_enter Tryd.func5, Tryd.ntmps5
  go_wp2_with (first
    | (go_at_call 8; (with_reducible refine (CGreat.out _ G0.out).mono ?_); rintro e w1 ⟨rfl, g⟩; have G1 := Lib.hid (G0.out.trans g); clear g)
    | (go_at_call 16; (with_reducible refine (CRight.out _ G1.out).mono ?_); rintro e w2 ⟨rfl, g⟩; have G2 := Lib.hid (G1.out.trans g); clear g)
    | (go_at_call 10; (with_reducible refine (CEnc.out _ G2.out).mono ?_); rintro e w3 ⟨rfl, g⟩; have G3 := Lib.hid (G2.out.trans g); clear g)
    | ((with_reducible refine wpList_store_page ?_ (.tmp 7) (.tmp 26) ?_ w3.heap.size ep noughts ?_ ?_ ?_ ?_ ?_); exact rfl; exact rfl; exact rfl; exact rfl; exact HPL.out; exact PRow.new w3 noughts_length; intro w4 hp hg; have g := grown_fresh (W := w3) (W' := w4) rfl hg; have R4 := Lib.hid hp; have G4 := Lib.hid (G3.out.trans g); have c0 := R4.out.cell i x HE1.out; have f0 := R4.out.frozen i; have RS : Hid (PRow (w4.setCell ⟨w3.heap.size, i, none⟩ (.int .u8 (bI (x ^^^ b)))) w3.heap.size q) := (by have := R4.out.set i (x ^^^ b); rw [← HQ.out] at this; exact this); have GS := Lib.hid (show Grows w (w4.setCell ⟨w3.heap.size, i, none⟩ (.int .u8 (bI (x ^^^ b)))) from Below.setCell G4.out (p := ⟨w3.heap.size, i, none⟩) G3.out.size (.int .u8 (bI (x ^^^ b)))); clear hp hg g)
    | ((with_reducible refine wpList_load_page (o := ⟨some 40, _, _, _, _, _⟩) ?_ (.tmp 7) ?_ w3.heap.size q ?_ ?_ ?_); exact rfl; exact rfl; exact rfl; exact RS.out))
  cases hd : LeafM.dec q with
  | none =>
    have CDq : Hid (∀ W, Grows w W → Calls Tryd.prog 12 #[.agg (pageA q)] W fun e w' => (∃ A c, e = .returned (.tuple #[.slice A 0 c, .int .i64 50])) ∧ Grows W w') := fun W h => by
      refine (CDec.out q HQL.out W h).mono ?_
      rintro e w' ⟨u, rfl, ho, hg⟩
      have h1 : LeafM.decE q = 50 := by unfold LeafM.decE; rw [hd]; rfl
      have h2 : LeafM.decL q = [] := by unfold LeafM.decL; rw [hd]; rfl
      rw [h2] at ho
      obtain ⟨A, c, rfl, _⟩ := ho.form
      exact ⟨⟨A, c, by rw [h1]; rfl⟩, hg⟩
    clear hd
    go_wp2_with (first
      | (go_at_call 12; (with_reducible refine (CDq.out _ GS.out).mono ?_); rintro e w5 ⟨⟨A9, c9, rfl⟩, g⟩; have R5 := Lib.hid (RS.out.grows g); have G5 := Lib.hid (GS.out.trans g); clear g)
      | (go_at_call 9; (with_reducible refine (CWakes.out _ G5.out).mono ?_); rintro e w6 ⟨rfl, g⟩; have R6 := Lib.hid (R5.out.grows g); have G6 := Lib.hid (G5.out.trans g); clear g))
    go_ret
    exact ⟨rfl, G6.out⟩
  | some m =>
    have CDq : Hid (∀ W, Grows w W → Calls Tryd.prog 12 #[.agg (pageA q)] W fun e w' => (∃ A n c, e = .returned (.tuple #[.slice A n c, .int .i64 0]) ∧ OwnIts W.heap.size w' (.slice A n c) m) ∧ Grows W w') := fun W h => by
      refine (CDec.out q HQL.out W h).mono ?_
      rintro e w' ⟨u, rfl, ho, hg⟩
      have h1 : LeafM.decE q = 0 := by unfold LeafM.decE; rw [hd]; rfl
      have h2 : LeafM.decL q = m := by unfold LeafM.decL; rw [hd]; rfl
      rw [h2] at ho
      obtain ⟨A, n, c, rfl⟩ := slice_of ho
      exact ⟨⟨A, n, c, by rw [h1], ho⟩, hg⟩
    have CS2 := Lib.hid (fun u W h hu => CSame.out u m W h hu)
    rw [HNot.out m hd] at CS2
    clear hd
    go_wp2_with (first
      | (go_at_call 12; (with_reducible refine (CDq.out _ GS.out).mono ?_); rintro e w5 ⟨⟨A9, n9, c9, rfl, ho⟩, g⟩; have R5 := Lib.hid (RS.out.grows g); have G5 := Lib.hid (GS.out.trans g); have U5 := Lib.hid ho; clear ho; clear g)
      | (go_at_call 14; (with_reducible refine (CS2.out _ _ G5.out U5.out.its).mono ?_); rintro e w6 ⟨rfl, g⟩; have R6 := Lib.hid (R5.out.grows g); have U6 := Lib.hid (U5.out.grows g); have G6 := Lib.hid (G5.out.trans g); clear g)
      | (go_at_call 9; (with_reducible refine (CWakes.out _ G6.out).mono ?_); rintro e w7 ⟨rfl, g⟩; have R7 := Lib.hid (R6.out.grows g); have U7 := Lib.hid (U6.out.grows g); have G7 := Lib.hid (G6.out.trans g); clear g))
    go_ret
    exact ⟨rfl, G7.out⟩
end Go.Proofs.YthdncpkmhodokaaDoor
