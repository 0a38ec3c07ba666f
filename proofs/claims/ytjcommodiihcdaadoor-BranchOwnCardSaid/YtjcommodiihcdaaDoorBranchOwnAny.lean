/- BranchOwnAny -/
import Derived.Test.YtjcommodiihcdaaDoorBrOwnInv
import Derived.Test.YtjcommodiihcdaaDoorBrD
import Derived.Test.YtjcommodiihcdaaDoorBrF
import Derived.Test.YtjcommodiihcdaaDoorBrB
/- BranchOwn: what the call answers. -/
namespace Go.Proofs.YtjcommodiihcdaaDoor
open Go.RowKit
set_option linter.unusedVariables false
set_option linter.unusedSimpArgs false
set_option maxHeartbeats 8000000 in
set_option maxRecDepth 100000 in
theorem branchOwn_any (v : Value) (l : List Kd) (w : World) (hv : Kds w.heap.size w v l) (hG : Glob w) :
    Calls Tryd.prog 6 #[v] w fun e w' => e = .returned (.bool true) ∧ Below w.heap.size w w' := by
  have hz := fun w => zero_page w
  have G0 := Lib.hid (Grows.refl w)
  have CGreat := Lib.hid (fun W (h : Grows w W) => rgreat7_any v l W (hv.grows h))
  have CWakes := Lib.hid (fun W (h : Grows w W) => wakes7_any W (hG.grows h))
  have HIt := Lib.hid hv
  cases hgr : BrM.great l
  case true =>
    rw [hgr] at CGreat
    clear hgr
    obtain ⟨A, cap, rfl, _, _⟩ := hv.form
    clear hv hG
    go_enter Tryd.func6, Tryd.ntmps6
    go_wp2_with (first
      | (go_at_call 8; (with_reducible refine (CGreat.out _ G0.out).mono ?_); rintro e w1 ⟨rfl, g⟩; have G1 := Lib.hid (G0.out.trans g); clear g)
      | (go_at_call 9; (with_reducible refine (CWakes.out _ G1.out).mono ?_); rintro e w2 ⟨rfl, g⟩; have G2 := Lib.hid (G1.out.trans g); clear g))
    go_ret
    exact ⟨rfl, G2.out⟩
  rw [hgr] at CGreat
  obtain ⟨hl20, hsz⟩ := BrM.great_false hgr
  have COwn := Lib.hid (fun W (h : Grows w W) => own7_any v l W (hv.grows h) (by omega) (fun x hx => by have := hsz x hx; omega))
  have CROwn := Lib.hid (fun W (h : Grows w W) => rown7_any v l W (hv.grows h) (by omega) (fun x hx => by have := hsz x hx; omega))
  have CEnc := Lib.hid (fun W (h : Grows w W) => encode7_any v l W (hv.grows h) (hG.grows h))
  have HPL := Lib.hid (BrM.encP_len l)
  have CDec := Lib.hid (fun W (h : Grows w W) => decode7_any (BrM.encP l) W HPL.out (hG.grows h))
  have CRight := Lib.hid (fun W (h : Grows w W) => right7_any v l W (hv.grows h))
  have CS1 := Lib.hid (fun u W (h : Grows w W) (hu : Kds (World.heap W).size W u l) => same7_any v u l l W (hv.grows h) hu)
  have CS2 := Lib.hid (fun a b W (ha : Kds (World.heap W).size W a l) (hb : Kds (World.heap W).size W b l) => same7_any a b l l W ha hb)
  simp only [decide_true] at CS1 CS2
  have HYes : Hid (BrM.right l = true → BrM.decE (BrM.encP l) = 0 ∧ BrM.decL (BrM.encP l) = l) := fun h => BrM.dec_some (BrM.dec_enc h)
  obtain ⟨A, cap, rfl, _, _⟩ := hv.form
  clear hv hG hgr hsz
  generalize BrM.decE (BrM.encP l) = de at *
  generalize BrM.decL (BrM.encP l) = dl at *
  generalize BrM.encP l = ep at *
  generalize BrM.encE l = ee at *
  generalize BrM.right l = tr at *
  go_enter Tryd.func6, Tryd.ntmps6
  go_wp2_with (first
    | (go_at_call 8; (with_reducible refine (CGreat.out _ G0.out).mono ?_); rintro e w1 ⟨rfl, g⟩; have G1 := Lib.hid (G0.out.trans g); clear g)
    | (go_at_call 21; (with_reducible refine (CROwn.out _ G1.out).mono ?_); rintro e w2 ⟨wv, rfl, ho, g⟩; obtain ⟨Aw, nw, cw, rfl⟩ := ho.slice; have W2 := Lib.hid ho.kds; have G2 := Lib.hid (G1.out.trans g); clear ho g)
    | (go_at_call 18; (with_reducible refine (COwn.out _ G2.out).mono ?_); rintro e w3 ⟨ov, rfl, ho, g⟩; obtain ⟨Aa, na, ca, rfl⟩ := ho.slice; have U3 := Lib.hid ho; have G23 := Lib.hid g; have G3 := Lib.hid (G2.out.trans g); clear ho g)
    | (go_at_call 10; (with_reducible refine (CEnc.out _ G3.out).mono ?_); rintro e w4 ⟨rfl, g⟩; have G34 := Lib.hid g; have G4 := Lib.hid (G3.out.trans g); clear g)
    | ((with_reducible refine wpList_store_page ?_ (.tmp 5) (.tmp 25) ?_ w4.heap.size ep noughts ?_ ?_ ?_ ?_ ?_); exact rfl; exact rfl; exact rfl; exact rfl; exact HPL.out; exact PRow.new w4 noughts_length; intro w5 hp hg; have g := grown_fresh (W := w4) (W' := w5) rfl hg; have P5 := Lib.hid hp; have G45 := Lib.hid g; have G5 := Lib.hid (G4.out.trans g); clear hp hg g)
    | ((with_reducible refine wpList_load_page (o := ⟨some 28, _, _, _, _, _⟩) ?_ (.tmp 5) ?_ w4.heap.size ep ?_ ?_ ?_); exact rfl; exact rfl; exact rfl; exact P5.out)
    | (go_at_call 12; (with_reducible refine (CDec.out _ G5.out).mono ?_); rintro e w6 ⟨dv, rfl, ho, g⟩; obtain ⟨Ab, nb, cb, rfl⟩ := ho.slice; have U6 := Lib.hid ho; have G56 := Lib.hid g; have P6 := Lib.hid (P5.out.grows g); have G6 := Lib.hid (G5.out.trans g); clear ho g))
  have G67 := Lib.hid (Grows.alloc w6 (.cells #[.slice Aa na ca, .slice Ab nb cb] 22))
  have X7 := Lib.hid (Row.new w6 22 #[.slice Aa na ca, .slice Ab nb cb])
  generalize w6.alloc (.cells #[.slice Aa na ca, .slice Ab nb cb] 22) = w7 at *
  have G37 := Lib.hid (((G34.out.trans G45.out).trans G56.out).trans G67.out)
  have S23 := Lib.hid (Below.size G23.out)
  have S35 := Lib.hid (Nat.le_trans (Below.size G34.out) (Below.size G45.out))
  have S56 := Lib.hid (Below.size G56.out)
  have S34 := Lib.hid (Below.size G34.out)
  have HRound := Lib.hid (fun k wr (h : OwnJ w2.heap.size w3.heap.size w5.heap.size w6.heap.size w7 k wr) (hk : k < 2) => h.round hk U3.out U6.out S23.out S35.out S56.out G37.out G67.out X7.out (Nat.le_refl _))
  have HEnd : Hid (∀ wr, OwnJ w2.heap.size w3.heap.size w5.heap.size w6.heap.size w7 2 wr → Grows w wr ∧ PRow wr w4.heap.size ep ∧ Kds wr.heap.size wr (.slice Aw nw cw) l) := fun wr h => by
    obtain ⟨hb, hkeep⟩ := h.done S23.out S35.out S56.out G67.out
    have g7 : Grows w w7 := G6.out.trans G67.out
    refine ⟨Below.trans g7 (Below.mono hb (Below.size G2.out)), ⟨HPL.out, (hkeep w4.heap.size S34.out P5.out.lt).trans (P6.out.grows G67.out).2⟩, ?_⟩
    have k7 : Kds w2.heap.size w7 (.slice Aw nw cw) l := W2.out.below (Grows.trans G23.out G37.out)
    exact (k7.below hb).more (Nat.le_trans (Below.size (Grows.trans G23.out G37.out)) hb.size)
  clear G67 G37 S23 S35 S56 S34 U3 U6 W2 G23 G34 G45 G56 X7 P5 P6
  go_loopw [10, 11, 12, 36] (fun _ _ _ i wr => ∃ k : Nat, k ≤ 2 ∧ i = .int .i64 k ∧ OwnJ w2.heap.size w3.heap.size w5.heap.size w6.heap.size w7 k wr) (fun _ _ _ i _ => 2 - (intOf i).toNat)
  case atStart => exact ⟨0, by omega, rfl, .inl ⟨rfl, Grows.refl _⟩⟩
  case round =>
    obtain ⟨k, hk, rfl, hJ⟩ := hrel
    have HJ := Lib.hid hJ
    clear hJ
    by_cases hlt : k < 2
    · have hlt' : (k : Int) < 2 := by omega
      obtain ⟨B1, B2, Am, n, c, g, rs, wa, hcell, hrl, hA, hn, hB1, hI, hnext⟩ := HRound.out k wr HJ.out hlt
      have HRL := Lib.hid hrl; have HA := Lib.hid hA; have HI := Lib.hid hI; have HNx := Lib.hid hnext; have HB1 := Lib.hid hB1
      clear hrl hA hI hnext hB1 HJ HRound
      go_wp2
      clear hcell
      go_loopw [11, 12] (fun i _ wr => ∃ j : Nat, j ≤ n ∧ i = .int .i64 j ∧ OwnInv7 B1 B2 g wa rs wr) (fun i _ _ => n - (intOf i).toNat)
      case atStart => exact ⟨0, Nat.zero_le _, rfl, HI.out⟩
      case round =>
        obtain ⟨j, hj, rfl, hi⟩ := hrel
        have HI1 := Lib.hid hi
        clear hi HI
        by_cases hjt : j < n
        · have hjt' : (j : Int) < n := by omega
          obtain rfl := HA.out (by omega)
          have e1 : rs[j]? = some (rs[j]'(by rw [HRL.out]; exact hjt)) := List.getElem?_eq_getElem _
          generalize rs[j]'(by rw [HRL.out]; exact hjt) = r at *
          have E1 := Lib.hid e1
          have HJR := Lib.hid (show j < rs.length by rw [HRL.out]; exact hjt)
          clear e1
          go_wp2
          go_loopw [12] (fun q wr => ∃ q' : Nat, q' ≤ r.kn ∧ q = .int .i64 q' ∧ OwnInv7 B1 B2 g wa rs wr) (fun q _ => r.kn - (intOf q).toNat)
          case atStart => exact ⟨0, Nat.zero_le _, rfl, HI1.out⟩
          case round =>
            obtain ⟨q, hq, rfl, hi⟩ := hrel
            have HI2 := Lib.hid hi
            obtain ⟨c0, hkc, hkm⟩ := hi.cells E1.out
            clear hi HI1
            by_cases hqt : q < r.kn
            · have hqt' : (q : Int) < r.kn := by omega
              obtain ⟨gb, x, hka, cx, fx, hnext⟩ := HI2.out.key E1.out hqt
              rw [hka] at c0
              have hx := bits_xor_b x 255#8
              have hx1 : bI 255#8 = 255 := rfl
              rw [hx1] at hx
              clear hnext
              go_wp2
              refine wp_region_free 16 99 (by kernel_rfl) (by kernel_rfl) rfl (by kernel_rfl) ?_; simp only [List.take_succ_cons, List.take_zero, List.drop_succ_cons, List.drop_zero]
              repeat (apply free_pure rfl; focus (intro vs w hg hd; have q0 := hg.cell c0; have q1 := hg.cell cx; (try simp [Region.binds] at hd); simp only [execOp, resolve, Option.map_some, Option.map_none, List.map_toArray, List.map_cons, List.map_nil, rho_const, rho_func]; (repeat (conv in rho _ _ _ _ (Operand.tmp _) => whnf)); (try simp only [hd]); go_simp; (repeat (conv in rho _ _ _ _ (Operand.tmp _) => whnf)); (try simp only [hd]); (try simp only [hx]); rfl))
              intro vs w' hg hv; have h14 := hv 14 (by omega); simp at h14; have h15 := hv 15 (by omega); simp at h15; simp only [putL, dstAt, List.range, List.range.loop, if_true, List.getElem?_toArray, List.getElem?_cons_zero, List.getElem?_cons_succ, Option.bind_some, Act.put, List.setIfInBounds_toArray, List.set_cons_zero, List.set_cons_succ]
              have gg := Grows.of_drew hg
              have HI3 := Lib.hid (HI2.out.grows HB1.out gg)
              obtain ⟨gb2, x2, hka2, cx2, fx2, hnext2⟩ := HI3.out.key E1.out hqt
              rw [hka] at hka2
              obtain rfl : gb = gb2 := by injection hka2 with e; injection e
              have HN := Lib.hid (hnext2 (x ^^^ 255#8))
              rw [h14, h15]
              clear hv h14 h15 hg hnext2 hka2 gg HI2 c0 cx
              generalize vs 0 = z0, vs 1 = z1, vs 2 = z2, vs 3 = z3, vs 4 = z4, vs 5 = z5, vs 6 = z6, vs 7 = z7, vs 8 = z8, vs 9 = z9, vs 10 = z10, vs 11 = z11, vs 12 = z12, vs 13 = z13, vs 14 = z14, vs 15 = z15 at *
              go_wp2
              go_roundw
              case rel => exact ⟨q + 1, by omega, by go_num, HN.out⟩
              case measure => simp [intOf]; omega
            · obtain rfl : q = r.kn := by omega
              have hqt' : ¬ (r.kn : Int) < r.kn := by omega
              go_wp2_with (first
                | ((with_reducible refine wpList_store_ptInv ?_ (.tmp 76) (.tmp 74) ?_ g (j * 6 + 1) PtM.none ?_ ?_ ?_ ?_); exact rfl; exact rfl; exact rfl; exact rfl; exact HI2.out.there HJR.out; intro w9 hw9; have HN := Lib.hid (hw9 ▸ HI2.out.ptr HJR.out PtM.none); clear hw9))
              go_roundw
              case rel => exact ⟨j + 1, by omega, by go_num, HN.out⟩
              case measure => simp [intOf]; omega
        · obtain rfl : j = n := by omega
          have hjt' : ¬ (j : Int) < j := by omega
          go_wp2
          go_roundw
          case rel => exact ⟨k + 1, by omega, by go_num, HNx.out _ HI1.out.out⟩
          case measure => simp [intOf]; omega
    · obtain rfl : k = 2 := by omega
      obtain ⟨hg9, hp9, hk9⟩ := HEnd.out _ HJ.out
      have G9 := Lib.hid hg9; have P9 := Lib.hid hp9; have K9 := Lib.hid hk9
      clear hg9 hp9 hk9 HEnd HRound HJ
      cases tr
      · go_wp2_with (first
          | ((with_reducible refine wpList_load_page (o := ⟨some 79, _, _, _, _, _⟩) ?_ (.tmp 5) ?_ w4.heap.size ep ?_ ?_ ?_); exact rfl; exact rfl; exact rfl; exact P9.out)
          | (go_at_call 12; (with_reducible refine (CDec.out _ G9.out).mono ?_); rintro e w10 ⟨dv, rfl, ho, g⟩; obtain ⟨Ad, nd, cd, rfl⟩ := ho.slice; have D10 := Lib.hid ho; have K10 := Lib.hid (K9.out.grows g); have G10 := Lib.hid (G9.out.trans g); clear ho g)
          | (go_at_call 14; (with_reducible refine (CS1.out _ _ G10.out K10.out).mono ?_); rintro e w11 ⟨rfl, g⟩; have D11 := Lib.hid (D10.out.grows g); have K11 := Lib.hid (K10.out.grows g); have G11 := Lib.hid (G10.out.trans g); clear g)
          | (go_at_call 15; (with_reducible refine (CRight.out _ G11.out).mono ?_); rintro e w12 ⟨rfl, g⟩; have D12 := Lib.hid (D11.out.grows g); have K12 := Lib.hid (K11.out.grows g); have G12 := Lib.hid (G11.out.trans g); clear g)
          | (go_at_call 9; (with_reducible refine (CWakes.out _ G12.out).mono ?_); rintro e w13 ⟨rfl, g⟩; have G13 := Lib.hid (G12.out.trans g); clear g))
        go_ret
        exact ⟨rfl, G13.out⟩
      · obtain ⟨rfl, rfl⟩ := HYes.out rfl
        go_wp2_with (first
          | ((with_reducible refine wpList_load_page (o := ⟨some 79, _, _, _, _, _⟩) ?_ (.tmp 5) ?_ w4.heap.size ep ?_ ?_ ?_); exact rfl; exact rfl; exact rfl; exact P9.out)
          | (go_at_call 12; (with_reducible refine (CDec.out _ G9.out).mono ?_); rintro e w10 ⟨dv, rfl, ho, g⟩; obtain ⟨Ad, nd, cd, rfl⟩ := ho.slice; have D10 := Lib.hid ho; have K10 := Lib.hid (K9.out.grows g); have G10 := Lib.hid (G9.out.trans g); clear ho g)
          | (go_at_call 14; (with_reducible refine (CS1.out _ _ G10.out K10.out).mono ?_); rintro e w11 ⟨rfl, g⟩; have D11 := Lib.hid (D10.out.grows g); have K11 := Lib.hid (K10.out.grows g); have G11 := Lib.hid (G10.out.trans g); clear g)
          | (go_at_call 15; (with_reducible refine (CRight.out _ G11.out).mono ?_); rintro e w12 ⟨rfl, g⟩; have D12 := Lib.hid (D11.out.grows g); have K12 := Lib.hid (K11.out.grows g); have G12 := Lib.hid (G11.out.trans g); clear g)
          | (go_at_call 14; (with_reducible refine (CS2.out _ _ _ D12.out.kds K12.out).mono ?_); rintro e w13 ⟨rfl, g⟩; have G13 := Lib.hid (G12.out.trans g); clear g)
          | (go_at_call 9; (with_reducible refine (CWakes.out _ G13.out).mono ?_); rintro e w14 ⟨rfl, g⟩; have G14 := Lib.hid (G13.out.trans g); clear g))
        go_ret
        exact ⟨rfl, G14.out⟩
end Go.Proofs.YtjcommodiihcdaaDoor
