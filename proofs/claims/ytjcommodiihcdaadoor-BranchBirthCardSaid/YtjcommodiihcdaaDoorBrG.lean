/- BranchBirthOf BranchBirthAny -/
import Derived.Test.YtjcommodiihcdaaDoorBrB
import Derived.Test.YtjcommodiihcdaaDoorBrA
import Derived.Test.YtjcommodiihcdaaDoorBrF
/- BranchBirth: what the call answers, where wakes answers true. -/
namespace Go.Proofs.YtjcommodiihcdaaDoor
open Go.RowKit
set_option linter.unusedVariables false
set_option linter.unusedSimpArgs false
set_option maxHeartbeats 8000000 in
set_option maxRecDepth 100000 in
theorem branchBirth_of (v : Value) (l : List Kd) (w : World) (hv : Kds w.heap.size w v l) (hW : ∀ W, Grows w W → Calls Tryd.prog 9 #[] W fun e w' => e = .returned (.bool true) ∧ Grows W w') :
    Calls Tryd.prog 7 #[v] w fun e w' => e = .returned (.bool true) ∧ Grows w w' := by
  have G0 := Lib.hid (Grows.refl w)
  have CGreat := Lib.hid (fun W (h : Grows w W) => rgreat7_any v l W (hv.grows h))
  have CBirth := Lib.hid (fun W (h : Grows w W) => birth7_any v l W (hv.grows h))
  have CWakes := Lib.hid hW
  clear hW
  cases hgr : BrM.great l
  case true =>
    rw [hgr] at CGreat
    clear hgr
    obtain ⟨A, cap, rfl, _, _⟩ := hv.form
    clear hv
    go_enter Tryd.func7, Tryd.ntmps7
    go_wp2_with (first
      | (go_at_call 8; (with_reducible refine (CGreat.out _ G0.out).mono ?_); rintro e w1 ⟨rfl, g⟩; have G1 := Lib.hid (G0.out.trans g); clear g)
      | (go_at_call 9; (with_reducible refine (CWakes.out _ G1.out).mono ?_); rintro e w2 ⟨rfl, g⟩; have G2 := Lib.hid (G1.out.trans g); clear g))
    go_ret
    exact ⟨rfl, G2.out⟩
  rw [hgr] at CGreat
  obtain ⟨hl20, _⟩ := BrM.great_false hgr
  obtain ⟨A, cap, rfl, q1, q2, q3⟩ := hv.form
  have HQ := Lib.hid q3
  have b0 := birth_bound (l := l)
  have hz : ((l.length : Int) == 0) = decide (l.length = 0) := by rw [Bool.eq_iff_iff]; simp
  have hi0 : Hid (BrM.isK l 0 = (decide (l.length = 0) && decide (BrM.birth l = 0))) := BrM.isK_zero l
  have HAt := Lib.hid (fun k x h => BrM.birth_at (l := l) (k := k) (x := x) h)
  have HSt := Lib.hid (fun k x h => BrM.isK_succ (l := l) (k := k) (x := x) h)
  have HAll := Lib.hid (BrM.isK_all l)
  have HBk := Lib.hid (BrM.birth_back l)
  have HBa := Lib.hid (BrM.back_all l)
  have HN0 : Hid (l.length = 0 → BrM.birth l = 0) := fun h => by rw [List.length_eq_zero_iff.1 h]; rfl
  clear hv hgr q3
  unfold maxLen at q2
  generalize hn : BrM.birth l = n at *
  clear hn
  obtain ⟨is0, his0⟩ : ∃ b, b = BrM.isK l 0 := ⟨_, rfl⟩
  have HIs0 := Lib.hid his0
  rw [hi0.out] at his0
  clear hi0
  by_cases hl0 : l.length = 0
  · obtain rfl : n = 0 := HN0.out hl0
    have hl0' : ((l.length : Int) == 0) = true := by simpa using hl0
    rw [decide_eq_true hl0, decide_eq_true rfl] at his0
    obtain rfl : is0 = true := his0
    have HL0 := Lib.hid hl0
    have hT : (l = []) = True := eq_true (List.length_eq_zero_iff.1 hl0)
    clear hl0 hl20 hl0'
    go_enter Tryd.func7, Tryd.ntmps7
    go_wp2_with (first
      | (go_at_call 8; (with_reducible refine (CGreat.out _ G0.out).mono ?_); rintro e w1 ⟨rfl, g⟩; have G1 := Lib.hid (G0.out.trans g); clear g)
      | (go_at_call 19; (with_reducible refine (CBirth.out _ G1.out).mono ?_); rintro e w2 ⟨rfl, g⟩; have G2 := Lib.hid (G1.out.trans g); clear g))
    go_loopw [4, 5, 6] (fun is back i wr => ∃ k : Nat, k ≤ l.length ∧ is = .bool (BrM.isK l k) ∧ i = .int .i64 k ∧ BackKds w.heap.size wr back (l.reverse.take k) ∧ Grows w wr) (fun _ _ i _ => l.length - (intOf i).toNat)
    case atStart => exact ⟨0, Nat.zero_le _, by rw [← HIs0.out], rfl, BackKds.nil _ _, G2.out⟩
    case round =>
      obtain ⟨k, hk, rfl, rfl, ho, hb⟩ := hrel
      have HO := Lib.hid ho; have HB := Lib.hid hb
      obtain ⟨A2, n2, c2, rfl⟩ : ∃ A n c, u5 = Value.slice A n c := by obtain ⟨A, c, e, _⟩ := ho.form hb.size; exact ⟨A, _, c, e⟩
      clear ho hb
      obtain rfl : k = l.length := by have := HL0.out; omega
      rw [HAll.out]
      rw [HBa.out] at HO
      have CB2 := Lib.hid (fun W (h : Grows wr W) => birth7_any (.slice A2 n2 c2) l.reverse W ((HO.out.grows h HB.out.size).kds (Nat.le_trans HB.out.size h.size)))
      rw [HBk.out] at CB2
      go_wp2_with (first
        | (go_at_call 19; (with_reducible refine (CB2.out _ (Grows.refl _)).mono ?_); rintro e w6 ⟨rfl, g⟩; have G6 := Lib.hid (HB.out.trans g); clear g)
        | (go_at_call 9; (with_reducible refine (CWakes.out _ G6.out).mono ?_); rintro e w7 ⟨rfl, g⟩; have G7 := Lib.hid (G6.out.trans g); clear g))
      go_ret
      exact ⟨rfl, G7.out⟩
  · have hl0' : ((l.length : Int) == 0) = false := by simpa using hl0
    have hl0n : ¬ l = [] := by intro e; subst e; exact hl0 rfl
    rw [decide_eq_false hl0] at his0
    obtain rfl : is0 = false := his0
    go_enter Tryd.func7, Tryd.ntmps7
    go_wp2_with (first
      | (go_at_call 8; (with_reducible refine (CGreat.out _ G0.out).mono ?_); rintro e w1 ⟨rfl, g⟩; have G1 := Lib.hid (G0.out.trans g); clear g)
      | (go_at_call 19; (with_reducible refine (CBirth.out _ G1.out).mono ?_); rintro e w2 ⟨rfl, g⟩; have G2 := Lib.hid (G1.out.trans g); clear g))
    go_loopw [4, 5, 6] (fun is back i wr => ∃ k : Nat, k ≤ l.length ∧ is = .bool (BrM.isK l k) ∧ i = .int .i64 k ∧ BackKds w.heap.size wr back (l.reverse.take k) ∧ Grows w wr) (fun _ _ i _ => l.length - (intOf i).toNat)
    case atStart => exact ⟨0, Nat.zero_le _, by rw [← HIs0.out], rfl, BackKds.nil _ _, G2.out⟩
    case round =>
      obtain ⟨k, hk, rfl, rfl, ho, hb⟩ := hrel
      have HO := Lib.hid ho; have HB := Lib.hid hb
      obtain ⟨A2, n2, c2, rfl⟩ : ∃ A n c, u5 = Value.slice A n c := by obtain ⟨A, c, e, _⟩ := ho.form hb.size; exact ⟨A, _, c, e⟩
      clear ho hb
      by_cases hlt : k < l.length
      · have hlt' : (k : Int) < l.length := by omega
        obtain ⟨g1, o1, rfl, hg1, hcA⟩ := HQ.out (by omega)
        have e1 : l[k]? = some l[k] := List.getElem?_eq_getElem hlt
        obtain ⟨r, hr, hc⟩ := hcA k _ e1
        have c4 := (Below.cell HB.out (p := ⟨g1, o1 + k * 6 + 4, none⟩) hg1).trans (kd_at hc).2.2.1
        have HLe := HAt.out _ _ e1
        have HS := Lib.hid (HSt.out _ _ e1)
        rw [← hr.2] at HLe HS
        obtain ⟨q, hq⟩ : ∃ q, q + 1 = l.length := ⟨l.length - 1, by omega⟩
        obtain ⟨m, hm⟩ : ∃ m, m + 1 + k = l.length := ⟨l.length - 1 - k, by omega⟩
        have u1 : IntKind.i64.wrap ((l.length : Int) - 1) = q := by rw [IntWalk.i64_in _ (by omega)]; omega
        have u2 : IntKind.i64.wrap ((q : Int) - k) = m := by rw [IntWalk.i64_in _ (by omega)]; omega
        have u3 : (m : Int) < l.length := by omega
        have e2 : l[m]? = some (l[m]'(by omega)) := List.getElem?_eq_getElem (by omega)
        obtain ⟨r2, hr2, hc2⟩ := hcA m _ e2
        have HC2 := Lib.hid (rangeAt_keep hc2 (fun a ha => Below.cell HB.out (by omega)))
        have HR2 := Lib.hid (hr2.below HB.out)
        have HT := Lib.hid (BrM.back_succ hm e2)
        have HLk : Hid ((l.reverse.take k).length + 1 ≤ 1000000) := by unfold Hid; rw [List.length_take]; omega
        clear hc hcA hr e1 hr2 hc2
        generalize l[m]'(by omega) = x2 at *
        clear e2 hq hm
        generalize l.reverse.take k = bk at *
        have b1 := wI_bound r.ptr.birth
        generalize wI r.ptr.birth = mm at *
        have HLe' : ¬ n < mm := by omega
        generalize BrM.isK l k = ik at *
        by_cases hmn : mm = n
        · have hmb : (mm == n) = true := by simpa using hmn
          rw [decide_eq_true hmn, Bool.or_true] at HS
          clear hmn
          cases ik
          all_goals
            go_wp2_with (first
              | ((with_reducible refine wpList_load_kid (op := ⟨some 52, _, _, _, _, _⟩) ?_ (.tmp 51) ?_ g1 (o1 + m * 6) r2 ?_ ?_ ?_); exact rfl; exact rfl; exact rfl; exact HC2.out)
              | ((with_reducible refine wpList_slice_kid (o := ⟨some 53, _, _, _, _, _⟩) ?_ (.tmp 52) ?_ r2 ?_ ?_); exact rfl; exact rfl; exact rfl)
              | ((with_reducible refine wpList_append_back (o := ⟨some 54, _, _, _, _, _⟩) ?_ (.tmp 44) (.tmp 53) ?_ w.heap.size (wr.heap.size + 1) bk r2 x2 ?_ ?_ ?_ ?_ ?_ ?_); exact rfl; exact rfl; exact HO.out.grows (Grows.alloc _ _) HB.out.size; exact kd_one _ _; exact HR2.out.below (Below.mono (Grows.alloc _ _) HB.out.size); exact HLk.out; exact Nat.le_trans HB.out.size (Grows.alloc wr (.cells (kdA r2) 47)).size; intro v6 w6 h6 g6; rw [← HT.out] at h6; have O6 := Lib.hid h6; have GA := Lib.hid (HB.out.trans (Grows.alloc wr (.cells (kdA r2) 47))); have G6 := Lib.hid (show Grows w w6 from Below.grown GA.out g6 GA.out.size HO.out.low); clear h6 g6))
            go_roundw
            case rel => exact ⟨k + 1, by omega, by rw [HS.out], by go_num, O6.out, G6.out⟩
            case measure => simp [intOf]; omega
        · have hmb : (mm == n) = false := by simpa using hmn
          rw [decide_eq_false hmn, Bool.or_false] at HS
          clear hmn
          cases ik
          all_goals
            go_wp2_with (first
              | ((with_reducible refine wpList_load_kid (op := ⟨some 52, _, _, _, _, _⟩) ?_ (.tmp 51) ?_ g1 (o1 + m * 6) r2 ?_ ?_ ?_); exact rfl; exact rfl; exact rfl; exact HC2.out)
              | ((with_reducible refine wpList_slice_kid (o := ⟨some 53, _, _, _, _, _⟩) ?_ (.tmp 52) ?_ r2 ?_ ?_); exact rfl; exact rfl; exact rfl)
              | ((with_reducible refine wpList_append_back (o := ⟨some 54, _, _, _, _, _⟩) ?_ (.tmp 44) (.tmp 53) ?_ w.heap.size (wr.heap.size + 1) bk r2 x2 ?_ ?_ ?_ ?_ ?_ ?_); exact rfl; exact rfl; exact HO.out.grows (Grows.alloc _ _) HB.out.size; exact kd_one _ _; exact HR2.out.below (Below.mono (Grows.alloc _ _) HB.out.size); exact HLk.out; exact Nat.le_trans HB.out.size (Grows.alloc wr (.cells (kdA r2) 47)).size; intro v6 w6 h6 g6; rw [← HT.out] at h6; have O6 := Lib.hid h6; have GA := Lib.hid (HB.out.trans (Grows.alloc wr (.cells (kdA r2) 47))); have G6 := Lib.hid (show Grows w w6 from Below.grown GA.out g6 GA.out.size HO.out.low); clear h6 g6))
            go_roundw
            case rel => exact ⟨k + 1, by omega, by rw [HS.out], by go_num, O6.out, G6.out⟩
            case measure => simp [intOf]; omega
      · obtain rfl : k = l.length := by omega
        rw [HAll.out]
        rw [HBa.out] at HO
        have CB2 := Lib.hid (fun W (h : Grows wr W) => birth7_any (.slice A2 n2 c2) l.reverse W ((HO.out.grows h HB.out.size).kds (Nat.le_trans HB.out.size h.size)))
        rw [HBk.out] at CB2
        go_wp2_with (first
          | (go_at_call 19; (with_reducible refine (CB2.out _ (Grows.refl _)).mono ?_); rintro e w6 ⟨rfl, g⟩; have G6 := Lib.hid (HB.out.trans g); clear g)
          | (go_at_call 9; (with_reducible refine (CWakes.out _ G6.out).mono ?_); rintro e w7 ⟨rfl, g⟩; have G7 := Lib.hid (G6.out.trans g); clear g))
        go_ret
        exact ⟨rfl, G7.out⟩
end Go.Proofs.YtjcommodiihcdaaDoor
/- BranchBirth: what the call answers. -/
namespace Go.Proofs.YtjcommodiihcdaaDoor
open Go.RowKit
theorem branchBirth_any (v : Value) (l : List Kd) (w : World) (hv : Kds w.heap.size w v l) (hG : Glob w) :
    Calls Tryd.prog 7 #[v] w fun e w' => e = .returned (.bool true) ∧ Below w.heap.size w w' :=
  branchBirth_of v l w hv (fun W h => wakes7_any W (hG.grows h))
end Go.Proofs.YtjcommodiihcdaaDoor
