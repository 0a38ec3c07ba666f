/- LeafOwnAny -/
import Derived.Test.YthdncpkmhodokaaDoorLfOwnInv
import Derived.Test.YthdncpkmhodokaaDoorLfC
import Derived.Test.YthdncpkmhodokaaDoorLfWakes
import Derived.Test.YthdncpkmhodokaaDoorLfGreat
/- LeafOwn: what the call answers. -/
namespace Go.Proofs.YthdncpkmhodokaaDoor
open Go.RowKit
set_option linter.unusedVariables false
set_option linter.unusedSimpArgs false
theorem size_more (s : BitVec 16) : IntKind.u16.wrap (hI s + 1) = hI (BitVec.ofInt 16 (hI s + 1)) := wrap_u16_int _
set_option maxHeartbeats 8000000 in
set_option maxRecDepth 100000 in
theorem leafOwn_any (v : Value) (l : List It) (w : World) (hv : Its w.heap.size w v l) (hG : Glob w) :
    Calls Tryd.prog 7 #[v] w fun e w' => e = .returned (.bool true) ∧ Below w.heap.size w w' := by
  have G0 := Lib.hid (Grows.refl w)
  have CGreat := Lib.hid (fun W (h : Grows w W) => rgreat6_any v l W (hv.grows h))
  have CWakes := Lib.hid (fun W (h : Grows w W) => wakes6_any W (hG.grows h))
  have HG := Lib.hid hG
  have HIt := Lib.hid hv
  cases hgr : LeafM.great l
  case true =>
    rw [hgr] at CGreat
    clear hgr
    obtain ⟨A, cap, rfl, _, _⟩ := hv.form
    clear hv hG
    go_enter Tryd.func7, Tryd.ntmps7
    go_wp2_with (first
      | (go_at_call 8; (with_reducible refine (CGreat.out _ G0.out).mono ?_); rintro e w1 ⟨rfl, g⟩; have G1 := Lib.hid (G0.out.trans g); clear g)
      | (go_at_call 9; (with_reducible refine (CWakes.out _ G1.out).mono ?_); rintro e w2 ⟨rfl, g⟩; have G2 := Lib.hid (G1.out.trans g); clear g))
    go_ret
    exact ⟨rfl, G2.out⟩
  rw [hgr] at CGreat
  obtain ⟨hl20, hsz⟩ := LeafM.great_false hgr
  have COwn := Lib.hid (fun W (h : Grows w W) => own6_any v l W (hv.grows h) (by omega) (fun x hx => by have := hsz x hx; omega))
  have CROwn := Lib.hid (fun W (h : Grows w W) => rown6_any v l W (hv.grows h) (by omega) (fun x hx => by have := hsz x hx; omega))
  have CSame := Lib.hid (fun u W (h : Grows w W) (hu : Its (World.heap W).size W u l) => same6_any u v l l W hu (hv.grows h))
  have CSame2 := Lib.hid (fun u W (h : Its (World.heap W).size W v l) (hu : Its (World.heap W).size W u l) => rsame6_any v u l l W h hu)
  simp only [decide_true] at CSame CSame2
  obtain ⟨A, cap, rfl, _, _⟩ := hv.form
  clear hv hG hgr hsz
  go_enter Tryd.func7, Tryd.ntmps7
  go_wp2_with (first
    | (go_at_call 8; (with_reducible refine (CGreat.out _ G0.out).mono ?_); rintro e w1 ⟨rfl, g⟩; have G1 := Lib.hid (G0.out.trans g); clear g)
    | (go_at_call 18; (with_reducible refine (COwn.out _ G1.out).mono ?_); rintro e w2 ⟨ov, rfl, ho, g⟩; have U2 := Lib.hid (ho.more G1.out.size); have G2 := Lib.hid (G1.out.trans g); obtain ⟨Ao, co, rfl, _, _⟩ := ho.form; clear ho g)
    | (go_at_call 19; (with_reducible refine (CROwn.out _ G2.out).mono ?_); rintro e w3 ⟨wv, rfl, ho, g⟩; have W3 := Lib.hid ho; have U3 := Lib.hid (U2.out.grows g); have G23 := Lib.hid g; have G3 := Lib.hid (G2.out.trans g); obtain ⟨Aw, nw, cw, rfl⟩ : ∃ A n c, wv = .slice A n c := (by obtain ⟨A, c, e, _⟩ := ho.form; exact ⟨A, _, c, e⟩); clear ho g)
    | (go_at_call 17; (with_reducible refine (CSame.out _ _ G3.out U3.out.its).mono ?_); rintro e w4 ⟨rfl, g⟩; have W4 := Lib.hid (W3.out.grows g); have G24 := Lib.hid (G23.out.trans g); have G4 := Lib.hid (G3.out.trans g); clear g))
  obtain ⟨g, rs, hrl, hAo, hI⟩ : ∃ (g : Nat) (rs : List Raw), rs.length = l.length ∧ (0 < l.length → Ao = some ⟨g, 0, none⟩) ∧ OwnInv6 w.heap.size w2.heap.size g w rs (.slice Aw nw cw) l w4 := by
    obtain ⟨rs, h1, h2, h3⟩ := U2.out
    rcases h1.2.2 with ⟨e, h0⟩ | ⟨g, cp, cur, e, _⟩
    · injection e with e1 _ _
      subst e1
      refine ⟨0, rs, h2, fun hp => by omega, ⟨fun hp => by omega, fun j r hr => ?_, W4.out, G4.out, G24.out.size, G2.out.size⟩⟩
      have := (List.getElem?_eq_some_iff.1 hr).1
      omega
    · injection e with e1 _ _
      subst e1
      exact ⟨g, rs, h2, fun _ => rfl, OwnInv6.start h1 h3 h2 rfl G2.out.size G24.out W4.out G4.out⟩
  have HRL := Lib.hid hrl; have HAo := Lib.hid hAo; have HI := Lib.hid hI
  clear hrl hAo hI
  go_loopw [5, 6, 7] (fun i _ _ wr => ∃ k : Nat, k ≤ l.length ∧ i = .int .i64 k ∧ OwnInv6 w.heap.size w2.heap.size g w rs (.slice Aw nw cw) l wr) (fun i _ _ _ => l.length - (intOf i).toNat)
  case atStart => exact ⟨0, Nat.zero_le _, rfl, HI.out⟩
  case round =>
    obtain ⟨k, hk, rfl, hi⟩ := hrel
    have HI1 := Lib.hid hi
    clear hi HI
    by_cases hlt : k < l.length
    · have hlt' : (k : Int) < l.length := by omega
      obtain rfl := HAo.out (by omega)
      have e1 : rs[k]? = some (rs[k]'(by rw [HRL.out]; exact hlt)) := List.getElem?_eq_getElem _
      generalize rs[k]'(by rw [HRL.out]; exact hlt) = r at *
      have E1 := Lib.hid e1
      have HKR := Lib.hid (show k < rs.length by rw [HRL.out]; exact hlt)
      clear e1
      go_wp2
      go_loopw [6] (fun q wr2 => ∃ q' : Nat, q' ≤ r.kn ∧ q = .int .i64 q' ∧ OwnInv6 w.heap.size w2.heap.size g w rs (.slice Aw nw cw) l wr2) (fun q _ => r.kn - (intOf q).toNat)
      case atStart => exact ⟨0, Nat.zero_le _, rfl, HI1.out⟩
      case round =>
        obtain ⟨q, hq, rfl, hi⟩ := hrel
        have HI2 := Lib.hid hi
        obtain ⟨c0, c1, _, _, ⟨hkc, hkm⟩, _⟩ := hi.cells E1.out
        clear hi HI1
        by_cases hqt : q < r.kn
        · have hqt' : (q : Int) < r.kn := by omega
          obtain ⟨gb, x, hka, cx, fx, hnext⟩ := HI2.out.key E1.out hqt
          rw [hka] at c0
          have hx := bits_xor_b x 1#8
          have hx1 : bI 1#8 = 1 := rfl
          rw [hx1] at hx
          clear hnext
          go_wp2
          refine wp_region_free 16 98 (by kernel_rfl) (by kernel_rfl) rfl (by kernel_rfl) ?_; simp only [List.take_succ_cons, List.take_zero, List.drop_succ_cons, List.drop_zero]
          repeat (apply free_pure rfl; focus (intro vs w hg hd; have q0 := hg.cell c0; have q1 := hg.cell cx; (try simp [Region.binds] at hd); simp only [execOp, resolve, Option.map_some, Option.map_none, List.map_toArray, List.map_cons, List.map_nil, rho_const, rho_func]; (repeat (conv in rho _ _ _ _ (Operand.tmp _) => whnf)); (try simp only [hd]); go_simp; (repeat (conv in rho _ _ _ _ (Operand.tmp _) => whnf)); (try simp only [hd]); (try simp only [hx]); rfl))
          intro vs w' hg hv; have h14 := hv 14 (by omega); simp at h14; have h15 := hv 15 (by omega); simp at h15; simp only [putL, dstAt, List.range, List.range.loop, if_true, List.getElem?_toArray, List.getElem?_cons_zero, List.getElem?_cons_succ, Option.bind_some, Act.put, List.setIfInBounds_toArray, List.set_cons_zero, List.set_cons_succ]
          have gg := Grows.of_drew hg
          have HI3 := Lib.hid (HI2.out.grows gg)
          obtain ⟨gb2, x2, hka2, cx2, fx2, hnext2⟩ := HI3.out.key E1.out hqt
          rw [hka] at hka2
          obtain rfl : gb = gb2 := by injection hka2 with e; injection e
          have HN := Lib.hid (hnext2 (x ^^^ 1#8))
          rw [h14, h15]
          clear hv h14 h15 hg hnext2 hka2 gg HI2 c0 cx
          generalize vs 0 = z0, vs 1 = z1, vs 2 = z2, vs 3 = z3, vs 4 = z4, vs 5 = z5, vs 6 = z6, vs 7 = z7, vs 8 = z8, vs 9 = z9, vs 10 = z10, vs 11 = z11, vs 12 = z12, vs 13 = z13, vs 14 = z14, vs 15 = z15 at *
          go_wp2
          go_roundw
          case rel => exact ⟨q + 1, by omega, by go_num, HN.out⟩
          case measure => simp [intOf]; omega
        · obtain rfl : q = r.kn := by omega
          have hqt' : ¬ (r.kn : Int) < r.kn := by omega
          go_wp2
          go_loopw [7] (fun q wr3 => ∃ q' : Nat, q' ≤ r.vn ∧ q = .int .i64 q' ∧ OwnInv6 w.heap.size w2.heap.size g w rs (.slice Aw nw cw) l wr3) (fun q _ => r.vn - (intOf q).toNat)
          case atStart => exact ⟨0, Nat.zero_le _, rfl, HI2.out⟩
          case round =>
            obtain ⟨q, hq, rfl, hi⟩ := hrel
            have HI3 := Lib.hid hi
            obtain ⟨c0, c1, ⟨s, c7⟩, f7, _, hvc, hvm⟩ := hi.cells E1.out
            clear hi HI2
            have HI2 := HI3
            clear HI3
            by_cases hqt : q < r.vn
            · have hqt' : (q : Int) < r.vn := by omega
              obtain ⟨gb, x, hka, cx, fx, _⟩ := HI2.out.val E1.out hqt
              rw [hka] at c1
              have hx := bits_xor_b x 1#8
              have hx1 : bI 1#8 = 1 := rfl
              rw [hx1] at hx
              go_wp2
              refine wp_region_free 16 98 (by kernel_rfl) (by kernel_rfl) rfl (by kernel_rfl) ?_; simp only [List.take_succ_cons, List.take_zero, List.drop_succ_cons, List.drop_zero]
              repeat (apply free_pure rfl; focus (intro vs w hg hd; have q0 := hg.cell c1; have q1 := hg.cell cx; (try simp [Region.binds] at hd); simp only [execOp, resolve, Option.map_some, Option.map_none, List.map_toArray, List.map_cons, List.map_nil, rho_const, rho_func]; (repeat (conv in rho _ _ _ _ (Operand.tmp _) => whnf)); (try simp only [hd]); go_simp; (repeat (conv in rho _ _ _ _ (Operand.tmp _) => whnf)); (try simp only [hd]); (try simp only [hx]); rfl))
              intro vs w' hg hv; have h14 := hv 14 (by omega); simp at h14; have h15 := hv 15 (by omega); simp at h15; simp only [putL, dstAt, List.range, List.range.loop, if_true, List.getElem?_toArray, List.getElem?_cons_zero, List.getElem?_cons_succ, Option.bind_some, Act.put, List.setIfInBounds_toArray, List.set_cons_zero, List.set_cons_succ]
              have gg := Grows.of_drew hg
              have HI3 := Lib.hid (HI2.out.grows gg)
              obtain ⟨gb2, x2, hka2, cx2, fx2, hnext2⟩ := HI3.out.val E1.out hqt
              rw [hka] at hka2
              obtain rfl : gb = gb2 := by injection hka2 with e; injection e
              have HN := Lib.hid (hnext2 (x ^^^ 1#8))
              rw [h14, h15]
              clear hv h14 h15 hg hnext2 hka2 gg HI2 c1 cx
              generalize vs 0 = z0, vs 1 = z1, vs 2 = z2, vs 3 = z3, vs 4 = z4, vs 5 = z5, vs 6 = z6, vs 7 = z7, vs 8 = z8, vs 9 = z9, vs 10 = z10, vs 11 = z11, vs 12 = z12, vs 13 = z13, vs 14 = z14, vs 15 = z15 at *
              go_wp2
              go_roundw
              case rel => exact ⟨q + 1, by omega, by go_num, HN.out⟩
              case measure => simp [intOf]; omega
            · obtain rfl : q = r.vn := by omega
              have hqt' : ¬ (r.vn : Int) < r.vn := by omega
              have hsm := size_more s
              have HN := Lib.hid (HI2.out.size HKR.out (BitVec.ofInt 16 (hI s + 1)))
              clear HI2
              go_wp2
              go_roundw
              case rel => exact ⟨k + 1, by omega, by go_num, HN.out⟩
              case measure => simp [intOf]; omega
    · obtain rfl : k = l.length := by omega
      have hlt' : ¬ (l.length : Int) < l.length := by omega
      have HB := Lib.hid (show Grows w wr from HI1.out.below)
      have CS := Lib.hid (CSame2.out _ wr (HIt.out.grows HB.out) HI1.out.was.its)
      go_wp2_with (first
        | (go_at_call 14; (with_reducible refine CS.out.mono ?_); rintro e w8 ⟨rfl, g8⟩; have G8 := Lib.hid (HB.out.trans g8); clear g8)
        | (go_at_call 9; (with_reducible refine (CWakes.out _ G8.out).mono ?_); rintro e w9 ⟨rfl, g9⟩; have G9 := Lib.hid (G8.out.trans g9); clear g9))
      go_ret
      exact ⟨rfl, G9.out⟩
end Go.Proofs.YthdncpkmhodokaaDoor
