/- BrIter -/
import Derived.Test.YtjcommodiihcdaaDoorBrE
import Derived.Test.YtjcommodiihcdaaDoorLfIter
import Derived.Test.YtjcommodiihcdaaDoorTells
import Derived.Test.YtjcommodiihcdaaDoorPage
import Derived.TacticsInMore
import Derived.LoopNIn
import Derived.LoopIn
import Derived.BigFrameIn
/- The kids that a page tells, as far as they can be taken: the iterator. -/
namespace Go.Proofs.YtjcommodiihcdaaDoor
open Go.RowKit Go.Shelf
set_option linter.unusedVariables false
set_option linter.unusedSimpArgs false
attribute [local go_sem] Oper.semAt_some
attribute [local go_sem high] sliced_cut
section
variable {F : Fence} {nn : Nat} {w : World} {ops : Array Oper} {rest : List Oper} {op : Oper} {a : Act} {Q : Exit → Act → World → Prop}
theorem wpListIn_loadG_kid (hF : WideF F) (hw : Region.wanted op (yielded ops a.tmps) = true) (y : Operand) (ho : op.op = .load 47 y) (g : Nat) (r : KRaw) (hx : a.eval y = .pointer (some ⟨g, 0, none⟩)) (hr : Row w g 47 (kdA r))
    (h : wpListIn F nn Tryd.prog ops Q rest (a.put op.dst (.agg (kdA r))) w) : wpListIn F nn Tryd.prog ops Q (op :: rest) a w :=
  wpListIn_doesG hF hw (by rw [ho]; intro c e; cases e) (R := fun v w' => v = .agg (kdA r) ∧ w = w') (dk_load 47 y ⟨g, 0, none⟩ _ ho hx (kid_run_load (kdA_row hr)) ⟨rfl, rfl⟩) (by rintro v w' ⟨rfl, rfl⟩; exact h)
theorem wpListIn_load_kid (hF : WideF F) (hgd : op.guard = none) (y : Operand) (ho : op.op = .load 47 y) (g : Nat) (r : KRaw) (hx : a.eval y = .pointer (some ⟨g, 0, none⟩)) (hr : Row w g 47 (kdA r))
    (h : wpListIn F nn Tryd.prog ops Q rest (a.put op.dst (.agg (kdA r))) w) : wpListIn F nn Tryd.prog ops Q (op :: rest) a w :=
  wpListIn_does hF hgd (by rw [ho]; intro c e; cases e) (R := fun v w' => v = .agg (kdA r) ∧ w = w') (dk_load 47 y ⟨g, 0, none⟩ _ ho hx (kid_run_load (kdA_row hr)) ⟨rfl, rfl⟩) (by rintro v w' ⟨rfl, rfl⟩; exact h)
theorem wpListIn_store_kid (hF : WideF F) (hgd : op.guard = none) (y z : Operand) (ho : op.op = .store 47 y z) (g : Nat) (r : KRaw) (old : Array Value) (hx : a.eval y = .pointer (some ⟨g, 0, none⟩)) (hy : a.eval z = .agg (kdA r)) (h8 : old.size = 6) (hr : Row w g 47 old)
    (h : ∀ w', Row w' g 47 (kdA r) → w.grownBy w' (some g) → wpListIn F nn Tryd.prog ops Q rest (a.put op.dst undef) w') : wpListIn F nn Tryd.prog ops Q (op :: rest) a w :=
  wpListIn_does hF hgd (by rw [ho]; intro c e; cases e) (R := fun v w' => v = undef ∧ Row w' g 47 (kdA r) ∧ w.grownBy w' (some g))
    (does_store_row 47 y z ho g (kdA r) hx hy old _ hr kid_info (by rw [h8]; rfl) (kdA_all r) (fun w' h1 h2 => ⟨rfl, h1, h2⟩)) (by rintro v w' ⟨rfl, h1, h2⟩; exact h w' h1 h2)
theorem wpListIn_slice_kid (hF : WideF F) (hgd : op.guard = none) (x : Operand) (ho : op.op = .buildSlice 22 1 #[(0, x)]) (r : KRaw) (hx : a.eval x = .agg (kdA r))
    (h : wpListIn F nn Tryd.prog ops Q rest (a.put op.dst (.slice (some ⟨w.heap.size, 0, none⟩) 1 1)) (w.alloc (.cells (kdA r) 47))) : wpListIn F nn Tryd.prog ops Q (op :: rest) a w :=
  wpListIn_does hF hgd (by rw [ho]; intro c e; cases e) (R := fun v w' => v = .slice (some ⟨w.heap.size, 0, none⟩) 1 1 ∧ w.alloc (.cells (kdA r) 47) = w') (does_slice_kid x ho r hx ⟨rfl, rfl⟩) (by rintro v w' ⟨rfl, rfl⟩; exact h)
theorem wpListIn_append_kds (hF : WideF F) (hgd : op.guard = none) (y x : Operand)
    (ho : op.op = .call { callee := .builtin .append, args := #[y, x], argTypes := #[22, 22] }) (base B : Nat) (l : List Kd) (r : KRaw) (i : Kd)
    (hv : OwnKds base w (a.eval y) l) (hx : Els 6 kdE B w (a.eval x) [r]) (hr : KdOwn base w r i) (hlen : l.length + 1 ≤ 1000000) (hb : base ≤ w.heap.size)
    (h : ∀ v' w', OwnKds base w' v' (l ++ [i]) → w.grownBy w' (a.eval y).ownBlock → wpListIn F nn Tryd.prog ops Q rest (a.put op.dst v') w') : wpListIn F nn Tryd.prog ops Q (op :: rest) a w :=
  wpListIn_does hF hgd (by rw [ho]; intro c e; cases e) (R := fun v' w' => OwnKds base w' v' (l ++ [i]) ∧ w.grownBy w' (a.eval y).ownBlock)
    (does_append_kds y x ho l r i hv hx hr hlen hb (fun v' w' h1 h2 => ⟨h1, h2⟩)) (by rintro v w' ⟨h1, h2⟩; exact h v w' h1 h2)
end
set_option maxRecDepth 100000 in
set_option maxHeartbeats 4000000 in
theorem kids1_in (n : Nat) (hn : 1 ≤ n) (l Bp B : Nat) (p : List (BitVec 8)) (hB0 : 0 < B) (hBp : Bp < B) (J : List (KRaw × Kd) → World → Prop) (hJ : Lasts J)
    (hY : ∀ pre z W1, J pre W1 → KdOwn B W1 z.1 z.2 → pre.length < 256 → YieldAt Fence.wide (n - 1) Tryd.prog l #[.agg (kdA z.1)] W1 fun e W' => e = .returned (.bool true) ∧ J (pre ++ [z]) W' ∧ Leaves B W1 W')
    (W : World) (hB : B ≤ W.heap.size) (hp : PRow W Bp p) (hG : Glob W) (h0 : J [] W) :
    CallsIn Fence.wide n Tryd.prog 45 #[.func (.yield l) #[] #[], .pointer (some ⟨Bp, 0, none⟩)] W fun e W' => (∃ v, e = .returned v) ∧
      ∃ zs, BrM.Coll (LeafM.many p) (p.drop 2) (zs.map (·.2)) ∧ J zs W' := by
  have HY := Lib.hid hY; have HJ := Lib.hid hJ
  have hlen := hp.1
  have hb0 : Bytes B W (.slice (some ⟨Bp, 2, none⟩) 254 254) (p.drop 2) := by
    refine ⟨some ⟨Bp, 2, none⟩, 254, by simp [hlen], by simp [hlen], by decide, fun _ => ⟨Bp, 2, rfl, hBp, fun j u hu => ?_⟩⟩
    rw [List.getElem?_map] at hu
    obtain ⟨x, hx, rfl⟩ := Option.map_eq_some_iff.1 hu
    rw [List.getElem?_drop] at hx
    exact hp.cell (2 + j) x hx
  have h1 : p[1]? = some (p[1]'(by omega)) := List.getElem?_eq_getElem (by omega)
  have hc1 := hp.cell 1 _ h1
  have hmany : LeafM.many p = (p[1]'(by omega)).toNat := by unfold LeafM.many; rw [h1]; rfl
  have HP := Lib.hid hp; have HGl := Lib.hid hG; have HB := Lib.hid hB
  have HH : Hid (Held B W (.slice (some ⟨Bp, 2, none⟩) 254 254) (p.drop 2)) := .inl hb0
  have hM := (p[1]'(by omega)).isLt
  rw [show bI (p[1]'(by omega)) = ((p[1]'(by omega)).toNat : Int) from rfl] at hc1
  rw [← hmany] at hc1 hM
  have HI0 : Hid (BrM.kids 0 (p.drop 2) = some (([] : List (KRaw × Kd)).map (·.2), p.drop 2)) := rfl
  have HL0 : Hid ((p.drop 2).length ≤ 900000) := by unfold Hid; rw [List.length_drop]; omega
  generalize LeafM.many p = M at *
  generalize p.drop 2 = b0 at *
  clear hY hJ h1 hp hG hB hb0 hmany
  refine callsIn_of_wp Tryd.func45 rfl trivial ?_ rfl
  simp only [Tryd.ntmps45, List.size_toArray, List.length_cons, List.length_nil, Nat.reduceAdd, Nat.reduceSub, Array.replicate_succ, Array.replicate_zero, List.push_toArray, List.append_toArray, List.nil_append, List.cons_append]
  gi_wp2
  refine wpIn_wide.2 (wp_scope_straight ((wpIn_wide (n := n)).1 ?_))
  gi_wp2
  refine wpIn_label ?_
  gi_wp2
  gi_loopw [3, 4, 5, 6, 10] (fun b _ _ _ i wr => ∃ (k : Nat) (zs : List (KRaw × Kd)) (r : List (BitVec 8)), k ≤ M ∧ i = .int .u8 k ∧ zs.length = k ∧ BrM.kids k b0 = some (zs.map (·.2), r) ∧ Held B wr b r ∧ r.length ≤ 900000 ∧ J zs wr ∧ PRow wr Bp p ∧ Glob wr ∧ B ≤ wr.heap.size) (fun _ _ _ _ i _ => M - (intOf i).toNat)
  case atStart => exact ⟨0, [], b0, Nat.zero_le _, rfl, rfl, HI0.out, HH.out, HL0.out, h0, HP.out, HGl.out, HB.out⟩
  case round =>
    obtain ⟨k, zs, r, hk, rfl, hzl, hit, hheld, hrl, hJk, hpr, hgl, hBr⟩ := hrel
    have HZL := Lib.hid hzl; have HIt := Lib.hid hit; have HHe := Lib.hid hheld; have HRl := Lib.hid hrl; have HJk := Lib.hid hJk; have HPr := Lib.hid hpr; have HGr := Lib.hid hgl; have HBr := Lib.hid hBr
    have hcM := hc1
    clear hzl hit hheld hrl hJk hpr hgl hBr
    by_cases hlt : k < M
    · have HTK := Lib.hid (take7_any _ r wr (HHe.out.bytes HBr.out) HRl.out HGr.out)
      have hw8 : IntKind.u8.wrap ((k : Int) + 1) = (k : Int) + 1 := IntWalk.u8_in _ (by omega)
      have hltI : (k : Int) < M := by omega
      have HE := Lib.hid (BrM.kid_err (b := r)); have HV := Lib.hid (BrM.kid_tk (b := r))
      have HL2 : Hid ((BrM.tkR r).length ≤ 900000) := Nat.le_trans (BrM.tkR_len r) HRl.out
      generalize BrM.tkE r = E1 at *
      generalize BrM.tkP r = TP at *
      generalize BrM.tkR r = R2 at *
      generalize PackM.tbS r 8 = S0 at *
      by_cases hE1 : E1 = 0
      case neg =>
        have HNo := Lib.hid (HE.out hE1)
        have hb1 : (E1 != 0) = true := by simpa using hE1
        gi_wp2_with (first
          | (refine ⟨trivial, ?_⟩; gi_at_call 46; refine (callsIn_wide.2 HTK.out).mono ?_; rintro e w2 ⟨kr, q, rfl, hs, hq, hg⟩; obtain ⟨Aq, cq, rfl, _, _⟩ := hq.form; have G2 := Lib.hid hg; have S2 := Lib.hid (hs.more HBr.out); have Q2 := Lib.hid (hq.more HBr.out); clear hs hq hg)
          | ((with_reducible refine wpListIn_store_kid WideF.wide ?_ (.tmp 4) (.tmp 15) ?_ w2.heap.size kr #[.slice none 0 0, .int .u8 0, .int .u16 0, .int .u16 0, .int .u32 0, .int .u64 0] ?_ ?_ ?_ ?_ ?_); exact rfl; exact rfl; exact rfl; exact rfl; exact rfl; exact Row.new w2 _ _; intro w3 hp hg; have X3 := Lib.hid hp; have g := grown_fresh (W := w2) (W' := w3) rfl hg; have S3 := Lib.hid (S2.out.grows g); have Q3 := Lib.hid (Q2.out.grows g); have G3 := Lib.hid (G2.out.trans g); clear hp hg g)
          | (with_reducible refine ⟨skip_fence, ?_⟩))
        (try simp only [Exit.noGoto])
        go_end0
        exact ⟨⟨_, rfl⟩, zs, ⟨_, by rw [List.length_map, HZL.out]; exact HIt.out, by rw [List.length_map, HZL.out]; omega, .inr HNo.out⟩, HJ.out _ _ _ HJk.out G3.out⟩
      subst hE1
      have HNx := Lib.hid (HV.out rfl)
      gi_wp2_with (first
        | (refine ⟨trivial, ?_⟩; gi_at_call 46; refine (callsIn_wide.2 HTK.out).mono ?_; rintro e w2 ⟨kr, q, rfl, hs, hq, hg⟩; obtain ⟨Aq, cq, rfl, _, _⟩ := hq.form; have G2 := Lib.hid hg; have S2 := Lib.hid (hs.more HBr.out); have Q2 := Lib.hid (hq.more HBr.out); clear hs hq hg)
        | ((with_reducible refine wpListIn_store_kid WideF.wide ?_ (.tmp 4) (.tmp 15) ?_ w2.heap.size kr #[.slice none 0 0, .int .u8 0, .int .u16 0, .int .u16 0, .int .u32 0, .int .u64 0] ?_ ?_ ?_ ?_ ?_); exact rfl; exact rfl; exact rfl; exact rfl; exact rfl; exact Row.new w2 _ _; intro w3 hp hg; have X3 := Lib.hid hp; have g := grown_fresh (W := w2) (W' := w3) rfl hg; have S3 := Lib.hid (S2.out.grows g); have Q3 := Lib.hid (Q2.out.grows g); have G3 := Lib.hid (G2.out.trans g); clear hp hg g; obtain ⟨fn, tmps, assign, body, hy, hR⟩ := HY.out zs (kr, ⟨S0, TP⟩) w3 (HJ.out _ _ _ HJk.out G3.out) S3.out (by rw [HZL.out]; omega); dsimp only at hy)
        | ((with_reducible refine wpListIn_loadG_kid (op := ⟨some 22, _, _, _, _, _⟩) WideF.wide ?_ (.tmp 4) ?_ w2.heap.size kr ?_ ?_ ?_); exact rfl; exact rfl; exact rfl; exact X3.out))
      refine hR.mono ?_
      rintro e W9 ⟨rfl, hJ9, hk9⟩
      gi_wp2
      go_roundw
      case rel => exact ⟨k + 1, zs ++ [(kr, ⟨S0, TP⟩)], R2, by omega, by simp, by simp [HZL.out], by rw [List.map_append]; exact BrM.kids_next HIt.out HNx.out, .inr (hk9.mine _ _ Q3.out), HL2.out, hJ9, (HPr.out.grows G3.out).below hk9.below hBp, (HGr.out.grows G3.out).below hk9.below hB0, Nat.le_trans (Nat.le_trans HBr.out G3.out.size) hk9.below.size⟩
      case measure => simp [intOf]; omega
    · obtain rfl : k = M := by omega
      gi_wp2
      (try simp only [Exit.noGoto])
      go_end0
      exact ⟨⟨_, rfl⟩, zs, ⟨_, by rw [List.length_map, HZL.out]; exact HIt.out, by rw [List.length_map, HZL.out]; omega, .inl (by rw [List.length_map]; exact HZL.out)⟩, HJk.out⟩
theorem kids_any (p : List (BitVec 8)) (w : World) :
    Calls Tryd.prog 30 #[.agg (pageA p)] w fun e w' => e = .returned (.func (.func 45) #[] #[.pointer (some ⟨w.heap.size, 0, none⟩)]) ∧ w.alloc (.cells (pageA p) 24) = w' := by
  go_enter Tryd.func30, Tryd.ntmps30
  go_wp2
  go_ret
  exact ⟨rfl, rfl⟩
theorem kids_tells (n : Nat) (hn : 1 ≤ n) (Bp B : Nat) (p : List (BitVec 8)) (w : World) (hB0 : 0 < B) (hBp : Bp < B) (hB : B ≤ w.heap.size) (hp : PRow w Bp p) (hG : Glob w) :
    Tells n Tryd.prog 45 #[.pointer (some ⟨Bp, 0, none⟩)] (fun z : KRaw × Kd => #[.agg (kdA z.1)]) (fun z W => KdOwn B W z.1 z.2) (Leaves B) (fun zs => BrM.Coll (LeafM.many p) (p.drop 2) (zs.map (·.2))) 256 w := fun l J W hW hJ hY h0 =>
  kids1_in n hn l Bp B p hB0 hBp J hJ hY W (Nat.le_trans hB hW.size) (hp.grows hW) (hG.grows hW) h0
end Go.Proofs.YtjcommodiihcdaaDoor
