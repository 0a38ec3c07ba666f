/- LfIter -/
import Derived.Test.YthdncpkmhodokaaDoorLfTake
import Derived.Test.YthdncpkmhodokaaDoorLfItem
import Derived.Test.YthdncpkmhodokaaDoorTells
import Derived.Test.YthdncpkmhodokaaDoorPage
import Derived.TacticsInMore
import Derived.LoopNIn
import Derived.LoopIn
import Derived.BigFrameIn
/- The items that a page tells, as far as they can be taken: the iterator. -/
namespace Go.Proofs.YthdncpkmhodokaaDoor
open Go.RowKit Go.Shelf
set_option linter.unusedVariables false
set_option linter.unusedSimpArgs false
attribute [local go_sem] Oper.semAt_some
attribute [local go_sem high] sliced_cut
namespace LeafM
theorem item_err {b : List (BitVec 8)} (h : ¬ tkE b = 0) : item b = none := by
  unfold item
  refine if_neg (fun h2 => h ?_)
  unfold tkE
  rw [if_pos h2.1]
  exact h2.2.1
theorem tk_zero {b : List (BitVec 8)} (h : tkE b = 0) : PackM.tbE b 8 = 0 ∧ PackM.takeE (PackM.tbR b 8) 1 = 0 ∧ tkN b = PackM.takeN (PackM.tbR b 8) 1 ∧ tkR b = PackM.takeR (PackM.tbR b 8) 1 := by
  unfold tkE at h
  by_cases h8 : PackM.tbE b 8 = 0
  · rw [if_pos h8] at h
    exact ⟨h8, h, if_pos h8, if_pos h8⟩
  · rw [if_neg h8] at h
    exact absurd h h8
theorem item_val {b : List (BitVec 8)} (h : tkE b = 0) (hn : tkN b = 0#64) : item b = if PackM.tbE (tkR b) 16 = 0 then some (⟨PackM.tbS b 8, PackM.tbS (tkR b) 16, PtM.none, 0#16⟩, PackM.tbR (tkR b) 16) else none := by
  obtain ⟨h1, h2, h3, h4⟩ := tk_zero h
  unfold item
  rw [if_pos ⟨h1, h2, by rw [← h3, hn]; decide⟩, ← h3, if_pos hn, ← h4]
theorem item_over {b : List (BitVec 8)} (h : tkE b = 0) (hn : tkN b = 1#64) : item b = if toE (tkR b) = 0 then some (⟨PackM.tbS b 8, [], toP (tkR b), (PackM.takeN (tkR b) 2).setWidth 16⟩, toR (tkR b)) else none := by
  obtain ⟨h1, h2, h3, h4⟩ := tk_zero h
  unfold item
  rw [if_pos ⟨h1, h2, by rw [← h3, hn]; decide⟩, ← h3, if_neg (by rw [hn]; decide), ← h4]
  unfold toE toP toR
  by_cases h5 : PackM.takeE (tkR b) 2 = 0
  · rw [if_pos h5, if_pos h5, if_pos h5]
    by_cases h6 : PtM.takeE (PackM.takeR (tkR b) 2) = 0
    · rw [if_pos h6, if_pos ⟨h5, h6⟩]
    · rw [if_neg h6, if_neg (fun h => h6 h.2)]
  · rw [if_neg h5, if_neg h5, if_neg (fun h => h5 h.1)]
theorem item_else {b : List (BitVec 8)} (h0 : ¬ tkN b = 0#64) (h1 : ¬ tkN b = 1#64) : item b = none := by
  unfold item
  refine if_neg (fun h2 => ?_)
  have h3 : tkN b = PackM.takeN (PackM.tbR b 8) 1 := if_pos h2.1
  have h4 := h2.2.2
  rw [← h3] at h4
  have : (tkN b).toNat = 0 ∨ (tkN b).toNat = 1 := by omega
  rcases this with h5 | h5
  · exact h0 (BitVec.eq_of_toNat_eq h5)
  · exact h1 (BitVec.eq_of_toNat_eq h5)
theorem tkR_len (b : List (BitVec 8)) : (tkR b).length ≤ b.length := by
  unfold tkR; split
  · exact Nat.le_trans (takeR_len' _ _) (tbR_len' _ _)
  · exact tbR_len' _ _
theorem toR_len (b : List (BitVec 8)) : (toR b).length ≤ b.length := by
  unfold toR; split
  · refine Nat.le_trans ?_ (takeR_len' b 2)
    unfold PtM.takeR
    split
    · exact Nat.le_refl _
    · rw [List.length_drop]; omega
  · exact takeR_len' _ _
end LeafM
/-- What a round keeps: all below B, and rows of bytes in memory from B on. -/
structure Leaves (B : Nat) (W W' : World) : Prop where
  below : Below B W W'
  mine : ∀ v l, Mine B W v l → Mine B W' v l
theorem Leaves.t {B : Nat} {X Y Z : World} (h : Leaves B X Y) (k : Leaves B Y Z) : Leaves B X Z := ⟨h.below.trans k.below, fun v l hm => k.mine v l (h.mine v l hm)⟩
/-- Bytes below B, or in memory of one's own from B on. -/
def Held (B : Nat) (W : World) (v : Value) (l : List (BitVec 8)) : Prop := Bytes B W v l ∨ Mine B W v l
theorem Held.bytes {B : Nat} {W : World} {v : Value} {l : List (BitVec 8)} (h : Held B W v l) (hB : B ≤ W.heap.size) : Bytes W.heap.size W v l := h.elim (fun h => h.more hB) (fun h => h.bytes)
theorem Held.grows {B : Nat} {W W' : World} {v : Value} {l : List (BitVec 8)} (h : Held B W v l) (hB : B ≤ W.heap.size) (hg : Grows W W') : Held B W' v l := h.elim (fun h => .inl (h.below (Below.mono hg hB))) (fun h => .inr (h.grows hg))
theorem Held.kept {B : Nat} {W W' : World} {v : Value} {l : List (BitVec 8)} (h : Held B W v l) (hk : Leaves B W W') : Held B W' v l := h.elim (fun h => .inl (h.below hk.below)) (fun h => .inr (hk.mine _ _ h))
theorem Glob.below {B : Nat} {w w' : World} (h : Glob w) (hg : Below B w w') (hB : 0 < B) : Glob w' := fun j v hv => (hg.cell (p := ⟨0, 0 + j, none⟩) hB).trans (h j v hv)
theorem wpListIn_doesG {F : Fence} {nn : Nat} {P : Program} {w : World} {ops : Array Oper} {rest : List Oper} {o : Oper} {a : Act} {Q : Exit → Act → World → Prop} {R : Value → World → Prop} (hF : WideF F) (hw : Region.wanted o (yielded ops a.tmps) = true) (hnd : ∀ c, o.op ≠ .defer c) (h : Does P o a.eval w R)
    (hK : ∀ v w', R v w' → wpListIn F nn P ops Q rest (a.put o.dst v) w') : wpListIn F nn P ops Q (o :: rest) a w :=
  BigFrame.wpListIn_want hw fun K hK' => Does.wpIn hF hnd h (fun v w' hR => hK' _ _ (hK v w' hR))
theorem wpListIn_loadG_it {F : Fence} {nn : Nat} {w : World} {ops : Array Oper} {rest : List Oper} {op : Oper} {a : Act} {Q : Exit → Act → World → Prop} (hF : WideF F) (hw : Region.wanted op (yielded ops a.tmps) = true) (y : Operand) (ho : op.op = .load 45 y) (g : Nat) (r : Raw) (hx : a.eval y = .pointer (some ⟨g, 0, none⟩)) (hr : Row w g 45 (rawA r))
    (h : wpListIn F nn Tryd.prog ops Q rest (a.put op.dst (.agg (rawA r))) w) : wpListIn F nn Tryd.prog ops Q (op :: rest) a w :=
  wpListIn_doesG hF hw (by rw [ho]; intro c e; cases e) (R := fun v w' => v = .agg (rawA r) ∧ w = w') (dk_load 45 y ⟨g, 0, none⟩ _ ho hx (item_run_load (rawA_row hr)) ⟨rfl, rfl⟩) (by rintro v w' ⟨rfl, rfl⟩; exact h)
theorem wpListIn_store_ptAt {F : Fence} {nn : Nat} {w : World} {ops : Array Oper} {rest : List Oper} {op : Oper} {a : Act} {Q : Exit → Act → World → Prop} (hF : WideF F) (hgd : op.guard = none) (x y : Operand) (ho : op.op = .store 43 x y) (g : Nat) (P : Pt) (r : Raw) (hx : a.eval x = .pointer (some ⟨g, 2, none⟩)) (hy : a.eval y = .agg (ptA P)) (hr : Row w g 45 (rawA r))
    (h : ∀ w', Row w' g 45 (rawA { r with over := P }) → w.grownBy w' (some g) → wpListIn F nn Tryd.prog ops Q rest (a.put op.dst undef) w') : wpListIn F nn Tryd.prog ops Q (op :: rest) a w :=
  wpListIn_does hF hgd (by rw [ho]; intro c e; cases e) (R := fun v w' => v = undef ∧ Row w' g 45 (rawA { r with over := P }) ∧ w.grownBy w' (some g))
    (does_store_mid 43 x y ho g 2 (ptA P) hx hy (pt_there hr) ptr_info (ptA_one P) ⟨rfl, row_pt hr, cells_grown _ _ _⟩) (by rintro v w' ⟨rfl, h1, h2⟩; exact h w' h1 h2)
theorem skip_fence : ∀ f : FuncId, none = some f → Fence.wide.fn f := fun _ _ => trivial
theorem own_raw {B : Nat} {W : World} {r : Raw} {x : It} (h : RawOwn B W r x) : RawIs W.heap.size W r x := h.is
set_option maxRecDepth 100000 in
set_option maxHeartbeats 4000000 in
theorem items1_in (n : Nat) (hn : 1 ≤ n) (l Bp B : Nat) (p : List (BitVec 8)) (hB0 : 0 < B) (hBp : Bp < B) (J : List (Raw × It) → World → Prop) (hJ : Lasts J)
    (hY : ∀ pre z W1, J pre W1 → RawOwn B W1 z.1 z.2 → pre.length < 256 → YieldAt Fence.wide (n - 1) Tryd.prog l #[.agg (rawA z.1)] W1 fun e W' => e = .returned (.bool true) ∧ J (pre ++ [z]) W' ∧ Leaves B W1 W')
    (W : World) (hB : B ≤ W.heap.size) (hp : PRow W Bp p) (hG : Glob W) (h0 : J [] W) :
    CallsIn Fence.wide n Tryd.prog 41 #[.func (.yield l) #[] #[], .pointer (some ⟨Bp, 0, none⟩)] W fun e W' => (∃ v, e = .returned v) ∧
      ∃ zs, LeafM.Coll (LeafM.many p) (p.drop 2) (zs.map (·.2)) ∧ J zs W' := by
  have HY := Lib.hid hY; have HJ := Lib.hid hJ
  have hlen := hp.1
  have hb0 : Bytes B W (.slice (some ⟨Bp, 2, none⟩) 254 254) (p.drop 2) := by
    refine ⟨some ⟨Bp, 2, none⟩, 254, by simp [hlen], by simp [hlen], by decide, fun _ => ⟨Bp, 2, rfl, hBp, fun j u hu => ?_⟩⟩
    rw [List.getElem?_map] at hu
    obtain ⟨x, hx, rfl⟩ := Option.map_eq_some_iff.1 hu
    rw [List.getElem?_drop] at hx
    exact hp.cell (2 + j) x hx
  have h1 : p[1]? = some (p[1]'(by omega)) := List.getElem?_eq_getElem (by omega)
  have hc1 := hp.cell 1 _ h1
  have hmany : LeafM.many p = (p[1]'(by omega)).toNat := by unfold LeafM.many; rw [h1]; rfl
  have HP := Lib.hid hp; have HGl := Lib.hid hG; have HB := Lib.hid hB
  have HH : Hid (Held B W (.slice (some ⟨Bp, 2, none⟩) 254 254) (p.drop 2)) := .inl hb0
  have hM := (p[1]'(by omega)).isLt
  rw [show bI (p[1]'(by omega)) = ((p[1]'(by omega)).toNat : Int) from rfl] at hc1
  rw [← hmany] at hc1 hM
  have HI0 : Hid (LeafM.items 0 (p.drop 2) = some (([] : List (Raw × It)).map (·.2), p.drop 2)) := rfl
  have HL0 : Hid ((p.drop 2).length ≤ 900000) := by unfold Hid; rw [List.length_drop]; omega
  generalize LeafM.many p = M at *
  generalize p.drop 2 = b0 at *
  clear hY hJ h1 hp hG hB hb0 hmany
  refine callsIn_of_wp Tryd.func41 rfl trivial ?_ rfl
  simp only [Tryd.ntmps41, List.size_toArray, List.length_cons, List.length_nil, Nat.reduceAdd, Nat.reduceSub, Array.replicate_succ, Array.replicate_zero, List.push_toArray, List.append_toArray, List.nil_append, List.cons_append]
  gi_wp2
  refine wpIn_wide.2 (wp_scope_straight ((wpIn_wide (n := n)).1 ?_))
  gi_wp2
  refine wpIn_label ?_
  gi_wp2
  gi_loopw [3, 4, 5, 6, 10] (fun b _ _ _ i wr => ∃ (k : Nat) (zs : List (Raw × It)) (r : List (BitVec 8)), k ≤ M ∧ i = .int .u8 k ∧ zs.length = k ∧ LeafM.items k b0 = some (zs.map (·.2), r) ∧ Held B wr b r ∧ r.length ≤ 900000 ∧ J zs wr ∧ PRow wr Bp p ∧ Glob wr ∧ B ≤ wr.heap.size) (fun _ _ _ _ i _ => M - (intOf i).toNat)
  case atStart => exact ⟨0, [], b0, Nat.zero_le _, rfl, rfl, HI0.out, HH.out, HL0.out, h0, HP.out, HGl.out, HB.out⟩
  case round =>
    obtain ⟨k, zs, r, hk, rfl, hzl, hit, hheld, hrl, hJk, hpr, hgl, hBr⟩ := hrel
    have HZL := Lib.hid hzl; have HIt := Lib.hid hit; have HHe := Lib.hid hheld; have HRl := Lib.hid hrl; have HJk := Lib.hid hJk; have HPr := Lib.hid hpr; have HGr := Lib.hid hgl; have HBr := Lib.hid hBr
    have hcM := hc1
    clear hzl hit hheld hrl hJk hpr hgl hBr
    by_cases hlt : k < M
    · have HX0 := Lib.hid (Row.new wr 45 (rawA noR))
      have HG0 := Lib.hid (Grows.alloc wr (.cells (rawA noR) 45))
      have HTK := Lib.hid (takeKey_any _ r _ (((HHe.out.bytes HBr.out).below HG0.out).more HG0.out.size) HRl.out)
      have hw8 : IntKind.u8.wrap ((k : Int) + 1) = (k : Int) + 1 := IntWalk.u8_in _ (by omega)
      have hltI : (k : Int) < M := by omega
      have HE := Lib.hid (LeafM.item_err (b := r)); have HV := Lib.hid (LeafM.item_val (b := r)); have HO := Lib.hid (LeafM.item_over (b := r)); have HX := Lib.hid (LeafM.item_else (b := r))
      have HL1 : Hid ((LeafM.tkR r).length ≤ 900000) := Nat.le_trans (LeafM.tkR_len r) HRl.out
      generalize LeafM.tkE r = E1 at *
      generalize LeafM.tkN r = N1 at *
      generalize LeafM.tkR r = R1 at *
      generalize PackM.tbS r 8 = S0 at *
      have u0 : uI 0#64 = 0 := rfl
      have u1 : uI 1#64 = 1 := rfl
      by_cases hE1 : E1 = 0
      case neg =>
        have HNo := Lib.hid (HE.out hE1)
        have hb1 : (E1 != 0) = true := by simpa using hE1
        gi_wp2_with (first
          | (refine ⟨trivial, ?_⟩; gi_at_call 42; refine (callsIn_wide.2 HTK.out).mono ?_; rintro e w2 ⟨s, q, rfl, hs, hq, hg⟩; have G2 := Lib.hid (HG0.out.trans hg); have X2 := Lib.hid (Row.grows HX0.out hg); have S2 := Lib.hid (hs.more (show B ≤ _ from Nat.le_trans HBr.out HG0.out.size)); have Q2 := Lib.hid (hq.more (show B ≤ _ from Nat.le_trans HBr.out HG0.out.size)); obtain ⟨As, cs, rfl, _, _⟩ := hs.form; have k2 := X2.out.cell 0; have f2 := X2.out.frozen 0; have X3 : Hid (Row (w2.setCell ⟨wr.heap.size, 0, none⟩ (.slice As S0.length cs)) wr.heap.size 45 (rawA { noR with ka := As, kn := S0.length, kc := cs })) := X2.out.set 0 (.slice As S0.length cs); have S3 := Lib.hid (S2.out.apart (setCell_grown _ _ 0 (.slice As S0.length cs)) X2.out (by decide)); have Q3 := Lib.hid (Q2.out.apart (setCell_grown _ _ 0 (.slice As S0.length cs)) X2.out (by decide)); have G3 := Lib.hid (show Grows wr (w2.setCell ⟨wr.heap.size, 0, none⟩ (.slice As S0.length cs)) from Below.setCell G2.out (p := ⟨wr.heap.size, 0, none⟩) (by simp) (.slice As S0.length cs)); clear hs hq hg))
        (try simp only [Exit.noGoto])
        refine bodyPost_ret (results_none rfl _ _ _) rfl ?_
        exact ⟨⟨_, rfl⟩, zs, ⟨_, by rw [List.length_map, HZL.out]; exact HIt.out, by rw [List.length_map, HZL.out]; omega, .inr HNo.out⟩, HJ.out _ _ _ HJk.out G3.out⟩
      subst hE1
      have HTB := Lib.hid (fun q W (h : Bytes (World.heap W).size W q R1) => takeBytes_any q R1 16 W h HL1.out (by omega) (by omega))
      have HTO := Lib.hid (fun q W (h : Bytes (World.heap W).size W q R1) (hg : Glob W) => takeOver_any q R1 W h HL1.out hg)
      by_cases hN0 : N1 = 0#64
      · have HVr := HV.out rfl hN0
        have HL2 : Hid ((PackM.tbR R1 16).length ≤ 900000) := Nat.le_trans (tbR_len' R1 16) HL1.out
        subst hN0
        generalize PackM.tbE R1 16 = E2 at *
        generalize PackM.tbS R1 16 = V1 at *
        generalize PackM.tbR R1 16 = R2 at *
        by_cases hE2 : E2 = 0
        · rw [if_pos hE2] at HVr
          have HNx := Lib.hid HVr
          subst hE2
          clear HVr
          gi_wp2_with (first
            | (refine ⟨trivial, ?_⟩; gi_at_call 42; refine (callsIn_wide.2 HTK.out).mono ?_; rintro e w2 ⟨s, q, rfl, hs, hq, hg⟩; have G2 := Lib.hid (HG0.out.trans hg); have X2 := Lib.hid (Row.grows HX0.out hg); have S2 := Lib.hid (hs.more (show B ≤ _ from Nat.le_trans HBr.out HG0.out.size)); have Q2 := Lib.hid (hq.more (show B ≤ _ from Nat.le_trans HBr.out HG0.out.size)); obtain ⟨As, cs, rfl, _, _⟩ := hs.form; have k2 := X2.out.cell 0; have f2 := X2.out.frozen 0; have X3 : Hid (Row (w2.setCell ⟨wr.heap.size, 0, none⟩ (.slice As S0.length cs)) wr.heap.size 45 (rawA { noR with ka := As, kn := S0.length, kc := cs })) := X2.out.set 0 (.slice As S0.length cs); have S3 := Lib.hid (S2.out.apart (setCell_grown _ _ 0 (.slice As S0.length cs)) X2.out (by decide)); have Q3 := Lib.hid (Q2.out.apart (setCell_grown _ _ 0 (.slice As S0.length cs)) X2.out (by decide)); have G3 := Lib.hid (show Grows wr (w2.setCell ⟨wr.heap.size, 0, none⟩ (.slice As S0.length cs)) from Below.setCell G2.out (p := ⟨wr.heap.size, 0, none⟩) (by simp) (.slice As S0.length cs)); clear hs hq hg)
            | (refine ⟨trivial, ?_⟩; gi_at_call 43; refine (callsIn_wide.2 (HTB.out _ _ Q3.out.bytes)).mono ?_; rintro e w4 ⟨s2, q2, rfl, hs, hq, hg⟩; have G4 := Lib.hid (G3.out.trans hg); have X4 := Lib.hid (Row.grows X3.out hg); have S4 := Lib.hid (S3.out.grows hg); have V4 := Lib.hid (hs.more (show B ≤ _ from Nat.le_trans HBr.out G3.out.size)); have Q4 := Lib.hid (hq.more (show B ≤ _ from Nat.le_trans HBr.out G3.out.size)); obtain ⟨Av, cv, rfl, _, _⟩ := hs.form; have k4 := X4.out.cell 1; have f4 := X4.out.frozen 1; have X5 : Hid (Row (w4.setCell ⟨wr.heap.size, 1, none⟩ (.slice Av V1.length cv)) wr.heap.size 45 (rawA { noR with ka := As, kn := S0.length, kc := cs, va := Av, vn := V1.length, vc := cv })) := X4.out.set 1 (.slice Av V1.length cv); have S5 := Lib.hid (S4.out.apart (setCell_grown _ _ 1 (.slice Av V1.length cv)) X4.out (by decide)); have V5 := Lib.hid (V4.out.apart (setCell_grown _ _ 1 (.slice Av V1.length cv)) X4.out (by decide)); have Q5 := Lib.hid (Q4.out.apart (setCell_grown _ _ 1 (.slice Av V1.length cv)) X4.out (by decide)); have G5 := Lib.hid (show Grows wr (w4.setCell ⟨wr.heap.size, 1, none⟩ (.slice Av V1.length cv)) from Below.setCell G4.out (p := ⟨wr.heap.size, 1, none⟩) (by simp) (.slice Av V1.length cv)); clear hs hq hg; obtain ⟨fn, tmps, assign, body, hy, hR⟩ := HY.out zs ({ noR with ka := As, kn := S0.length, kc := cs, va := Av, vn := V1.length, vc := cv }, ⟨S0, V1, PtM.none, 0#16⟩) (w4.setCell ⟨wr.heap.size, 1, none⟩ (.slice Av V1.length cv)) (HJ.out _ _ _ HJk.out G5.out) ⟨S5.out, V5.out, rfl, rfl⟩ (by rw [HZL.out]; omega); dsimp only at hy)
            | ((with_reducible refine wpListIn_loadG_it (op := ⟨some 36, _, _, _, _, _⟩) WideF.wide ?_ (.tmp 4) ?_ wr.heap.size { noR with ka := As, kn := S0.length, kc := cs, va := Av, vn := V1.length, vc := cv } ?_ ?_ ?_); exact rfl; exact rfl; exact rfl; exact X5.out))
          refine hR.mono ?_
          rintro e W9 ⟨rfl, hJ9, hk9⟩
          gi_wp2
          go_roundw
          case rel => exact ⟨k + 1, zs ++ [({ noR with ka := As, kn := S0.length, kc := cs, va := Av, vn := V1.length, vc := cv }, ⟨S0, V1, PtM.none, 0#16⟩)], R2, by omega, by simp, by simp [HZL.out], by rw [List.map_append]; exact LeafM.items_next HIt.out HNx.out, .inr (hk9.mine _ _ Q5.out), HL2.out, hJ9, (HPr.out.grows G5.out).below hk9.below hBp, (HGr.out.grows G5.out).below hk9.below hB0, Nat.le_trans (Nat.le_trans HBr.out G5.out.size) hk9.below.size⟩
          case measure => simp [intOf]; omega
        · rw [if_neg hE2] at HVr
          have HNo := Lib.hid HVr
          have hb2 : (E2 == 0) = false := by simpa using hE2
          clear HVr
          gi_wp2_with (first
            | (refine ⟨trivial, ?_⟩; gi_at_call 42; refine (callsIn_wide.2 HTK.out).mono ?_; rintro e w2 ⟨s, q, rfl, hs, hq, hg⟩; have G2 := Lib.hid (HG0.out.trans hg); have X2 := Lib.hid (Row.grows HX0.out hg); have S2 := Lib.hid (hs.more (show B ≤ _ from Nat.le_trans HBr.out HG0.out.size)); have Q2 := Lib.hid (hq.more (show B ≤ _ from Nat.le_trans HBr.out HG0.out.size)); obtain ⟨As, cs, rfl, _, _⟩ := hs.form; have k2 := X2.out.cell 0; have f2 := X2.out.frozen 0; have X3 : Hid (Row (w2.setCell ⟨wr.heap.size, 0, none⟩ (.slice As S0.length cs)) wr.heap.size 45 (rawA { noR with ka := As, kn := S0.length, kc := cs })) := X2.out.set 0 (.slice As S0.length cs); have S3 := Lib.hid (S2.out.apart (setCell_grown _ _ 0 (.slice As S0.length cs)) X2.out (by decide)); have Q3 := Lib.hid (Q2.out.apart (setCell_grown _ _ 0 (.slice As S0.length cs)) X2.out (by decide)); have G3 := Lib.hid (show Grows wr (w2.setCell ⟨wr.heap.size, 0, none⟩ (.slice As S0.length cs)) from Below.setCell G2.out (p := ⟨wr.heap.size, 0, none⟩) (by simp) (.slice As S0.length cs)); clear hs hq hg)
            | (refine ⟨trivial, ?_⟩; gi_at_call 43; refine (callsIn_wide.2 (HTB.out _ _ Q3.out.bytes)).mono ?_; rintro e w4 ⟨s2, q2, rfl, hs, hq, hg⟩; have G4 := Lib.hid (G3.out.trans hg); have X4 := Lib.hid (Row.grows X3.out hg); have S4 := Lib.hid (S3.out.grows hg); have V4 := Lib.hid (hs.more (show B ≤ _ from Nat.le_trans HBr.out G3.out.size)); have Q4 := Lib.hid (hq.more (show B ≤ _ from Nat.le_trans HBr.out G3.out.size)); obtain ⟨Av, cv, rfl, _, _⟩ := hs.form; have k4 := X4.out.cell 1; have f4 := X4.out.frozen 1; have X5 : Hid (Row (w4.setCell ⟨wr.heap.size, 1, none⟩ (.slice Av V1.length cv)) wr.heap.size 45 (rawA { noR with ka := As, kn := S0.length, kc := cs, va := Av, vn := V1.length, vc := cv })) := X4.out.set 1 (.slice Av V1.length cv); have S5 := Lib.hid (S4.out.apart (setCell_grown _ _ 1 (.slice Av V1.length cv)) X4.out (by decide)); have V5 := Lib.hid (V4.out.apart (setCell_grown _ _ 1 (.slice Av V1.length cv)) X4.out (by decide)); have Q5 := Lib.hid (Q4.out.apart (setCell_grown _ _ 1 (.slice Av V1.length cv)) X4.out (by decide)); have G5 := Lib.hid (show Grows wr (w4.setCell ⟨wr.heap.size, 1, none⟩ (.slice Av V1.length cv)) from Below.setCell G4.out (p := ⟨wr.heap.size, 1, none⟩) (by simp) (.slice Av V1.length cv)); clear hs hq hg)
            | (with_reducible refine ⟨skip_fence, ?_⟩))
          (try simp only [Exit.noGoto])
          refine bodyPost_ret (results_none rfl _ _ _) rfl ?_
          exact ⟨⟨_, rfl⟩, zs, ⟨_, by rw [List.length_map, HZL.out]; exact HIt.out, by rw [List.length_map, HZL.out]; omega, .inr HNo.out⟩, HJ.out _ _ _ HJk.out G5.out⟩
      by_cases hN1 : N1 = 1#64
      · have HVr := HO.out rfl hN1
        have HL2 : Hid ((LeafM.toR R1).length ≤ 900000) := Nat.le_trans (LeafM.toR_len R1) HL1.out
        subst hN1
        generalize LeafM.toE R1 = E2 at *
        generalize LeafM.toP R1 = TP at *
        generalize LeafM.toR R1 = R2 at *
        generalize (PackM.takeN R1 2).setWidth 16 = Z at *
        by_cases hE2 : E2 = 0
        · rw [if_pos hE2] at HVr
          have HNx := Lib.hid HVr
          subst hE2
          clear HVr
          gi_wp2_with (first
            | (refine ⟨trivial, ?_⟩; gi_at_call 42; refine (callsIn_wide.2 HTK.out).mono ?_; rintro e w2 ⟨s, q, rfl, hs, hq, hg⟩; have G2 := Lib.hid (HG0.out.trans hg); have X2 := Lib.hid (Row.grows HX0.out hg); have S2 := Lib.hid (hs.more (show B ≤ _ from Nat.le_trans HBr.out HG0.out.size)); have Q2 := Lib.hid (hq.more (show B ≤ _ from Nat.le_trans HBr.out HG0.out.size)); obtain ⟨As, cs, rfl, _, _⟩ := hs.form; have k2 := X2.out.cell 0; have f2 := X2.out.frozen 0; have X3 : Hid (Row (w2.setCell ⟨wr.heap.size, 0, none⟩ (.slice As S0.length cs)) wr.heap.size 45 (rawA { noR with ka := As, kn := S0.length, kc := cs })) := X2.out.set 0 (.slice As S0.length cs); have S3 := Lib.hid (S2.out.apart (setCell_grown _ _ 0 (.slice As S0.length cs)) X2.out (by decide)); have Q3 := Lib.hid (Q2.out.apart (setCell_grown _ _ 0 (.slice As S0.length cs)) X2.out (by decide)); have G3 := Lib.hid (show Grows wr (w2.setCell ⟨wr.heap.size, 0, none⟩ (.slice As S0.length cs)) from Below.setCell G2.out (p := ⟨wr.heap.size, 0, none⟩) (by simp) (.slice As S0.length cs)); clear hs hq hg)
            | (refine ⟨trivial, ?_⟩; gi_at_call 44; refine (callsIn_wide.2 (HTO.out _ _ Q3.out.bytes (HGr.out.grows G3.out))).mono ?_; rintro e w4 ⟨q2, rfl, hq, hg⟩; have G4 := Lib.hid (G3.out.trans hg); have X4 := Lib.hid (Row.grows X3.out hg); have S4 := Lib.hid (S3.out.grows hg); have Q4 := Lib.hid (hq.more (show B ≤ _ from Nat.le_trans HBr.out G3.out.size)); have k4 := X4.out.cell 7; have f4 := X4.out.frozen 7; have X5 : Hid (Row (w4.setCell ⟨wr.heap.size, 7, none⟩ (.int .u16 (hI Z))) wr.heap.size 45 (rawA { noR with ka := As, kn := S0.length, kc := cs, size := Z })) := X4.out.set 7 (.int .u16 (hI Z)); have S5 := Lib.hid (S4.out.apart (setCell_grown _ _ 7 (.int .u16 (hI Z))) X4.out (by decide)); have Q5 := Lib.hid (Q4.out.apart (setCell_grown _ _ 7 (.int .u16 (hI Z))) X4.out (by decide)); have G5 := Lib.hid (show Grows wr (w4.setCell ⟨wr.heap.size, 7, none⟩ (.int .u16 (hI Z))) from Below.setCell G4.out (p := ⟨wr.heap.size, 7, none⟩) (by simp) (.int .u16 (hI Z))); clear hq hg)
            | ((with_reducible refine wpListIn_store_ptAt WideF.wide ?_ (.tmp 49) (.tmp 45) ?_ wr.heap.size TP { noR with ka := As, kn := S0.length, kc := cs, size := Z } ?_ ?_ ?_ ?_); exact rfl; exact rfl; exact rfl; exact rfl; exact X5.out; intro w6 hp6 hg6; have X6 : Hid (Row w6 wr.heap.size 45 (rawA { noR with ka := As, kn := S0.length, kc := cs, over := TP, size := Z })) := hp6; have S6 := Lib.hid (S5.out.apart hg6 X5.out (by decide)); have Q6 := Lib.hid (Q5.out.apart hg6 X5.out (by decide)); have G6 := Lib.hid (show Grows wr w6 from Below.grown G5.out hg6 G5.out.size (fun k e => by cases e; exact Nat.le_refl _)); clear hp6 hg6; obtain ⟨fn, tmps, assign, body, hy, hR⟩ := HY.out zs ({ noR with ka := As, kn := S0.length, kc := cs, over := TP, size := Z }, ⟨S0, [], TP, Z⟩) w6 (HJ.out _ _ _ HJk.out G6.out) ⟨S6.out, Mine.nil _ _, rfl, rfl⟩ (by rw [HZL.out]; omega); dsimp only at hy)
            | ((with_reducible refine wpListIn_loadG_it (op := ⟨some 54, _, _, _, _, _⟩) WideF.wide ?_ (.tmp 4) ?_ wr.heap.size { noR with ka := As, kn := S0.length, kc := cs, over := TP, size := Z } ?_ ?_ ?_); exact rfl; exact rfl; exact rfl; exact X6.out))
          refine hR.mono ?_
          rintro e W9 ⟨rfl, hJ9, hk9⟩
          gi_wp2
          go_roundw
          case rel => exact ⟨k + 1, zs ++ [({ noR with ka := As, kn := S0.length, kc := cs, over := TP, size := Z }, ⟨S0, [], TP, Z⟩)], R2, by omega, by simp, by simp [HZL.out], by rw [List.map_append]; exact LeafM.items_next HIt.out HNx.out, .inr (hk9.mine _ _ Q6.out), HL2.out, hJ9, (HPr.out.grows G6.out).below hk9.below hBp, (HGr.out.grows G6.out).below hk9.below hB0, Nat.le_trans (Nat.le_trans HBr.out G6.out.size) hk9.below.size⟩
          case measure => simp [intOf]; omega
        · rw [if_neg hE2] at HVr
          have HNo := Lib.hid HVr
          have hb2 : (E2 == 0) = false := by simpa using hE2
          clear HVr
          gi_wp2_with (first
            | (refine ⟨trivial, ?_⟩; gi_at_call 42; refine (callsIn_wide.2 HTK.out).mono ?_; rintro e w2 ⟨s, q, rfl, hs, hq, hg⟩; have G2 := Lib.hid (HG0.out.trans hg); have X2 := Lib.hid (Row.grows HX0.out hg); have S2 := Lib.hid (hs.more (show B ≤ _ from Nat.le_trans HBr.out HG0.out.size)); have Q2 := Lib.hid (hq.more (show B ≤ _ from Nat.le_trans HBr.out HG0.out.size)); obtain ⟨As, cs, rfl, _, _⟩ := hs.form; have k2 := X2.out.cell 0; have f2 := X2.out.frozen 0; have X3 : Hid (Row (w2.setCell ⟨wr.heap.size, 0, none⟩ (.slice As S0.length cs)) wr.heap.size 45 (rawA { noR with ka := As, kn := S0.length, kc := cs })) := X2.out.set 0 (.slice As S0.length cs); have S3 := Lib.hid (S2.out.apart (setCell_grown _ _ 0 (.slice As S0.length cs)) X2.out (by decide)); have Q3 := Lib.hid (Q2.out.apart (setCell_grown _ _ 0 (.slice As S0.length cs)) X2.out (by decide)); have G3 := Lib.hid (show Grows wr (w2.setCell ⟨wr.heap.size, 0, none⟩ (.slice As S0.length cs)) from Below.setCell G2.out (p := ⟨wr.heap.size, 0, none⟩) (by simp) (.slice As S0.length cs)); clear hs hq hg)
            | (refine ⟨trivial, ?_⟩; gi_at_call 44; refine (callsIn_wide.2 (HTO.out _ _ Q3.out.bytes (HGr.out.grows G3.out))).mono ?_; rintro e w4 ⟨q2, rfl, hq, hg⟩; have G4 := Lib.hid (G3.out.trans hg); have X4 := Lib.hid (Row.grows X3.out hg); have S4 := Lib.hid (S3.out.grows hg); have Q4 := Lib.hid (hq.more (show B ≤ _ from Nat.le_trans HBr.out G3.out.size)); have k4 := X4.out.cell 7; have f4 := X4.out.frozen 7; have X5 : Hid (Row (w4.setCell ⟨wr.heap.size, 7, none⟩ (.int .u16 (hI Z))) wr.heap.size 45 (rawA { noR with ka := As, kn := S0.length, kc := cs, size := Z })) := X4.out.set 7 (.int .u16 (hI Z)); have S5 := Lib.hid (S4.out.apart (setCell_grown _ _ 7 (.int .u16 (hI Z))) X4.out (by decide)); have Q5 := Lib.hid (Q4.out.apart (setCell_grown _ _ 7 (.int .u16 (hI Z))) X4.out (by decide)); have G5 := Lib.hid (show Grows wr (w4.setCell ⟨wr.heap.size, 7, none⟩ (.int .u16 (hI Z))) from Below.setCell G4.out (p := ⟨wr.heap.size, 7, none⟩) (by simp) (.int .u16 (hI Z))); clear hq hg)
            | ((with_reducible refine wpListIn_store_ptAt WideF.wide ?_ (.tmp 49) (.tmp 45) ?_ wr.heap.size TP { noR with ka := As, kn := S0.length, kc := cs, size := Z } ?_ ?_ ?_ ?_); exact rfl; exact rfl; exact rfl; exact rfl; exact X5.out; intro w6 hp6 hg6; have X6 : Hid (Row w6 wr.heap.size 45 (rawA { noR with ka := As, kn := S0.length, kc := cs, over := TP, size := Z })) := hp6; have S6 := Lib.hid (S5.out.apart hg6 X5.out (by decide)); have Q6 := Lib.hid (Q5.out.apart hg6 X5.out (by decide)); have G6 := Lib.hid (show Grows wr w6 from Below.grown G5.out hg6 G5.out.size (fun k e => by cases e; exact Nat.le_refl _)); clear hp6 hg6)
            | (with_reducible refine ⟨skip_fence, ?_⟩))
          (try simp only [Exit.noGoto])
          refine bodyPost_ret (results_none rfl _ _ _) rfl ?_
          exact ⟨⟨_, rfl⟩, zs, ⟨_, by rw [List.length_map, HZL.out]; exact HIt.out, by rw [List.length_map, HZL.out]; omega, .inr HNo.out⟩, HJ.out _ _ _ HJk.out G6.out⟩
      have HNo := Lib.hid (HX.out hN0 hN1)
      have hb3 : (uI N1 == 0) = false := by
        rw [← u0, uI_beq]; simpa using hN0
      have hb4 : (uI N1 == 1) = false := by
        rw [← u1, uI_beq]; simpa using hN1
      gi_wp2_with (first
        | (refine ⟨trivial, ?_⟩; gi_at_call 42; refine (callsIn_wide.2 HTK.out).mono ?_; rintro e w2 ⟨s, q, rfl, hs, hq, hg⟩; have G2 := Lib.hid (HG0.out.trans hg); have X2 := Lib.hid (Row.grows HX0.out hg); have S2 := Lib.hid (hs.more (show B ≤ _ from Nat.le_trans HBr.out HG0.out.size)); have Q2 := Lib.hid (hq.more (show B ≤ _ from Nat.le_trans HBr.out HG0.out.size)); obtain ⟨As, cs, rfl, _, _⟩ := hs.form; have k2 := X2.out.cell 0; have f2 := X2.out.frozen 0; have X3 : Hid (Row (w2.setCell ⟨wr.heap.size, 0, none⟩ (.slice As S0.length cs)) wr.heap.size 45 (rawA { noR with ka := As, kn := S0.length, kc := cs })) := X2.out.set 0 (.slice As S0.length cs); have S3 := Lib.hid (S2.out.apart (setCell_grown _ _ 0 (.slice As S0.length cs)) X2.out (by decide)); have Q3 := Lib.hid (Q2.out.apart (setCell_grown _ _ 0 (.slice As S0.length cs)) X2.out (by decide)); have G3 := Lib.hid (show Grows wr (w2.setCell ⟨wr.heap.size, 0, none⟩ (.slice As S0.length cs)) from Below.setCell G2.out (p := ⟨wr.heap.size, 0, none⟩) (by simp) (.slice As S0.length cs)); clear hs hq hg))
      (try simp only [Exit.noGoto])
      refine bodyPost_ret (results_none rfl _ _ _) rfl ?_
      exact ⟨⟨_, rfl⟩, zs, ⟨_, by rw [List.length_map, HZL.out]; exact HIt.out, by rw [List.length_map, HZL.out]; omega, .inr HNo.out⟩, HJ.out _ _ _ HJk.out G3.out⟩
    · obtain rfl : k = M := by omega
      gi_wp2
      (try simp only [Exit.noGoto])
      go_end0
      exact ⟨⟨_, rfl⟩, zs, ⟨_, by rw [List.length_map, HZL.out]; exact HIt.out, by rw [List.length_map, HZL.out]; omega, .inl (by rw [List.length_map]; exact HZL.out)⟩, HJk.out⟩
theorem items_any (p : List (BitVec 8)) (w : World) :
    Calls Tryd.prog 27 #[.agg (pageA p)] w fun e w' => e = .returned (.func (.func 41) #[] #[.pointer (some ⟨w.heap.size, 0, none⟩)]) ∧ w.alloc (.cells (pageA p) 24) = w' := by
  go_enter Tryd.func27, Tryd.ntmps27
  go_wp2
  go_ret
  exact ⟨rfl, rfl⟩
theorem items_tells (n : Nat) (hn : 1 ≤ n) (Bp B : Nat) (p : List (BitVec 8)) (w : World) (hB0 : 0 < B) (hBp : Bp < B) (hB : B ≤ w.heap.size) (hp : PRow w Bp p) (hG : Glob w) :
    Tells n Tryd.prog 41 #[.pointer (some ⟨Bp, 0, none⟩)] (fun z : Raw × It => #[.agg (rawA z.1)]) (fun z W => RawOwn B W z.1 z.2) (Leaves B) (fun zs => LeafM.Coll (LeafM.many p) (p.drop 2) (zs.map (·.2))) 256 w := fun l J W hW hJ hY h0 =>
  items1_in n hn l Bp B p hB0 hBp J hJ hY W (Nat.le_trans hB hW.size) (hp.grows hW) (hG.grows hW) h0
end Go.Proofs.YthdncpkmhodokaaDoor
