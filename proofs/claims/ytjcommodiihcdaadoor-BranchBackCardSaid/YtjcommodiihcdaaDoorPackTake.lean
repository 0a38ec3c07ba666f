/- PackTake -/
import Derived.Test.YtjcommodiihcdaaDoorPackPut
import Derived.Test.YtjcommodiihcdaaDoorBaseA
import Derived.Stop.RegionWithIn
import Derived.Scope
/- pack.Take. -/
namespace Go.Proofs.YtjcommodiihcdaaDoor
open Go.RowKit Go.Shelf
set_option linter.unusedVariables false
set_option linter.unusedSimpArgs false
attribute [local go_sem] Oper.semAt_some wrap_u64_bI uI_shl bits_or_u
attribute [local go_sem high] sliced_cut
theorem Bytes.cut {B : Nat} {W : World} {A : Option Addr} {cap l h len : Nat} {xs : List (BitVec 8)} (hs : Bytes B W (.slice A len cap) xs) (hl : l ≤ h) (hh : h ≤ xs.length) :
    Bytes B W (.slice (if cap = l then A else Option.map (fun x => x.add l) A) (h - l) (cap - l)) ((xs.take h).drop l) := by
  have := Sl.cut (l := l) (h := h) hs hl (by simpa using hh)
  unfold cutA at this
  unfold Bytes
  rw [List.map_drop, List.map_take]
  simpa using this
/-- The number of the bytes that came. -/
def valT (b : List (BitVec 8)) (pre : List (Fin b.length)) : BitVec 64 := pre.foldl (fun (n : BitVec 64) (i : Fin b.length) => n ||| ((b[i.val]).setWidth 64 <<< (8 * i.val))) 0#64
theorem valT_snoc (b : List (BitVec 8)) (pre : List (Fin b.length)) (i : Fin b.length) : valT b (pre ++ [i]) = valT b pre ||| ((b[i.val]).setWidth 64 <<< (8 * i.val)) := by
  unfold valT; rw [List.foldl_append]; rfl
theorem valT_take (b : List (BitVec 8)) : ∀ k, k ≤ b.length → valT b ((List.finRange b.length).take k) = Num.num (b.take k)
  | 0, _ => rfl
  | k + 1, h => by
    rw [fins_take k (by omega), valT_snoc, valT_take b k (by omega), Num.num_take b k b[k] (List.getElem?_eq_getElem (by omega))]
theorem prefix_fins {n : Nat} {ini : List (Fin n)} {last : Fin n} (h : ini ++ [last] <+: List.finRange n) : ini = (List.finRange n).take last.val := by
  obtain ⟨t, ht⟩ := h
  have h1 : (List.finRange n)[ini.length]? = some last := by rw [← ht]; simp
  have h2 : last.val = ini.length := by
    obtain ⟨hlt, h3⟩ := List.getElem?_eq_some_iff.1 h1
    rw [List.getElem_finRange] at h3
    rw [← h3]; rfl
  rw [h2, ← ht]; simp
theorem fins_skip {n k : Nat} (h : ∀ i ∈ List.finRange n, i.val ≠ k) : n ≤ k := by
  rcases Nat.lt_or_ge k n with hlt | hge
  · exact absurd rfl (h ⟨k, hlt⟩ (List.mem_finRange _))
  · exact hge
set_option maxRecDepth 100000 in
set_option maxHeartbeats 2000000 in
theorem take_in (n : Nat) (hn : 4 ≤ n) (v : Value) (b : List (BitVec 8)) (width : Int) (w : World) (hv : Bytes w.heap.size w v b) (hl : b.length ≤ 900000) (b1 : -9223372036854775808 ≤ width) (b2 : width ≤ 9223372036854775807) :
    CallsIn Fence.wide n Tryd.prog 64 #[v, .int .i64 width] w fun e w' => ∃ r, e = .returned (.tuple #[.int .u64 (uI (PackM.takeN b width)), r, .int .i64 (PackM.takeE b width)]) ∧ Mine w.heap.size w' r (PackM.takeR b width) ∧ Grows w w' := by
  have h1 : 1 ≤ n := by omega
  have HV := Lib.hid hv
  obtain ⟨A, cap, rfl, q1, q2, _⟩ := hv
  simp only [List.length_map] at q1 HV ⊢
  unfold maxLen at q2
  have k1 := PackM.wd_lo width
  have k2 := PackM.wd_hi width
  have HI := Lib.hid (fun w => inBounds_any width b1 b2 w)
  have HDn := Lib.hid (show PackM.takeN b width = if b.length < PackM.wd width then 0#64 else Num.num (b.take (PackM.wd width)) from rfl)
  have HDr := Lib.hid (show PackM.takeR b width = if b.length < PackM.wd width then b else b.drop (PackM.wd width) from rfl)
  have HDe := Lib.hid (show PackM.takeE b width = if b.length < PackM.wd width then 20 else 0 from rfl)
  generalize PackM.wd width = wd at *
  have q3 : (b.length : Int) ≤ 900000 := by omega
  have q4 : (wd : Int) ≤ 8 := by omega
  refine callsIn_of_wp_marks Tryd.func64 rfl trivial ?_ rfl
  simp only [Tryd.ntmps64, List.size_toArray, List.length_cons, List.length_nil, Nat.reduceAdd, Nat.reduceSub, Array.replicate_succ, Array.replicate_zero, List.push_toArray, List.append_toArray, List.nil_append, List.cons_append]
  by_cases hlt : b.length < wd
  · rw [if_pos hlt] at HDn HDr HDe
    gi_wp2
    refine wpIn_wide.2 (wp_scope_straight ((wpIn_wide (n := n)).1 ?_))
    gi_wp2_with (first
      | (refine ⟨trivial, ?_⟩; gi_at_call 53; refine (callsIn_wide.2 (HI.out _)).mono ?_; rintro e w1 ⟨rfl, rfl⟩)
      | (refine ⟨trivial, ?_⟩; gi_at_call 40; refine (callsIn_wide.2 (clone_any _ b _ (by exact Sl.more (Sl.below HV.out ((Grows.alloc _ _).trans (Grows.alloc _ _))) (by simp; omega)) (by omega))).mono ?_; rintro e w2 ⟨r, rfl, hm, hg⟩; have hbn := ((Boxed.new (w.alloc (.cells #[.int .i64 wd] 3)) 43 (.int .u64 0))); rw [World.size_alloc] at hbn; have hbn2 : Boxed w2 (w.heap.size + 1) 43 (.int .u64 0) := Row.grows hbn hg; obtain ⟨A2, c2, rfl, hc2, hc3⟩ := hm.form; have hcn := hbn2.cell; have hcf := hbn2.frozen))
    have hgg := ((Grows.alloc w (.cells #[.int .i64 wd] 3)).trans (Grows.alloc _ (.cells #[.int .u64 0] 43))).trans hg
    refine ⟨.tuple #[.int .u64 0, .slice A2 b.length c2, .int .i64 20], ?_, .slice A2 b.length c2, ?_, ?_, hgg.setCell (p := ⟨w.heap.size + 1, 0, none⟩) (by simp) _⟩
    · have hset : (w2.setCell ⟨w.heap.size + 1, 0, none⟩ (.int .u64 0)).cell? ⟨w.heap.size + 1, 0, none⟩ = some (.int .u64 0) := World.cell?_setCell_same' _ _ _ (by rw [hcn]; rfl)
      simp [results, Tryd.f64, go_sem, hset]
    · rw [HDn.out, HDe.out]; rfl
    · rw [HDr.out]
      exact World.ownsRow.kept (Mine.more hm (by simp; omega)) (grownBy_setCell' _ _ _) (.inr (hbn2.not_row (by decide) hm).symm)
  · rw [if_neg hlt] at HDn HDr HDe
    gi_wp2
    refine wpIn_wide.2 (wp_scope_straight ((wpIn_wide (n := n)).1 ?_))
    gi_wp2_with (first
      | (refine ⟨trivial, ?_⟩; gi_at_call 53; refine (callsIn_wide.2 (HI.out _)).mono ?_; rintro e w1 ⟨rfl, rfl⟩))
    refine wpIn_label ?_
    gi_wp2_with (first
      | (refine ⟨trivial, ?_⟩; gi_at_call 63; refine (callsIn_wide.2 (all_any _ _ _ _ _ rfl)).mono ?_; rintro e w1 ⟨rfl, rfl⟩))
    have bw := ((Boxed.new w 3 (.int .i64 wd)).alloc (.cells #[.int .u64 0] 43)).alloc (.cells #[.slice A b.length cap] 40)
    have bn := (Boxed.new (w.alloc (.cells #[.int .i64 wd] 3)) 43 (.int .u64 0)).alloc (.cells #[.slice A b.length cap] 40)
    have bs := Boxed.new ((w.alloc (.cells #[.int .i64 wd] 3)).alloc (.cells #[.int .u64 0] 43)) 40 (.slice A b.length cap)
    have bel := ((Grows.alloc w (.cells #[.int .i64 wd] 3)).trans (Grows.alloc _ (.cells #[.int .u64 0] 43))).trans (Grows.alloc _ (.cells #[.slice A b.length cap] 40))
    have hsz : (((w.alloc (.cells #[.int .i64 wd] 3)).alloc (.cells #[.int .u64 0] 43)).alloc (.cells #[.slice A b.length cap] 40)).heap.size = w.heap.size + 3 := by simp
    rw [World.size_alloc] at bn
    rw [World.size_alloc, World.size_alloc] at bs
    generalize (((w.alloc (.cells #[.int .i64 wd] 3)).alloc (.cells #[.int .u64 0] 43)).alloc (.cells #[.slice A b.length cap] 40)) = w3 at *
    have HS := Lib.hid hsz
    clear hsz
    have HV3 := Lib.hid (Sl.below HV.out bel)
    refine wpIn_rangeFunc_ownG rfl h1 (gf := 67) (lb := #[.pointer (some ⟨w.heap.size + 1 + 1, 0, none⟩)]) rfl trivial (enters_of Tryd.func67 (by kernel_rfl) rfl)
      (all_stops (n - 1) (by omega) (w.heap.size + 1 + 1) w.heap.size (.slice A b.length cap) b w3 (by rw [HS.out]; omega) (by rw [HS.out]; omega) bs.cell HV3.out) belowK_t (belowK_b (by rw [HS.out]; omega)) (Below.refl _ _) (fun _ => rfl)
      (fun pre W => ((∀ i ∈ pre, i.val ≠ wd) ∧ Boxed W (w.heap.size + 1) 43 (.int .u64 (uI (valT b pre)))) ∧ Boxed W w.heap.size 3 (.int .i64 wd) ∧ Below w.heap.size w W)
      (fun c pre W => (c = .exit 0 ∧ ∃ ini last, pre = ini ++ [last] ∧ last.val = wd ∧ Boxed W (w.heap.size + 1) 43 (.int .u64 (uI (valT b ini)))) ∧ Boxed W w.heap.size 3 (.int .i64 wd) ∧ Below w.heap.size w W)
      ?own ?ownx ?start
      (fun y => { tmps :=
        #[Value.slice A b.length cap, Value.int IntKind.i64 width, undef,
          Value.pointer (some { block := w.heap.size, off := 0 }),
          Value.pointer (some { block := w.heap.size + 1, off := 0 }), Value.slice none 0 0, Value.int IntKind.i64 0,
          .int .i64 (y.val : Int), .int .u8 (bI b[y.val]), Value.int IntKind.i64 width, Value.int IntKind.i64 wd, Value.slice A b.length cap,
          Value.int IntKind.i64 b.length, Value.int IntKind.i64 wd, Value.bool false, undef, undef,
          Value.slice A b.length cap,
          Value.func (Fn.func 67) #[] #[Value.pointer (some { block := w.heap.size + 1 + 1, off := 0 })], .int .i64 (y.val : Int), .int .u8 (bI b[y.val]),
          undef, undef, undef, undef, undef, undef, undef, undef, undef, undef, undef, undef, undef, undef, undef], defers := [] }) ?assign ?body ?done ?stop
    case own => exact OwnFrom.and (Own.from (fun s X Y row hs hg hr => ⟨hs.1, hs.2.kept hg (fun e' => by obtain ⟨o, ho, hc⟩ := hr _ e'.symm; rw [show X.heap[w.heap.size + 1]? = _ from hs.2] at ho; cases ho; cases hc)⟩) _) (OwnFrom.and (Own.from (boxed_stays _ _ _) _) (ownFrom_below (Nat.le_refl _) (by rw [HS.out]; omega)))
    case ownx =>
      intro c
      exact OwnFrom.and (Own.from (fun s X Y row hs hg hr => by
        obtain ⟨hc, ini, last, e1, e2, e3⟩ := hs
        exact ⟨hc, ini, last, e1, e2, e3.kept hg (fun e' => by obtain ⟨o, ho, hc⟩ := hr _ e'.symm; rw [show X.heap[w.heap.size + 1]? = _ from e3] at ho; cases ho; cases hc)⟩) _) (OwnFrom.and (Own.from (boxed_stays _ _ _) _) (ownFrom_below (Nat.le_refl _) (by rw [HS.out]; omega)))
    case start => exact ⟨⟨fun i hi => by simp at hi, bn⟩, bw, bel⟩
    case assign =>
      intro l y W K hK
      gi_wp2
      exact hK
    case body =>
      rintro l pre y W ⟨⟨hp, hbn⟩, hbw, hB⟩ hlt2
      have hcn := hbn.cell
      have hcf := hbn.frozen
      have hcw := hbw.cell
      have hyl : (y.val : Int) < 900000 := by have := y.isLt; omega
      have hbv := Lib.hid (valT_snoc b pre y)
      by_cases hyw : y.val = wd
      · have hyb : ((y.val : Int) == (wd : Int)) = true := by rw [beq_iff_eq]; omega
        have HX : Hid (Boxed W (w.heap.size + 1) 43 (.int .u64 (uI (valT b pre)))) := hbn
        clear hbn hcn
        generalize b[y.val] = x at *
        gi_wp2
        exact ⟨KeepsFrom.refl _ _, ⟨rfl, pre, y, rfl, hyw, HX.out⟩, hbw, hB⟩
      · have hyb : ((y.val : Int) == (wd : Int)) = false := by rw [beq_eq_false_iff_ne]; omega
        generalize b[y.val] = x at *
        generalize valT b pre = nv at *
        have w1 : IntKind.i64.wrap (8 * (y.val : Int)) = 8 * (y.val : Int) := IntWalk.i64_in _ (by omega)
        have w2 : (8 * (y.val : Int)).toNat = 8 * y.val := by omega
        have w3 : (0 : Int) ≤ 8 * (y.val : Int) := by omega
        have w4 : ¬ (8 * (y.val : Int) < 0) := by omega
        gi_wp2
        refine wpIn_region_free (WideF.round _) 7 36 (by kernel_rfl) (by kernel_rfl) (by kernel_rfl) rfl (by kernel_rfl) ?_; simp only [List.take_succ_cons, List.take_zero, List.drop_succ_cons, List.drop_zero]
        repeat (apply free_pure rfl; focus (intro vs w hg hd; have q0 := hg.cell hcn; (try simp [Region.binds] at hd); simp only [execOp, resolve, Option.map_some, Option.map_none, List.map_toArray, List.map_cons, List.map_nil, rho_const, rho_func]; (repeat (conv in rho _ _ _ _ (Operand.tmp _) => whnf)); (try simp only [hd]); go_simp; (repeat (conv in rho _ _ _ _ (Operand.tmp _) => whnf)); (try simp only [hd]);  rfl))
        intro vs w' hg hv; have h6 := hv 6 (by omega); simp at h6; simp only [putL, dstAt, List.range, List.range.loop, if_true, List.getElem?_toArray, List.getElem?_cons_zero, List.getElem?_cons_succ, Option.bind_some, Act.put, List.setIfInBounds_toArray, List.set_cons_zero, List.set_cons_succ]
        rw [h6, shl_min]
        clear hv h6
        generalize vs 0 = z0, vs 1 = z1, vs 2 = z2, vs 3 = z3, vs 4 = z4, vs 5 = z5, vs 6 = z6 at *
        have hbn3 : Boxed w' (w.heap.size + 1) 43 (.int .u64 (uI nv)) := Row.grows (w := W.drew) hbn hg
        have hbw3 : Boxed w' w.heap.size 3 (.int .i64 wd) := Row.grows (w := W.drew) hbw hg
        have hcn3 := hbn3.cell
        have hcf3 := hbn3.frozen
        have hgW : Grows W w' := Grows.of_drew hg
        clear hcn hcf hcw hg
        gi_wp2
        refine ⟨((others_of_grows hgW).trans (KeepsOthers.setCell _ _ _)).from _, ((Below.mono hgW hB.size).setCell (by simp) _), ⟨fun i hi => ?_, ?_⟩, ?_, (hB.trans (Below.mono hgW hB.size)).setCell (by simp) _⟩
        · rcases List.mem_append.1 hi with h | h
          · exact hp i h
          · simp at h; subst h; exact hyw
        · rw [hbv.out]
          exact hbn3.set _
        · exact Boxed.kept hbw3 (grownBy_setCell' _ _ _) (by simp)
    case done =>
      rintro D ys W hD rfl ⟨⟨hp, hbn⟩, hbw2, hB2⟩ hK
      have hle := fins_skip hp
      have hbn2 : Boxed W (w.heap.size + 1) 43 (.int .u64 (uI (Num.num (b.take wd)))) := by
        have e1 := valT_take b b.length (Nat.le_refl _)
        rw [fins_all] at e1
        rw [e1, show b.length = wd by omega] at hbn
        exact hbn
      clear hbn hle hp
      have hcn := hbn2.cell
      have hcf := hbn2.frozen
      have hcw := hbw2.cell
      have HS9 := HS.out
      have HV9 := Lib.hid (Sl.below HV.out hB2)
      clear HS
      gi_wp2
      have d1 : (wd : Int) ≤ b.length := by omega
      have d2 : (wd : Int) ≤ cap := by omega
      refine wpIn_region_free WideF.wide 5 36 (by kernel_rfl) (by kernel_rfl) (by kernel_rfl) rfl (by kernel_rfl) ?_; simp only [List.take_succ_cons, List.take_zero, List.drop_succ_cons, List.drop_zero]
      repeat (apply free_pure rfl; focus (intro vs w hg hd; have q0 := hg.cell hcn; have q1 := hg.cell hcw; (try simp [Region.binds] at hd); simp only [execOp, resolve, Option.map_some, Option.map_none, List.map_toArray, List.map_cons, List.map_nil, rho_const, rho_func]; (repeat (conv in rho _ _ _ _ (Operand.tmp _) => whnf)); (try simp only [hd]); go_simp; (repeat (conv in rho _ _ _ _ (Operand.tmp _) => whnf)); (try simp only [hd]);  rfl))
      refine free_op (fun v w' => Mine w.heap.size w' v (b.drop wd)) rfl (fun _ _ _ h hg => h.grows hg) (fun vs w hg hd => by
        (try simp [Region.binds] at hd); simp only [Does]; simp only [execOp, resolve, Option.map_some, Option.map_none, List.map_toArray, List.map_cons, List.map_nil, rho_const, rho_func]; (repeat (conv in rho _ _ _ _ (Operand.tmp _) => whnf)); (try simp only [hd]); go_simp; (repeat (conv in rho _ _ _ _ (Operand.tmp _) => whnf))
        have hcut := Bytes.cut (l := wd) (h := b.length) (Sl.below HV9.out (Below.mono (Grows.of_drew hg) hB2.size)) (by omega) (Nat.le_refl _)
        rw [List.take_length] at hcut
        refine (clone_any _ (b.drop wd) _ (Bytes.more hcut (Nat.le_trans hB2.size hg.size)) (by rw [List.length_drop]; omega)).mono ?_
        rintro e w'' ⟨r, rfl, hm, hg2⟩
        exact ⟨r, rfl, hg2, hm.more (Nat.le_trans hB2.size hg.size)⟩) ?_
      intro vs w' hg hv; have h0 := hv 0 (by omega); simp at h0; have h4 := hv 4 (by omega); simp at h4; simp only [putL, dstAt, List.range, List.range.loop, if_true, List.getElem?_toArray, List.getElem?_cons_zero, List.getElem?_cons_succ, Option.bind_some, Act.put, List.setIfInBounds_toArray, List.set_cons_zero, List.set_cons_succ]
      rw [h0]
      have hgW : Grows W w' := Grows.of_drew hg
      have hbn3 : Boxed w' (w.heap.size + 1) 43 (.int .u64 (uI (Num.num (b.take wd)))) := Row.grows (w := W.drew) hbn2 hg
      have hK3 : w'.heap[D]? = some (.deferred (some [])) := (hg.block D (Array.getElem?_eq_some_iff.1 hK).1).trans hK
      have hcn3 := hbn3.cell
      have hcf3 := hbn3.frozen
      clear hv h0 hcn hcf hcw
      generalize vs 0 = z0, vs 1 = z1, vs 2 = z2, vs 3 = z3, vs 4 = z4 at *
      obtain ⟨A4, c4, rfl, _, _⟩ := h4.form
      have h5 := Lib.hid h4
      clear h4
      gi_wp2
      have hK4 := (KeepsOthers.setCell w' ⟨w.heap.size + 1, 0, none⟩ (.int .u64 (uI (Num.num (b.take wd))))).same D _ hK3 rfl
      have hset := cell_kept (World.cell?_setCell_same' w' ⟨w.heap.size + 1, 0, none⟩ (.int .u64 (uI (Num.num (b.take wd)))) (by rw [hcn3]; rfl)) (grownBy_putObj' _ D (.deferred none)) (fun r e => by cases e; exact ⟨_, hK4, rfl⟩)
      refine ⟨by simp, .inl ⟨_, _, rfl, run_takeDeferred hK4, ?_⟩⟩
      refine ⟨.tuple #[.int .u64 (uI (Num.num (b.take wd))), .slice A4 (b.drop wd).length c4, .int .i64 0], ?_, .slice A4 (b.drop wd).length c4, ?_, ?_, ?_⟩
      · simp [results, Tryd.f64, go_sem, hset]
      · rw [HDn.out, HDe.out]
      · rw [HDr.out]
        exact ownsRow_putObj (World.ownsRow.kept h5.out (grownBy_setCell' _ _ _) (.inr (hbn3.not_row (by decide) h5.out).symm)) _ hK4 rfl
      · exact ((hB2.trans (Below.mono hgW hB2.size)).setCell (p := ⟨w.heap.size + 1, 0, none⟩) (by simp) _).trans (belowK_b (w := w) (Nat.le_refl _) _ D _ _ (by omega) hK4 rfl rfl)
    case stop =>
      rintro D c pre W hD hpre ⟨⟨rfl, ini, last, rfl, hlast, hbn⟩, hbw2, hB2⟩ hK
      have hbn2 : Boxed W (w.heap.size + 1) 43 (.int .u64 (uI (Num.num (b.take wd)))) := by
        rw [prefix_fins hpre, valT_take b _ (by have := last.isLt; omega), hlast] at hbn
        exact hbn
      clear hbn
      have hcn := hbn2.cell
      have hcf := hbn2.frozen
      have hcw := hbw2.cell
      have HS9 := HS.out
      have HV9 := Lib.hid (Sl.below HV.out hB2)
      clear HS
      gi_wp2
      have d1 : (wd : Int) ≤ b.length := by omega
      have d2 : (wd : Int) ≤ cap := by omega
      refine wpIn_region_free WideF.wide 5 36 (by kernel_rfl) (by kernel_rfl) (by kernel_rfl) rfl (by kernel_rfl) ?_; simp only [List.take_succ_cons, List.take_zero, List.drop_succ_cons, List.drop_zero]
      repeat (apply free_pure rfl; focus (intro vs w hg hd; have q0 := hg.cell hcn; have q1 := hg.cell hcw; (try simp [Region.binds] at hd); simp only [execOp, resolve, Option.map_some, Option.map_none, List.map_toArray, List.map_cons, List.map_nil, rho_const, rho_func]; (repeat (conv in rho _ _ _ _ (Operand.tmp _) => whnf)); (try simp only [hd]); go_simp; (repeat (conv in rho _ _ _ _ (Operand.tmp _) => whnf)); (try simp only [hd]);  rfl))
      refine free_op (fun v w' => Mine w.heap.size w' v (b.drop wd)) rfl (fun _ _ _ h hg => h.grows hg) (fun vs w hg hd => by
        (try simp [Region.binds] at hd); simp only [Does]; simp only [execOp, resolve, Option.map_some, Option.map_none, List.map_toArray, List.map_cons, List.map_nil, rho_const, rho_func]; (repeat (conv in rho _ _ _ _ (Operand.tmp _) => whnf)); (try simp only [hd]); go_simp; (repeat (conv in rho _ _ _ _ (Operand.tmp _) => whnf))
        have hcut := Bytes.cut (l := wd) (h := b.length) (Sl.below HV9.out (Below.mono (Grows.of_drew hg) hB2.size)) (by omega) (Nat.le_refl _)
        rw [List.take_length] at hcut
        refine (clone_any _ (b.drop wd) _ (Bytes.more hcut (Nat.le_trans hB2.size hg.size)) (by rw [List.length_drop]; omega)).mono ?_
        rintro e w'' ⟨r, rfl, hm, hg2⟩
        exact ⟨r, rfl, hg2, hm.more (Nat.le_trans hB2.size hg.size)⟩) ?_
      intro vs w' hg hv; have h0 := hv 0 (by omega); simp at h0; have h4 := hv 4 (by omega); simp at h4; simp only [putL, dstAt, List.range, List.range.loop, if_true, List.getElem?_toArray, List.getElem?_cons_zero, List.getElem?_cons_succ, Option.bind_some, Act.put, List.setIfInBounds_toArray, List.set_cons_zero, List.set_cons_succ]
      rw [h0]
      have hgW : Grows W w' := Grows.of_drew hg
      have hbn3 : Boxed w' (w.heap.size + 1) 43 (.int .u64 (uI (Num.num (b.take wd)))) := Row.grows (w := W.drew) hbn2 hg
      have hK3 : w'.heap[D]? = some (.deferred (some [])) := (hg.block D (Array.getElem?_eq_some_iff.1 hK).1).trans hK
      have hcn3 := hbn3.cell
      have hcf3 := hbn3.frozen
      clear hv h0 hcn hcf hcw
      generalize vs 0 = z0, vs 1 = z1, vs 2 = z2, vs 3 = z3, vs 4 = z4 at *
      obtain ⟨A4, c4, rfl, _, _⟩ := h4.form
      have h5 := Lib.hid h4
      clear h4
      gi_wp2
      have hK4 := (KeepsOthers.setCell w' ⟨w.heap.size + 1, 0, none⟩ (.int .u64 (uI (Num.num (b.take wd))))).same D _ hK3 rfl
      have hset := cell_kept (World.cell?_setCell_same' w' ⟨w.heap.size + 1, 0, none⟩ (.int .u64 (uI (Num.num (b.take wd)))) (by rw [hcn3]; rfl)) (grownBy_putObj' _ D (.deferred none)) (fun r e => by cases e; exact ⟨_, hK4, rfl⟩)
      refine ⟨by simp, .inl ⟨_, _, rfl, run_takeDeferred hK4, ?_⟩⟩
      refine ⟨.tuple #[.int .u64 (uI (Num.num (b.take wd))), .slice A4 (b.drop wd).length c4, .int .i64 0], ?_, .slice A4 (b.drop wd).length c4, ?_, ?_, ?_⟩
      · simp [results, Tryd.f64, go_sem, hset]
      · rw [HDn.out, HDe.out]
      · rw [HDr.out]
        exact ownsRow_putObj (World.ownsRow.kept h5.out (grownBy_setCell' _ _ _) (.inr (hbn3.not_row (by decide) h5.out).symm)) _ hK4 rfl
      · exact ((hB2.trans (Below.mono hgW hB2.size)).setCell (p := ⟨w.heap.size + 1, 0, none⟩) (by simp) _).trans (belowK_b (w := w) (Nat.le_refl _) _ D _ _ (by omega) hK4 rfl rfl)
theorem take_any (v : Value) (b : List (BitVec 8)) (width : Int) (w : World) (hv : Bytes w.heap.size w v b) (hl : b.length ≤ 900000) (b1 : -9223372036854775808 ≤ width) (b2 : width ≤ 9223372036854775807) :
    Calls Tryd.prog 64 #[v, .int .i64 width] w fun e w' => ∃ r, e = .returned (.tuple #[.int .u64 (uI (PackM.takeN b width)), r, .int .i64 (PackM.takeE b width)]) ∧ Mine w.heap.size w' r (PackM.takeR b width) ∧ Grows w w' :=
  callsIn_wide.1 (take_in 4 (Nat.le_refl _) v b width w hv hl b1 b2)
end Go.Proofs.YtjcommodiihcdaaDoor
