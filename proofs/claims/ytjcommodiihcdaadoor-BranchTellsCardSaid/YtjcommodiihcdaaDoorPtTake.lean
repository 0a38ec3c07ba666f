/- PtTake -/
import Derived.Test.YtjcommodiihcdaaDoorPtPut
import Derived.Test.YtjcommodiihcdaaDoorPackTake
import Derived.Test.YtjcommodiihcdaaDoorPackRef
/- Take: the pointer ahead in a row of bytes. -/
namespace Go.Proofs.YtjcommodiihcdaaDoor
open Go.RowKit Go.Shelf
set_option linter.unusedVariables false
set_option linter.unusedSimpArgs false
attribute [local go_sem high] sliced_cut
attribute [local go_sem] cutA_zero Nat.sub_zero
namespace PtM
def off : Nat → Nat
  | 0 => 0 | 1 => 1 | 2 => 3 | 3 => 5 | 4 => 9 | _ => 17
def wid : Nat → Nat
  | 0 => 1 | 1 => 2 | 2 => 2 | 3 => 4 | _ => 8
theorem off_step (k : Nat) (hk : k < 5) : off (k + 1) = off k + wid k ∧ off k + wid k ≤ 17 := by
  rcases k with _ | _ | _ | _ | _ | k <;> first | decide | omega
/-- The first k of its numbers, noughts behind. -/
def numAt (b : List (BitVec 8)) (i : Nat) : BitVec 64 := Num.num ((b.drop (off i)).take (wid i))
def got (b : List (BitVec 8)) (k : Nat) : List (BitVec 64) := (List.range 5).map fun i => if i < k then numAt b i else 0#64
theorem got_len (b : List (BitVec 8)) (k : Nat) : (got b k).length = 5 := by simp [got]
theorem got_set (b : List (BitVec 8)) (k : Nat) (hk : k < 5) : (got b k).set k (numAt b k) = got b (k + 1) := by
  apply List.ext_getElem?
  intro i
  unfold got
  rw [List.getElem?_set]
  by_cases hi : i < 5
  · by_cases hik : k = i
    · subst hik
      simp [hi]
    · have h1 : (i < k + 1) = (i < k) := by apply propext; omega
      simp [hi, hik, h1]
  · have : ¬ k = i := by omega
    simp [hi, this]
theorem got_get (b : List (BitVec 8)) (k : Nat) (hk : k < 5) : (got b k)[k]? = some 0#64 := by
  unfold got; simp [hk]
theorem got_all (b : List (BitVec 8)) : got b 5 = [numAt b 0, numAt b 1, numAt b 2, numAt b 3, numAt b 4] := by
  simp [got, List.range, List.range.loop]
theorem taken_got (b : List (BitVec 8)) : ofNumbers (numAt b 0) (numAt b 1) (numAt b 2) (numAt b 3) (numAt b 4) = taken b := by
  rfl
/-- What is left of the first bytes. -/
def left (b : List (BitVec 8)) (k : Nat) : List (BitVec 8) := (b.take 17).drop (off k)
theorem left_len (b : List (BitVec 8)) (hb : 17 ≤ b.length) (k : Nat) : (left b k).length = 17 - off k := by
  unfold left; rw [List.length_drop, List.length_take]; omega
theorem left_take (b : List (BitVec 8)) (hb : 17 ≤ b.length) (k : Nat) (hk : k < 5) (wd : Nat) (hw : PackM.wd wd = wid k) :
    PackM.takeN (left b k) wd = numAt b k ∧ PackM.takeR (left b k) wd = left b (k + 1) := by
  have hl := left_len b hb k
  obtain ⟨h1, h2⟩ := off_step k hk
  constructor
  · unfold PackM.takeN
    rw [hw, if_neg (by omega)]
    unfold numAt left
    rw [List.drop_take, List.take_take, Nat.min_eq_left (by omega)]
  · unfold PackM.takeR
    rw [hw, if_neg (by omega)]
    unfold left
    rw [List.drop_drop, h1]
end PtM
theorem width_at (k : Nat) (hk : k < 5) : ∃ wd : Nat, widV[k]? = some (.int .i64 wd) ∧ PackM.wd wd = PtM.wid k ∧ wd ≤ 8 := by
  rcases k with _ | _ | _ | _ | _ | k
  · exact ⟨1, rfl, by decide, by decide⟩
  · exact ⟨2, rfl, by decide, by decide⟩
  · exact ⟨2, rfl, by decide, by decide⟩
  · exact ⟨4, rfl, by decide, by decide⟩
  · exact ⟨8, rfl, by decide, by decide⟩
  · omega
theorem index_wid (k : Nat) (v : Value) (hk : k < 5) (h : widV[k]? = some v) (w : World) : (Instr.index 71 (.agg widV.toArray) (.int .i64 k)).run Tryd.prog w = .ok v w := by
  obtain ⟨i, hi, h1⟩ : ∃ i, Tryd.prog.info? 3 = some i ∧ i.size = 1 := Option.map_eq_some_iff.1 (show (Tryd.prog.info? 3).map (·.size) = some 1 by kernel_rfl)
  exact run_index_arr 71 3 5 i _ widV.toArray .i64 k _ Tryd.underlying71 hi h1 rfl Tryd.underlying3 hk (by simpa using h) w
theorem zero_nu (w : World) : (zeroValue 68).run Tryd.prog w = .ok (.agg #[.int .u64 0, .int .u64 0, .int .u64 0, .int .u64 0, .int .u64 0]) w := by kernel_rfl
theorem Mine.beside {base g : Nat} {w w' : World} {v : Value} {l : List (BitVec 8)} {t : TypeId} {cs : Array Value} (h : Mine base w v l) (hg : w.grownBy w' (some g)) (hr : Row w g t cs) (hne : 5 ≠ t) : Mine base w' v l := by
  refine World.ownsRow.kept h hg ?_
  rcases World.ownsRow.lt h |> fun _ => h.2 with ⟨rfl, _⟩ | ⟨g', cap, cur, rfl, _, hh, _⟩
  · exact .inl rfl
  · refine .inr fun e => ?_
    simp only [Value.ownBlock, Option.some.injEq] at e
    subst e
    unfold Row at hr
    rw [hh] at hr
    injection hr with hr
    injection hr with _ ht
    exact hne ht
/-- What is not bytes stays where a row of bytes grows. -/
theorem Mine.row_kept {base g : Nat} {w w' : World} {v : Value} {l : List (BitVec 8)} {t : TypeId} {cs : Array Value} (h : Mine base w v l) (hr : Row w g t cs) (hne : 5 ≠ t) (hg : w.grownBy w' v.ownBlock) : Row w' g t cs := by
  refine hr.grown hg ?_
  rcases h.2 with ⟨rfl, _⟩ | ⟨g', cap, cur, rfl, _, hh, _⟩
  · simp [Value.ownBlock]
  · intro e
    simp only [Value.ownBlock, Option.some.injEq] at e
    subst e
    unfold Row at hr
    rw [hh] at hr
    injection hr with hr
    injection hr with _ ht
    exact hne ht
set_option maxHeartbeats 4000000 in
theorem pttake_any (v : Value) (b : List (BitVec 8)) (w : World) (hv : Bytes w.heap.size w v b) (hl : b.length ≤ 900000) (hG : Glob w) :
    Calls Tryd.prog 57 #[v] w fun e w' => ∃ r, e = .returned (.tuple #[.agg (ptA (PtM.takeP b)), r, .int .i64 (PtM.takeE b)]) ∧ Mine w.heap.size w' r (PtM.takeR b) ∧ Grows w w' := by
  have HZ := Lib.hid (Row.new w 45 #[.int .u8 0, .int .u16 0, .int .u16 0, .int .u32 0, .int .u64 0])
  have HG := Lib.hid (Grows.alloc w (.cells #[.int .u8 0, .int .u16 0, .int .u16 0, .int .u32 0, .int .u64 0] 45))
  have HV := Lib.hid hv
  have HGl := Lib.hid hG
  obtain ⟨A, cap, rfl, q1, q2, _⟩ := hv
  simp only [List.length_map] at q1 HV ⊢
  unfold maxLen at q2
  have HCl := Lib.hid (fun W (h : Bytes (World.heap W).size W (.slice A b.length cap) b) => clone_any (.slice A b.length cap) b W h (by omega))
  have HP : Hid (PtM.takeP b = if b.length < 17 then PtM.none else PtM.taken b) := rfl
  have HRr : Hid (PtM.takeR b = if b.length < 17 then b else b.drop 17) := rfl
  have HE : Hid (PtM.takeE b = if b.length < 17 then 20 else 0) := rfl
  generalize PtM.takeP b = tp at *
  generalize PtM.takeE b = te at *
  clear hG
  by_cases h17 : b.length < 17
  · rw [if_pos h17] at HP HRr HE
    obtain rfl := HE.out
    have h17' : (b.length : Int) < 17 := by omega
    go_enter Tryd.func57, Tryd.ntmps57
    go_wp2_with (first
      | (go_at_call 40; refine (HCl.out _ (HV.out.below HG.out |>.more HG.out.size)).mono ?_; rintro e w4 ⟨r, rfl, hr, hg⟩; obtain ⟨A4, c4, rfl, _, _⟩ := hr.form; have HR4 := Lib.hid (hr.more HG.out.size); have HG4 := Lib.hid (HG.out.trans hg); have HZ4 := Lib.hid (Row.grows HZ.out hg); clear hr hg)
      | ((with_reducible refine wpList_store_pt ?_ (.tmp 2) (.tmp 12) ?_ w.heap.size PtM.none #[.int .u8 0, .int .u16 0, .int .u16 0, .int .u32 0, .int .u64 0] ?_ ?_ ?_ ?_ ?_); exact rfl; exact rfl; exact rfl; exact rfl; exact rfl; exact HZ4.out; intro w5 hr5 hg5))
    refine bodyPost_ret (results_pt_three (p := 2) (q := 3) (r := 4) (by exact rfl) _ _ _ (by exact rfl) (by exact rfl) (by exact rfl) hr5) rfl ?_
    exact ⟨_, by rw [HP.out]; rfl, by rw [HRr.out]; exact HR4.out.beside hg5 HZ4.out (by decide), grown_grows HG4.out hg5 (Nat.le_refl _)⟩
  · rw [if_neg h17] at HP HRr HE
    obtain rfl := HE.out
    have h17' : (17 : Int) ≤ b.length := by omega
    have h17c : (17 : Int) ≤ cap := by omega
    have hN := Row.new (w.alloc (.cells #[.int .u8 0, .int .u16 0, .int .u16 0, .int .u32 0, .int .u64 0] 45)) 68 #[.int .u64 0, .int .u64 0, .int .u64 0, .int .u64 0, .int .u64 0]
    rw [World.size_alloc] at hN
    have HN := Lib.hid hN
    have HZ2 := Lib.hid (HZ.out.alloc (.cells #[.int .u64 0, .int .u64 0, .int .u64 0, .int .u64 0, .int .u64 0] 68))
    have HG2 := Lib.hid (HG.out.trans (Grows.alloc _ (.cells #[.int .u64 0, .int .u64 0, .int .u64 0, .int .u64 0, .int .u64 0] 68)))
    have hV2 := HV.out.below HG2.out |>.more HG2.out.size
    have HL0 := Lib.hid (Bytes.take (n := 17) hV2 (by omega))
    have HT := Lib.hid (fun W (v : Value) (l : List (BitVec 8)) (wd : Nat) (h : Bytes (World.heap W).size W v l) (hl : l.length ≤ 17) (h8 : wd ≤ 8) => take_any v l wd W h (by omega) (by omega) (by omega))
    clear hN hV2
    go_enter Tryd.func57, Tryd.ntmps57
    go_wp2_with (first
      | ((with_reducible refine wpList_load_mid (op := ⟨some 17, _, _, _, _, _⟩) ?_ 71 (.global 0) ?_ 0 0 ?_ widV _ ?_ Tryd.underlying71 ?_ ?_ ?_); exact rfl; exact rfl; exact rfl; exact HGl.out.grows HG2.out; exact rfl; kernel_rfl))
    have hL17 : 17 ≤ b.length := by omega
    have HLL := Lib.hid (fun k => PtM.left_len b hL17 k)
    have HLT := Lib.hid (fun k hk wd hw => PtM.left_take b hL17 k hk wd hw)
    have HGS := Lib.hid (fun k hk => PtM.got_set b k hk)
    have HGA := Lib.hid (PtM.got_all b)
    have HTG := Lib.hid (PtM.taken_got b)
    have HOF := Lib.hid (fun W => ofNumbers_any (PtM.numAt b 0) (PtM.numAt b 1) (PtM.numAt b 2) (PtM.numAt b 3) (PtM.numAt b 4) W)
    have HN0 : Hid (nuA (PtM.got b 0) = #[.int .u64 0, .int .u64 0, .int .u64 0, .int .u64 0, .int .u64 0]) := by
      unfold Hid PtM.got; rfl
    have HLe : Hid (PtM.left b 0 = b.take 17) := rfl
    go_loopw [6, 7, 8, 18] (fun rest _ _ i wr => ∃ k : Nat, k ≤ 5 ∧ i = .int .i64 k ∧ Bytes wr.heap.size wr rest (PtM.left b k) ∧ Row wr (w.heap.size + 1) 68 (nuA (PtM.got b k)) ∧ Row wr w.heap.size 45 #[.int .u8 0, .int .u16 0, .int .u16 0, .int .u32 0, .int .u64 0] ∧ Grows w wr) (fun _ _ _ i _ => 5 - (intOf i).toNat)
    case atStart => exact ⟨0, by omega, rfl, by rw [HLe.out]; exact HL0.out, by rw [HN0.out]; exact HN.out, HZ2.out, HG2.out⟩
    case round =>
      obtain ⟨k, hk, rfl, hr, hn, hz, hb⟩ := hrel
      have HR := Lib.hid hr; have HNk := Lib.hid hn; have HZk := Lib.hid hz; have HB := Lib.hid hb
      obtain ⟨A2, c2, rfl, _, _, _⟩ := hr
      clear hn hz hb
      simp only [List.length_map] at HR ⊢
      have HLk : Hid ((PtM.left b k).length ≤ 17) := by unfold Hid; have := HLL.out k; omega
      by_cases hlt : k < 5
      · obtain ⟨wd, p1, p2, p3⟩ := width_at k hlt
        have hix := index_wid k _ hlt p1
        obtain ⟨hN, hR⟩ := HLT.out k hlt wd p2
        have HS1 := Lib.hid (HGS.out k hlt)
        have hlt' : (k : Int) < 5 := by omega
        have HTk := Lib.hid (HT.out _ _ (PtM.left b k) wd HR.out HLk.out p3)
        rw [hN, hR] at HTk
        obtain ⟨nx, hnx⟩ : ∃ nx, nx = PtM.left b (k + 1) := ⟨_, rfl⟩
        have HNX := Lib.hid hnx
        rw [← hnx] at HTk
        obtain ⟨m, hm⟩ : ∃ m, m = PtM.numAt b k := ⟨_, rfl⟩
        have HM := Lib.hid hm
        rw [← hm] at HTk HS1
        clear hnx hm hN hR p1 p2 p3
        have hkz : (nuA (PtM.got b k))[k]? = some (.int .u64 (uI 0#64)) := nuA_get _ _ _ (PtM.got_get b k hlt)
        have HKZ := Lib.hid hkz
        clear hkz
        generalize (PtM.left b k).length = len at *
        go_wp2_with (first
          | (go_at_call 64; (with_reducible refine HTk.out.mono ?_); rintro e w4 ⟨r, rfl, hr4, hg4⟩; obtain ⟨A4, c4, rfl, _, _⟩ := hr4.form; have HR4 := Lib.hid hr4.bytes; have HX4 := Lib.hid hr4; have HN4 := Lib.hid (Row.grows HNk.out hg4); have HZ4 := Lib.hid (Row.grows HZk.out hg4); have HB4 := Lib.hid (HB.out.trans hg4); have cn4 := (HN4.out.cell k).trans HKZ.out; have fn4 := HN4.out.frozen k; clear hr4 hg4))
        have HSC := Lib.hid (HN4.out.set k (.int .u64 (uI m)))
        rw [nuA_set, HS1.out] at HSC
        go_roundw
        case rel => exact ⟨k + 1, by omega, by go_num, by rw [← HNX.out]; exact (HX4.out.beside (setCell_grown _ _ _ _) HN4.out (by decide)).bytes, HSC.out, HZ4.out.far (by simp) _, Below.setCell HB4.out (p := ⟨w.heap.size + 1, k, none⟩) (by simp) _⟩
        case measure => simp [intOf]; omega
      · obtain rfl : k = 5 := by omega
        rw [HGA.out] at HNk
        have HVk := Lib.hid (HV.out.below HB.out |>.more HB.out.size)
        go_wp2
        refine wp_region_free 5 37 (by kernel_rfl) (by kernel_rfl) rfl (by kernel_rfl) ?_; simp only [List.take_succ_cons, List.take_zero, List.drop_succ_cons, List.drop_zero]
        refine free_op (fun v_ _ => v_ = .agg (nuA [PtM.numAt b 0, PtM.numAt b 1, PtM.numAt b 2, PtM.numAt b 3, PtM.numAt b 4])) rfl (val_mono' _) (fun vs wq hg hd => by
          (try simp [Region.binds] at hd)
          exact dk_load 68 (.tmp 5) ⟨w.heap.size + 1, 0, none⟩ _ rfl (by first | rfl | (conv => lhs; whnf)) (run_load_nu rfl (Row.grows HNk.out (Grows.of_drew hg))) ⟨Grows.refl _, rfl⟩) ?_
        refine free_op (fun v_ _ => v_ = .agg (ptA (PtM.taken b))) rfl (val_mono _) (fun vs w hg hd => by
                (try simp [Region.binds] at hd); simp only [Does]; simp only [execOp, resolve, Option.map_some, Option.map_none, List.map_toArray, List.map_cons, List.map_nil, rho_const, rho_func]; (repeat (conv in rho _ _ _ _ (Operand.tmp _) => whnf)); (try simp only [hd]); go_simp; (repeat (conv in rho _ _ _ _ (Operand.tmp _) => whnf))
                rw [← HTG.out]; exact HOF.out _) ?_
        repeat (apply free_pure rfl; focus (intro vs w hg hd;  (try simp [Region.binds] at hd); simp only [execOp, resolve, Option.map_some, Option.map_none, List.map_toArray, List.map_cons, List.map_nil, rho_const, rho_func]; (repeat (conv in rho _ _ _ _ (Operand.tmp _) => whnf)); (try simp only [hd]); go_simp; (repeat (conv in rho _ _ _ _ (Operand.tmp _) => whnf)); (try simp only [hd]);  rfl))
        refine free_op (fun v_ w_ => Mine w.heap.size w_ v_ (b.drop 17)) rfl (fun v w1 w2 h hg => h.grows hg) (fun vs wq hg hd => by
          have hgq := Grows.of_drew hg
          have hcut := Bytes.cut (l := 17) (h := b.length) (Sl.below HVk.out hgq) (by omega) (Nat.le_refl _)
          rw [List.take_length] at hcut
          have hcl := clone_any _ (b.drop 17) wq (hcut.more hgq.size) (by rw [List.length_drop]; omega)
          (try simp [Region.binds] at hd); simp only [Does]; simp only [execOp, resolve, Option.map_some, Option.map_none, List.map_toArray, List.map_cons, List.map_nil, rho_const, rho_func]; (repeat (conv in rho _ _ _ _ (Operand.tmp _) => whnf)); (try simp only [hd]); go_simp; (repeat (conv in rho _ _ _ _ (Operand.tmp _) => whnf))
          refine hcl.mono ?_
          rintro e w5 ⟨r, rfl, hr, hg5⟩
          exact ⟨_, rfl, hg5, hr.more (Nat.le_trans HB.out.size hgq.size)⟩) ?_
        intro vs w' hg hv; have h1 := hv 1 (by omega); simp at h1; have h4 := hv 4 (by omega); simp at h4; simp only [putL, dstAt, List.range, List.range.loop, if_true, List.getElem?_toArray, List.getElem?_cons_zero, List.getElem?_cons_succ, Option.bind_some, Act.put, List.setIfInBounds_toArray, List.set_cons_zero, List.set_cons_succ]
        rw [h1]
        have H4 := h4
        have hgW := Lib.hid (HB.out.trans (Grows.of_drew hg))
        have HZ5 := Lib.hid (Row.grows HZk.out (Grows.of_drew hg))
        clear hv h1 h4 hg
        generalize vs 0 = z0, vs 1 = z1, vs 2 = z2, vs 3 = z3, vs 4 = z4 at *
        have H4 := Lib.hid H4
        obtain ⟨A9, c9, rfl, _, _⟩ := H4.out.form
        go_wp2_with (first
          | ((with_reducible refine wpList_store_pt ?_ (.tmp 2) (.tmp 33) ?_ w.heap.size (PtM.taken b) #[.int .u8 0, .int .u16 0, .int .u16 0, .int .u32 0, .int .u64 0] ?_ ?_ ?_ ?_ ?_); exact rfl; exact rfl; exact rfl; exact rfl; exact rfl; exact HZ5.out; intro w5 hr5 hg5))
        refine bodyPost_ret (results_pt_three (p := 2) (q := 3) (r := 4) (by exact rfl) _ _ _ (by exact rfl) (by exact rfl) (by exact rfl) hr5) rfl ?_
        exact ⟨_, by rw [HP.out]; rfl, by rw [HRr.out]; have h := H4.out.beside hg5 HZ5.out (by decide); rw [List.length_drop] at h; exact h, grown_grows hgW.out hg5 (Nat.le_refl _)⟩
theorem wid_one : widV.toArray.all (·.oneCell') = true := by simp [widV, Value.oneCell']
theorem wid_info : (Tryd.prog.info? 71).map (·.size) = some 5 := by kernel_rfl
theorem PtM.drop_take (b : List (BitVec 8)) (hb : 17 ≤ b.length) (k : Nat) (hk : k < 5) (wd : Nat) (hw : PackM.wd wd = PtM.wid k) :
    PackM.takeN (b.drop (PtM.off k)) wd = PtM.numAt b k ∧ PackM.takeR (b.drop (PtM.off k)) wd = b.drop (PtM.off (k + 1)) := by
  obtain ⟨h1, h2⟩ := PtM.off_step k hk
  have hl : (b.drop (PtM.off k)).length = b.length - PtM.off k := List.length_drop
  constructor
  · unfold PackM.takeN
    rw [hw, if_neg (by omega)]
    rfl
  · unfold PackM.takeR
    rw [hw, if_neg (by omega), List.drop_drop, h1]
set_option maxHeartbeats 4000000 in
/-- The document's Take. -/
theorem rpttakeB_any {B : Nat} (v : Value) (b : List (BitVec 8)) (w : World) (hB : B ≤ w.heap.size) (hv : Bytes B w v b) (hl : b.length ≤ 900000) :
    Calls Tryd.prog 32 #[v] w fun e w' => ∃ r, e = .returned (.tuple #[.agg (ptA (PtM.takeP b)), r, .int .i64 (PtM.takeE b)]) ∧ Bytes B w' r (PtM.takeR b) ∧ Grows w w' := by
  have HBb := Lib.hid hB
  have HZ := Lib.hid (Row.new w 45 #[.int .u8 0, .int .u16 0, .int .u16 0, .int .u32 0, .int .u64 0])
  have HG := Lib.hid (Grows.alloc w (.cells #[.int .u8 0, .int .u16 0, .int .u16 0, .int .u32 0, .int .u64 0] 45))
  have HV := Lib.hid hv
  obtain ⟨A, cap, rfl, q1, q2, _⟩ := hv
  simp only [List.length_map] at q1 HV ⊢
  unfold maxLen at q2
  have HP : Hid (PtM.takeP b = if b.length < 17 then PtM.none else PtM.taken b) := rfl
  have HRr : Hid (PtM.takeR b = if b.length < 17 then b else b.drop 17) := rfl
  have HE : Hid (PtM.takeE b = if b.length < 17 then 20 else 0) := rfl
  generalize PtM.takeP b = tp at *
  generalize PtM.takeE b = te at *
  by_cases h17 : b.length < 17
  · rw [if_pos h17] at HP HRr HE
    obtain rfl := HE.out
    have h17' : (b.length : Int) < 17 := by omega
    go_enter Tryd.func32, Tryd.ntmps32
    go_wp2_with (first
      | ((with_reducible refine wpList_store_pt ?_ (.tmp 2) (.tmp 15) ?_ w.heap.size PtM.none #[.int .u8 0, .int .u16 0, .int .u16 0, .int .u32 0, .int .u64 0] ?_ ?_ ?_ ?_ ?_); exact rfl; exact rfl; exact rfl; exact rfl; exact rfl; exact HZ.out; intro w5 hr5 hg5))
    refine bodyPost_ret (results_pt_three (p := 2) (q := 3) (r := 4) (by exact rfl) _ _ _ (by exact rfl) (by exact rfl) (by exact rfl) hr5) rfl ?_
    have hgf := grown_grows HG.out hg5 (Nat.le_refl _)
    exact ⟨_, by rw [HP.out]; rfl, by rw [HRr.out]; exact HV.out.below (Below.mono hgf HBb.out), hgf⟩
  · rw [if_neg h17] at HP HRr HE
    obtain rfl := HE.out
    have h17' : (17 : Int) ≤ b.length := by omega
    have hN := Row.new (w.alloc (.cells #[.int .u8 0, .int .u16 0, .int .u16 0, .int .u32 0, .int .u64 0] 45)) 68 #[.int .u64 0, .int .u64 0, .int .u64 0, .int .u64 0, .int .u64 0]
    rw [World.size_alloc] at hN
    have HN := Lib.hid (hN.alloc (.cells #[.int .i64 0, .int .i64 0, .int .i64 0, .int .i64 0, .int .i64 0] 71))
    have HZ2 := Lib.hid ((HZ.out.alloc (.cells #[.int .u64 0, .int .u64 0, .int .u64 0, .int .u64 0, .int .u64 0] 68)).alloc (.cells #[.int .i64 0, .int .i64 0, .int .i64 0, .int .i64 0, .int .i64 0] 71))
    have HG2 := Lib.hid ((HG.out.trans (Grows.alloc _ (.cells #[.int .u64 0, .int .u64 0, .int .u64 0, .int .u64 0, .int .u64 0] 68))).trans (Grows.alloc _ (.cells #[.int .i64 0, .int .i64 0, .int .i64 0, .int .i64 0, .int .i64 0] 71)))
    have hI := Row.new ((w.alloc (.cells #[.int .u8 0, .int .u16 0, .int .u16 0, .int .u32 0, .int .u64 0] 45)).alloc (.cells #[.int .u64 0, .int .u64 0, .int .u64 0, .int .u64 0, .int .u64 0] 68)) 71 #[.int .i64 0, .int .i64 0, .int .i64 0, .int .i64 0, .int .i64 0]
    rw [World.size_alloc, World.size_alloc] at hI
    have HI := Lib.hid hI
    have hL17 : 17 ≤ b.length := by omega
    have HLT := Lib.hid (fun k hk wd hw => PtM.drop_take b hL17 k hk wd hw)
    have HGS := Lib.hid (fun k hk => PtM.got_set b k hk)
    have HGA := Lib.hid (PtM.got_all b)
    have HTG := Lib.hid (PtM.taken_got b)
    have HN0 : Hid (nuA (PtM.got b 0) = #[.int .u64 0, .int .u64 0, .int .u64 0, .int .u64 0, .int .u64 0]) := by
      unfold Hid PtM.got; rfl
    have HT := Lib.hid (fun W (v : Value) (l : List (BitVec 8)) (wd : Nat) (hB : B ≤ (World.heap W).size) (h : Bytes B W v l) (hl : l.length ≤ 900000) (h8 : wd ≤ 8) => rtakeB_any v l wd W hB h (by omega) (by omega) (by omega))
    clear hN hI
    go_enter Tryd.func32, Tryd.ntmps32
    go_wp2_with (first
      | ((with_reducible refine wpList_store_row (o := ⟨none, .store _ (.tmp 7) _, _, _, _, _⟩) ?_ 71 (.tmp 7) (.tmp 18) ?_ (w.heap.size + 2) widV.toArray ?_ ?_ 71 #[.int .i64 0, .int .i64 0, .int .i64 0, .int .i64 0, .int .i64 0] ?_ ?_ ?_ ?_ ?_); exact rfl; exact rfl; exact rfl; exact rfl; exact HI.out; exact wid_info; exact rfl; exact wid_one; have HW3 := Lib.hid (HI.out.setRow widV.toArray); have hg3 := setRow_grown ((( w.alloc (.cells #[.int .u8 0, .int .u16 0, .int .u16 0, .int .u32 0, .int .u64 0] 45)).alloc (.cells #[.int .u64 0, .int .u64 0, .int .u64 0, .int .u64 0, .int .u64 0] 68)).alloc (.cells #[.int .i64 0, .int .i64 0, .int .i64 0, .int .i64 0, .int .i64 0] 71)) (w.heap.size + 2) widV.toArray; have HN3 := Lib.hid (HN.out.grown hg3 (by simp)); have HZ3 := Lib.hid (HZ2.out.grown hg3 (by simp)); have HG3 := Lib.hid (grown_grows HG2.out hg3 (by omega)); clear hg3))
    go_loopw [6, 8, 9, 10, 11] (fun rest i _ _ _ wr => ∃ k : Nat, k ≤ 5 ∧ i = .int .i64 k ∧ Bytes B wr rest (b.drop (PtM.off k)) ∧ Row wr (w.heap.size + 1) 68 (nuA (PtM.got b k)) ∧ Row wr (w.heap.size + 2) 71 widV.toArray ∧ Row wr w.heap.size 45 #[.int .u8 0, .int .u16 0, .int .u16 0, .int .u32 0, .int .u64 0] ∧ Grows w wr) (fun _ i _ _ _ _ => 5 - (intOf i).toNat)
    case atStart => exact ⟨0, by omega, rfl, HV.out.below (Below.mono HG3.out HBb.out), by rw [HN0.out]; exact HN3.out, HW3.out, HZ3.out, HG3.out⟩
    case round =>
      obtain ⟨k, hk, rfl, hr, hn, hw, hz, hb⟩ := hrel
      have HR := Lib.hid hr; have HNk := Lib.hid hn; have HWk := Lib.hid hw; have HZk := Lib.hid hz; have HB := Lib.hid hb
      obtain ⟨A2, c2, rfl, _, _, _⟩ := hr
      clear hn hw hz hb
      simp only [List.length_map] at HR ⊢
      have HLk : Hid ((b.drop (PtM.off k)).length ≤ 900000) := by unfold Hid; rw [List.length_drop]; omega
      by_cases hlt : k < 5
      · obtain ⟨wd, p1, p2, p3⟩ := width_at k hlt
        have hcw : wr.cell? ⟨w.heap.size + 2, k, none⟩ = some (.int .i64 wd) := (HWk.out.cell k).trans (by simpa using p1)
        obtain ⟨hN, hR⟩ := HLT.out k hlt wd p2
        have HS1 := Lib.hid (HGS.out k hlt)
        have hlt' : (k : Int) < 5 := by omega
        have HTk := Lib.hid (HT.out _ _ (b.drop (PtM.off k)) wd (Nat.le_trans HBb.out HB.out.size) HR.out HLk.out p3)
        rw [hN, hR] at HTk
        obtain ⟨nx, hnx⟩ : ∃ nx, nx = b.drop (PtM.off (k + 1)) := ⟨_, rfl⟩
        have HNX := Lib.hid hnx
        rw [← hnx] at HTk
        obtain ⟨m, hm⟩ : ∃ m, m = PtM.numAt b k := ⟨_, rfl⟩
        have HM := Lib.hid hm
        rw [← hm] at HTk HS1
        clear hnx hm hN hR p1 p2 p3
        have HKZ : Hid ((nuA (PtM.got b k))[k]? = some (.int .u64 (uI 0#64))) := nuA_get _ _ _ (PtM.got_get b k hlt)
        generalize (b.drop (PtM.off k)).length = len at *
        go_wp2_with (first
          | (go_at_call 47; (with_reducible refine HTk.out.mono ?_); rintro e w4 ⟨r, rfl, hr4, hg4⟩; have HR4 := Lib.hid hr4; obtain ⟨A4, c4, rfl, _, _, _⟩ := hr4; simp only [List.length_map] at HR4 ⊢; have HN4 := Lib.hid (Row.grows HNk.out hg4); have HW4 := Lib.hid (Row.grows HWk.out hg4); have HZ4 := Lib.hid (Row.grows HZk.out hg4); have HB4 := Lib.hid (HB.out.trans hg4); have cn4 := (HN4.out.cell k).trans HKZ.out; have fn4 := HN4.out.frozen k; clear hg4))
        have HSC := Lib.hid (HN4.out.set k (.int .u64 (uI m)))
        rw [nuA_set, HS1.out] at HSC
        go_roundw
        case rel => exact ⟨k + 1, by omega, by go_num, by rw [← HNX.out]; exact HR4.out.below (Below.setCell (Below.refl _ _) (p := ⟨w.heap.size + 1, k, none⟩) (by have := HBb.out; show B ≤ w.heap.size + 1; omega) _), HSC.out, HW4.out.far (by simp) _, HZ4.out.far (by simp) _, Below.setCell HB4.out (p := ⟨w.heap.size + 1, k, none⟩) (by simp) _⟩
        case measure => simp [intOf]; omega
      · obtain rfl : k = 5 := by omega
        rw [HGA.out] at HNk
        have c0 := (HNk.out.cell 0).trans (nuA_get _ 0 _ rfl)
        have c1 := (HNk.out.cell 1).trans (nuA_get _ 1 _ rfl)
        have c2' := (HNk.out.cell 2).trans (nuA_get _ 2 _ rfl)
        have c3 := (HNk.out.cell 3).trans (nuA_get _ 3 _ rfl)
        have c4 := (HNk.out.cell 4).trans (nuA_get _ 4 _ rfl)
        have e0 := wrap_u8_uI (PtM.numAt b 0)
        have e1 := wrap_u16_uI (PtM.numAt b 1)
        have e2 := wrap_u16_uI (PtM.numAt b 2)
        have e3 := wrap_u32_uI (PtM.numAt b 3)
        have HPT : Hid (ptA (PtM.taken b) = #[.int .u8 (bI ((PtM.numAt b 0).setWidth 8)), .int .u16 (hI ((PtM.numAt b 1).setWidth 16)), .int .u16 (hI ((PtM.numAt b 2).setWidth 16)), .int .u32 (wI ((PtM.numAt b 3).setWidth 32)), .int .u64 (uI (PtM.numAt b 4))]) := by
          have := HTG.out
          unfold Hid
          rw [← this]; rfl
        go_wp2_with (first
          | ((with_reducible refine wpList_store_pt (o := ⟨none, .store _ (.tmp 2) _, _, _, _, _⟩) ?_ (.tmp 2) (.tmp 51) ?_ w.heap.size (PtM.taken b) #[.int .u8 0, .int .u16 0, .int .u16 0, .int .u32 0, .int .u64 0] ?_ ?_ ?_ ?_ ?_); exact rfl; exact rfl; exact rfl; (rw [HPT.out]; exact rfl); exact rfl; exact HZk.out; intro w5 hr5 hg5))
        refine bodyPost_ret (results_pt_three (p := 2) (q := 3) (r := 4) (by exact rfl) _ _ _ (by exact rfl) (by exact rfl) (by exact rfl) hr5) rfl ?_
        have hgf := grown_grows HB.out hg5 (Nat.le_refl _)
        exact ⟨_, by rw [HP.out]; rfl, by rw [HRr.out]; have h := HR.out.below (Below.grown (Below.refl _ _) hg5 (Nat.le_trans HBb.out HB.out.size) (fun k e => by cases e; exact HBb.out)); rw [List.length_drop] at h; exact h, hgf⟩
theorem rpttake_any (v : Value) (b : List (BitVec 8)) (w : World) (hv : Bytes w.heap.size w v b) (hl : b.length ≤ 900000) :
    Calls Tryd.prog 32 #[v] w fun e w' => ∃ r, e = .returned (.tuple #[.agg (ptA (PtM.takeP b)), r, .int .i64 (PtM.takeE b)]) ∧ Bytes w'.heap.size w' r (PtM.takeR b) ∧ Grows w w' :=
  (rpttakeB_any v b w (Nat.le_refl _) hv hl).mono fun e w' ⟨r, h1, h2, h3⟩ => ⟨r, h1, h2.more h3.size, h3⟩
end Go.Proofs.YtjcommodiihcdaaDoor
