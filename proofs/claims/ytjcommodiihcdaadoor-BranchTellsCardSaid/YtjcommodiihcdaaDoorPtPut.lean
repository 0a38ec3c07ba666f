/- PtPut -/
import Derived.Test.YtjcommodiihcdaaDoorPtB
import Derived.Test.YtjcommodiihcdaaDoorBaseA
import Derived.Test.YtjcommodiihcdaaDoorPackPut
import Derived.Test.YtjcommodiihcdaaDoorPackRef2
/- Put: a pointer's bytes behind others. -/
namespace Go.Proofs.YtjcommodiihcdaaDoor
open Go.RowKit Go.Shelf
set_option linter.unusedVariables false
set_option linter.unusedSimpArgs false
namespace PtM
def pairs (x : Pt) : List (BitVec 64 × Nat) := [(x.kind.setWidth 64, 1), (x.a.setWidth 64, 2), (x.b.setWidth 64, 2), (x.birth.setWidth 64, 4), (x.sum, 8)]
def part (x : Pt) (k : Nat) : List (BitVec 8) := ((pairs x).take k).flatMap fun p => Num.bytes p.1 p.2
theorem part_zero (x : Pt) : part x 0 = [] := rfl
theorem part_succ (x : Pt) (k : Nat) (p : BitVec 64 × Nat) (h : (pairs x)[k]? = some p) : part x (k + 1) = part x k ++ Num.bytes p.1 p.2 := by
  unfold part; rw [List.take_add_one, h, List.flatMap_append]; simp
theorem part_all (x : Pt) : part x 5 = bytes x := by simp [part, pairs, bytes]
theorem part_len (x : Pt) (k : Nat) : (part x k).length ≤ 17 := by
  have h : part x 5 = part x k ++ ((pairs x).drop k).flatMap fun p => Num.bytes p.1 p.2 := by
    unfold part
    rw [show (pairs x).take 5 = (pairs x).take k ++ (pairs x).drop k from by rw [List.take_append_drop]; rfl, List.flatMap_append]
  have h2 := congrArg List.length h
  rw [part_all, bytes_length, List.length_append] at h2
  omega
end PtM
def widV : List Value := [.int .i64 1, .int .i64 2, .int .i64 2, .int .i64 4, .int .i64 8]
/-- The table of widths stands in its block. -/
def Glob (w : World) : Prop := w.rangeAt 0 0 widV
theorem Glob.grows {w w' : World} (h : Glob w) (hg : Grows w w') : Glob w' := fun j v hv => hg.cell (h j v hv)
theorem pairs_at (x : Pt) (k : Nat) (hk : k < 5) : ∃ (n : BitVec 64) (wd : Nat), (PtM.pairs x)[k]? = some (n, wd) ∧ (PtM.numbers x)[k]? = some n ∧ widV[k]? = some (.int .i64 wd) ∧ PackM.wd wd = wd ∧ wd ≤ 8 := by
  rcases k with _ | _ | _ | _ | _ | k
  · exact ⟨_, 1, rfl, rfl, rfl, by decide, by decide⟩
  · exact ⟨_, 2, rfl, rfl, rfl, by decide, by decide⟩
  · exact ⟨_, 2, rfl, rfl, rfl, by decide, by decide⟩
  · exact ⟨_, 4, rfl, rfl, rfl, by decide, by decide⟩
  · exact ⟨_, 8, rfl, rfl, rfl, by decide, by decide⟩
  · omega
theorem index_nu (l : List (BitVec 64)) (hl : l.length = 5) (k : Nat) (n : BitVec 64) (h : l[k]? = some n) (w : World) : (Instr.index 68 (.agg (nuA l)) (.int .i64 k)).run Tryd.prog w = .ok (.int .u64 (uI n)) w := by
  obtain ⟨i, hi, h1⟩ : ∃ i, Tryd.prog.info? 43 = some i ∧ i.size = 1 := Option.map_eq_some_iff.1 (show (Tryd.prog.info? 43).map (·.size) = some 1 by kernel_rfl)
  exact run_index_arr 68 43 5 i _ (nuA l) .i64 k _ Tryd.underlying68 hi h1 rfl Tryd.underlying43 (by have := (List.getElem?_eq_some_iff.1 h).1; omega) (nuA_get l k n h) w
set_option maxHeartbeats 2000000 in
theorem ptput_any (v : Value) (b : List (BitVec 8)) (x : Pt) (w : World) (hv : Bytes w.heap.size w v b) (hl : b.length ≤ 900000) (hG : Glob w) :
    Calls Tryd.prog 23 #[v, .agg (ptA x)] w fun e w' => ∃ r, e = .returned r ∧ Mine w.heap.size w' r (PtM.put b x) ∧ Grows w w' := by
  have HX := Lib.hid (Row.new w 45 (ptA x))
  have HG := Lib.hid (Grows.alloc w (.cells (ptA x) 45))
  have HGl := Lib.hid hG
  have HV := Lib.hid hv
  obtain ⟨A, cap, rfl, q1, q2, _⟩ := hv
  simp only [List.length_map] at q1 HV ⊢
  have HN := Lib.hid (fun W => numbers_any x W)
  have HPn := Lib.hid (fun W (v : Value) (n : BitVec 64) (wd : Nat) (l : List (BitVec 8)) (h : Bytes (World.heap W).size W v l) (hl : l.length ≤ 17) (h8 : wd ≤ 8) => put_any v l n wd W h (by omega) (by omega) (by omega))
  clear hG
  go_enter Tryd.func23, Tryd.ntmps23
  go_wp2_with (first
    | ((with_reducible refine wpList_load_pt (o := ⟨some 8, _, _, _, _, _⟩) ?_ (.tmp 3) ?_ w.heap.size x ?_ ?_ ?_); exact rfl; exact rfl; exact rfl; exact HX.out)
    | (go_at_call 41; refine (HN.out _).mono ?_; rintro e w2 ⟨rfl, hb2⟩; have HG2 := Lib.hid (HG.out.trans hb2); clear hb2))
  go_loopw [5, 6, 7, 10] (fun o _ _ i wr => ∃ k : Nat, k ≤ 5 ∧ i = .int .i64 k ∧ Mine w.heap.size wr o (PtM.part x k) ∧ Grows w wr) (fun _ _ _ i _ => 5 - (intOf i).toNat)
  case atStart => exact ⟨0, by omega, rfl, Mine.nil _ _, HG2.out⟩
  case round =>
    obtain ⟨k, hk, rfl, hm, hb⟩ := hrel
    obtain ⟨A2, c2, rfl, _, _⟩ := hm.form
    have HM := Lib.hid hm; have HB := Lib.hid hb
    clear hm hb
    have HLN := Lib.hid (PtM.part_len x k)
    by_cases hlt : k < 5
    · obtain ⟨n, wd, p1, p2, p3, p4, p5⟩ := pairs_at x k hlt
      have hix := index_nu (PtM.numbers x) (numbers_length x) k n p2
      have hcw : wr.cell? ⟨0, k, none⟩ = some (.int .i64 wd) := by
        have := (HGl.out.grows HB.out) k _ p3
        rwa [Nat.zero_add] at this
      have HS := Lib.hid (PtM.part_succ x k (n, wd) p1)
      have HPk : Hid (PackM.put (PtM.part x k) n wd = PtM.part x (k + 1)) := by
        rw [HS.out]; unfold Hid PackM.put; rw [p4]
      have HW8 := Lib.hid p5
      have hlt' : (k : Int) < 5 := by omega
      obtain ⟨nx, hnx⟩ : ∃ nx, nx = PtM.part x (k + 1) := ⟨_, rfl⟩
      have HNX := Lib.hid hnx
      rw [← hnx] at HPk
      clear hnx
      clear p1 p2 p3 p4 p5 HS
      have HL17 := HLN.out
      generalize PtM.part x k = cu at *
      clear HL17
      go_wp2_with (first
        | (go_at_call 42; (with_reducible refine (HPn.out _ _ _ _ cu HM.out.bytes HLN.out HW8.out).mono ?_); rintro e w4 ⟨r, rfl, hr, hg⟩; rw [HPk.out] at hr; have HR4 := Lib.hid (hr.more HB.out.size); have HB4 := Lib.hid (HB.out.trans hg); clear hr hg))
      go_roundw
      case rel => exact ⟨k + 1, by omega, by go_num, by rw [← HNX.out]; exact HR4.out, HB4.out⟩
      case measure => simp [intOf]; omega
    · obtain rfl : k = 5 := by omega
      have HPA := Lib.hid (PtM.part_all x)
      rw [HPA.out] at HM HLN ⊢
      have HVB := Lib.hid (HV.out.below HB.out |>.more HB.out.size)
      have HCl := Lib.hid (fun W h => clone_any (.slice A b.length cap) b W h (by omega))
      have HPT : Hid (PtM.put b x = b ++ PtM.bytes x) := rfl
      clear HPA
      generalize PtM.bytes x = cb at *
      go_wp2_with (first
        | (go_at_call 40; refine (HCl.out _ HVB.out).mono ?_; rintro e w4 ⟨r, rfl, hr, hg⟩; obtain ⟨A4, c4, rfl, _, _⟩ := hr.form; have HR4 := Lib.hid (hr.more HB.out.size); have HB4 := Lib.hid (HB.out.trans hg); have HM4 := Lib.hid (HM.out.grows hg); clear hr hg)
        | ((with_reducible refine wpList_append_mine (o := ⟨some 24, _, _, _, _, _⟩) ?_ (.tmp 22) (.tmp 23) ?_ w.heap.size w4.heap.size b cb ?_ ?_ ?_ ?_ ?_); exact rfl; exact rfl; exact HR4.out; exact HM4.out.bytes; (have := HLN.out; omega); exact HB4.out.size; intro v5 w5 hv5 hgr5 _ _; have HB5 := Lib.hid (below_mine HB4.out HR4.out hgr5 (Nat.le_refl _) HB4.out.size); have HM5 := Lib.hid hv5; obtain ⟨A5, c5, rfl, _, _⟩ := hv5.form; clear hv5 hgr5))
      go_ret
      exact ⟨_, rfl, by have h := HM5.out; rw [List.length_append] at h; rw [HPT.out]; exact h, HB5.out⟩
set_option maxHeartbeats 2000000 in
/-- The document's Put. -/
theorem rptput_any (v : Value) (b : List (BitVec 8)) (x : Pt) (w : World) (hv : Bytes w.heap.size w v b) (hl : b.length ≤ 800000) :
    Calls Tryd.prog 26 #[v, .agg (ptA x)] w fun e w' => ∃ r, e = .returned r ∧ Mine w.heap.size w' r (PtM.put b x) ∧ Grows w w' := by
  have HX0 := Lib.hid (Row.new w 45 (ptA x))
  have HB0 := Lib.hid (Grows.alloc w (.cells (ptA x) 45))
  have HV0 := Lib.hid (hv.below HB0.out |>.more HB0.out.size)
  obtain ⟨l1, e0⟩ : ∃ l1, l1 = PackM.put b (x.kind.setWidth 64) 1 := ⟨_, rfl⟩
  obtain ⟨l2, e1⟩ : ∃ l2, l2 = PackM.put l1 (x.a.setWidth 64) 2 := ⟨_, rfl⟩
  obtain ⟨l3, e2⟩ : ∃ l3, l3 = PackM.put l2 (x.b.setWidth 64) 2 := ⟨_, rfl⟩
  obtain ⟨l4, e3⟩ : ∃ l4, l4 = PackM.put l3 (x.birth.setWidth 64) 4 := ⟨_, rfl⟩
  obtain ⟨l5, e4⟩ : ∃ l5, l5 = PackM.put l4 (x.sum) 8 := ⟨_, rfl⟩
  have HE : Hid (l5 = PtM.put b x) := by
    unfold Hid
    rw [e4, e3, e2, e1, e0]
    unfold PackM.put PtM.put PtM.bytes
    rw [show PackM.wd 1 = 1 from rfl, show PackM.wd 2 = 2 from rfl, show PackM.wd 4 = 4 from rfl, show PackM.wd 8 = 8 from rfl]
    simp only [List.append_assoc]
  have E0 : Hid (PackM.put b (x.kind.setWidth 64) 1 = l1) := e0.symm
  have E1 : Hid (PackM.put l1 (x.a.setWidth 64) 2 = l2) := e1.symm
  have E2 : Hid (PackM.put l2 (x.b.setWidth 64) 2 = l3) := e2.symm
  have E3 : Hid (PackM.put l3 (x.birth.setWidth 64) 4 = l4) := e3.symm
  have E4 : Hid (PackM.put l4 (x.sum) 8 = l5) := e4.symm
  have n1 : l1.length ≤ 800000 + 8 := by rw [e0]; unfold PackM.put; rw [List.length_append, Num.bytes_length]; have := PackM.wd_hi 1; omega
  have HL0 : Hid (b.length ≤ 900000) := by unfold Hid; omega
  have n2 : l2.length ≤ 800000 + 16 := by rw [e1]; unfold PackM.put; rw [List.length_append, Num.bytes_length]; have := PackM.wd_hi 2; omega
  have HL1 : Hid (l1.length ≤ 900000) := by unfold Hid; omega
  have n3 : l3.length ≤ 800000 + 24 := by rw [e2]; unfold PackM.put; rw [List.length_append, Num.bytes_length]; have := PackM.wd_hi 2; omega
  have HL2 : Hid (l2.length ≤ 900000) := by unfold Hid; omega
  have n4 : l4.length ≤ 800000 + 32 := by rw [e3]; unfold PackM.put; rw [List.length_append, Num.bytes_length]; have := PackM.wd_hi 4; omega
  have HL3 : Hid (l3.length ≤ 900000) := by unfold Hid; omega
  have n5 : l5.length ≤ 800000 + 40 := by rw [e4]; unfold PackM.put; rw [List.length_append, Num.bytes_length]; have := PackM.wd_hi 8; omega
  have HL4 : Hid (l4.length ≤ 900000) := by unfold Hid; omega
  clear n1 n2 n3 n4 n5 e0 e1 e2 e3 e4 hv hl
  have f0 := wrap_u64_bI x.kind
  have f1 := wrap_u64_hI x.a
  have f2 := wrap_u64_hI x.b
  have f3 := wrap_u64_wI x.birth
  go_enter Tryd.func26, Tryd.ntmps26
  go_wp2_with (first
    | (go_at_call 43; (with_reducible refine (rput_any _ b (x.kind.setWidth 64) 1 _ HV0.out HL0.out (by decide) (by decide)).mono ?_); rintro e w1 ⟨r0, rfl, hr, hg⟩; rw [E0.out] at hr; have HX1 := Lib.hid (Row.grows HX0.out hg); have HR1 := Lib.hid (hr.more HB0.out.size); have HV1 := Lib.hid hr.bytes; have HB1 := Lib.hid (HB0.out.trans hg); have c1_0 := (HX1.out.cell 0).trans (ptA_0 x); have c1_1 := (HX1.out.cell 1).trans (ptA_1 x); have c1_2 := (HX1.out.cell 2).trans (ptA_2 x); have c1_3 := (HX1.out.cell 3).trans (ptA_3 x); have c1_4 := (HX1.out.cell 4).trans (ptA_4 x); clear hr hg)
    | (go_at_call 43; (with_reducible refine (rput_any _ l1 (x.a.setWidth 64) 2 _ HV1.out HL1.out (by decide) (by decide)).mono ?_); rintro e w2 ⟨r1, rfl, hr, hg⟩; rw [E1.out] at hr; have HX2 := Lib.hid (Row.grows HX1.out hg); have HR2 := Lib.hid (hr.more HB1.out.size); have HV2 := Lib.hid hr.bytes; have HB2 := Lib.hid (HB1.out.trans hg); have c2_0 := (HX2.out.cell 0).trans (ptA_0 x); have c2_1 := (HX2.out.cell 1).trans (ptA_1 x); have c2_2 := (HX2.out.cell 2).trans (ptA_2 x); have c2_3 := (HX2.out.cell 3).trans (ptA_3 x); have c2_4 := (HX2.out.cell 4).trans (ptA_4 x); clear hr hg)
    | (go_at_call 43; (with_reducible refine (rput_any _ l2 (x.b.setWidth 64) 2 _ HV2.out HL2.out (by decide) (by decide)).mono ?_); rintro e w3 ⟨r2, rfl, hr, hg⟩; rw [E2.out] at hr; have HX3 := Lib.hid (Row.grows HX2.out hg); have HR3 := Lib.hid (hr.more HB2.out.size); have HV3 := Lib.hid hr.bytes; have HB3 := Lib.hid (HB2.out.trans hg); have c3_0 := (HX3.out.cell 0).trans (ptA_0 x); have c3_1 := (HX3.out.cell 1).trans (ptA_1 x); have c3_2 := (HX3.out.cell 2).trans (ptA_2 x); have c3_3 := (HX3.out.cell 3).trans (ptA_3 x); have c3_4 := (HX3.out.cell 4).trans (ptA_4 x); clear hr hg)
    | (go_at_call 43; (with_reducible refine (rput_any _ l3 (x.birth.setWidth 64) 4 _ HV3.out HL3.out (by decide) (by decide)).mono ?_); rintro e w4 ⟨r3, rfl, hr, hg⟩; rw [E3.out] at hr; have HX4 := Lib.hid (Row.grows HX3.out hg); have HR4 := Lib.hid (hr.more HB3.out.size); have HV4 := Lib.hid hr.bytes; have HB4 := Lib.hid (HB3.out.trans hg); have c4_0 := (HX4.out.cell 0).trans (ptA_0 x); have c4_1 := (HX4.out.cell 1).trans (ptA_1 x); have c4_2 := (HX4.out.cell 2).trans (ptA_2 x); have c4_3 := (HX4.out.cell 3).trans (ptA_3 x); have c4_4 := (HX4.out.cell 4).trans (ptA_4 x); clear hr hg)
    | (go_at_call 43; (with_reducible refine (rput_any _ l4 (x.sum) 8 _ HV4.out HL4.out (by decide) (by decide)).mono ?_); rintro e w5 ⟨r4, rfl, hr, hg⟩; rw [E4.out] at hr; have HX5 := Lib.hid (Row.grows HX4.out hg); have HR5 := Lib.hid (hr.more HB4.out.size); have HV5 := Lib.hid hr.bytes; have HB5 := Lib.hid (HB4.out.trans hg); have c5_0 := (HX5.out.cell 0).trans (ptA_0 x); have c5_1 := (HX5.out.cell 1).trans (ptA_1 x); have c5_2 := (HX5.out.cell 2).trans (ptA_2 x); have c5_3 := (HX5.out.cell 3).trans (ptA_3 x); have c5_4 := (HX5.out.cell 4).trans (ptA_4 x); clear hr hg))
  go_ret
  exact ⟨_, rfl, by rw [← HE.out]; exact HR5.out, HB5.out⟩
end Go.Proofs.YtjcommodiihcdaaDoor
