/- VdevBack: what is written is read until it is written again, behind a flush, too. -/
import Derived.Test.YtfcghkmhcfgfkaaVdLaws
namespace Go.Proofs.Ytfcghkmhcfgfkaa
open Go.RowKit
set_option linter.unusedVariables false
set_option linter.unusedSimpArgs false
theorem neq_pg (p : Pg) (hp : p.length = 256) : ∀ W, (Op.equalIn 10000 28 (.agg (pgA p)) (.agg (pgA p))).run Try.prog W = .ok true W := fun W => by
  rw [page_eq_run p p hp hp W, decide_eq_true rfl]
set_option maxRecDepth 20000 in
set_option maxHeartbeats 8000000 in
theorem vdevBack_any (v : Value) (d : Dk) (a b : Int) (p q : Pg) (w : World) (hv : IsDisk w.heap.size w v d) (ba1 : -9223372036854775808 ≤ a) (ba2 : a ≤ 9223372036854775807) (bb1 : -9223372036854775808 ≤ b) (bb2 : b ≤ 9223372036854775807) (hp : p.length = 256) (hq : q.length = 256) :
    Calls Try.prog 4 #[v, .int .i64 a, .int .i64 b, .agg (pgA p), .agg (pgA q)] w fun e w' => e = .returned (.bool true) ∧ Below w.heap.size w w' := by
  have HV := Lib.hid hv; have HPl := Lib.hid hp; have HQl := Lib.hid hq
  obtain ⟨pv, cv, bv, rfl, hpp, hcc, hbb⟩ := hv
  have HPL := Lib.hid hpp.1; have HCL := Lib.hid hcc.1
  obtain ⟨A, cap, rfl, q1, q2, _⟩ := hpp.form
  clear hpp hcc hbb hp hq
  unfold maxLen at q2
  obtain ⟨D, hD⟩ : ∃ D, D = #[Value.slice A d.pages.length cap, cv, bv, .bool d.off] := ⟨_, rfl⟩
  have Ds : Hid (D.size = 4 ∧ D[0]? = some (.slice A d.pages.length cap) ∧ D[3]? = some (.bool d.off)) := by subst hD; exact ⟨rfl, rfl, rfl⟩
  rw [← hD] at HV ⊢
  clear hD
  have L0 : Hid (Live [(w.heap.size, 26, D), (w.heap.size + 1, 28, pgA p), (w.heap.size + 1 + 1, 28, pgA q)] [w] (((w.alloc (.cells D 26)).alloc (.cells (pgA p) 28)).alloc (.cells (pgA q) 28))) := by
    have h0 : Live [] [w] w := ⟨fun i r h => by simp at h, fun i c h => by
      cases i with
      | zero => cases h; exact Below.refl _ _
      | succ i => simp at h⟩
    have h1 := (h0.grows (Grows.alloc w (.cells D 26))).push (Row.new w 26 D)
    have h2 := (h1.grows (Grows.alloc _ (.cells (pgA p) 28))).push (Row.new _ 28 (pgA p))
    have h3 := (h2.grows (Grows.alloc _ (.cells (pgA q) 28))).push (Row.new _ 28 (pgA q))
    rw [World.size_alloc] at h2 h3
    rw [World.size_alloc, World.size_alloc] at h3
    exact h3
  have HGr : Hid _ := Lib.hid (great_one (L0.out.disk 0 rfl HV.out) Ds.out.1)
  have HMy : Hid (∀ W, IsDisk W.heap.size W (.agg D) d → Calls Try.prog 16 #[.agg D] W fun e w' => e = .returned (.bool (VdM.may d)) ∧ Grows W w') := fun W h => rmay_any _ d W h
  rw [World.size_alloc, World.size_alloc, World.size_alloc] at HGr
  by_cases hg : VdM.great d = true
  · rw [hg] at HGr
    clear hg
    go_enter Try.func4, Try.ntmps4
    go_wp2_with (first
      | ((with_reducible refine wpList_load_dk (o := ⟨some 23, _, _, _, _, _⟩) ?_ (.tmp 5) ?_ w.heap.size D ?_ ?_ ?_ ?_); exact rfl; exact rfl; exact rfl; exact L0.out.row 0 _ rfl; exact Ds.out.1)
      | ((with_reducible refine wpList_slice_dk (o := ⟨some 24, _, _, _, _, _⟩) ?_ (.tmp 23) ?_ D ?_ ?_ ?_); exact rfl; exact rfl; exact rfl; exact Ds.out.1)
      | (go_at_call 8; refine HGr.out.mono ?_; rintro e u1 ⟨rfl, g⟩; have L1 := Lib.hid ((L0.out.grows (Grows.alloc _ _)).grows g); clear g)
      | (go_at_call 9; refine (wakes_any _).mono ?_; rintro e u3 ⟨rfl, g⟩; have LE := Lib.hid (L1.out.grows g); clear g))
    go_ret
    exact ⟨rfl, LE.out.below 0 w rfl⟩
  rw [Bool.eq_false_iff.2 hg] at HGr
  have hgp := VdM.great_parts (Bool.eq_false_iff.2 hg)
  clear hg
  by_cases hm : VdM.may d = true
  case neg =>
    rw [Bool.eq_false_iff.2 hm] at HMy; clear hm
    clear hgp
    go_enter Try.func4, Try.ntmps4
    go_wp2_with (first
      | ((with_reducible refine wpList_load_dk (o := ⟨some 23, _, _, _, _, _⟩) ?_ (.tmp 5) ?_ w.heap.size D ?_ ?_ ?_ ?_); exact rfl; exact rfl; exact rfl; exact L0.out.row 0 _ rfl; exact Ds.out.1)
      | ((with_reducible refine wpList_slice_dk (o := ⟨some 24, _, _, _, _, _⟩) ?_ (.tmp 23) ?_ D ?_ ?_ ?_); exact rfl; exact rfl; exact rfl; exact Ds.out.1)
      | (go_at_call 8; refine HGr.out.mono ?_; rintro e u1 ⟨rfl, g⟩; have L1 := Lib.hid ((L0.out.grows (Grows.alloc _ _)).grows g); clear g)
      | ((with_reducible refine wpList_loadG_dk (o := ⟨some 27, _, _, _, _, _⟩) ?_ (.tmp 5) ?_ w.heap.size D ?_ ?_ ?_ ?_); exact rfl; exact rfl; exact rfl; exact L1.out.row 0 _ rfl; exact Ds.out.1)
      | (go_at_call 16; refine (HMy.out _ (L1.out.disk 0 rfl HV.out)).mono ?_; rintro e u2 ⟨rfl, g⟩; have L2 := Lib.hid (L1.out.grows g); have c3 := (L2.out.cell 0 rfl 3).trans Ds.out.2.2; have c0 := (L2.out.cell 0 rfl 0).trans Ds.out.2.1; clear g)
      | (go_at_call 9; refine (wakes_any _).mono ?_; rintro e u3 ⟨rfl, g⟩; have LE := Lib.hid (L2.out.grows g); clear g))
    go_ret
    exact ⟨rfl, LE.out.below 0 w rfl⟩
  rw [hm] at HMy
  by_cases ho : d.off = true
  case pos =>
    rw [ho] at Ds; clear ho
    clear hgp hm
    go_enter Try.func4, Try.ntmps4
    go_wp2_with (first
      | ((with_reducible refine wpList_load_dk (o := ⟨some 23, _, _, _, _, _⟩) ?_ (.tmp 5) ?_ w.heap.size D ?_ ?_ ?_ ?_); exact rfl; exact rfl; exact rfl; exact L0.out.row 0 _ rfl; exact Ds.out.1)
      | ((with_reducible refine wpList_slice_dk (o := ⟨some 24, _, _, _, _, _⟩) ?_ (.tmp 23) ?_ D ?_ ?_ ?_); exact rfl; exact rfl; exact rfl; exact Ds.out.1)
      | (go_at_call 8; refine HGr.out.mono ?_; rintro e u1 ⟨rfl, g⟩; have L1 := Lib.hid ((L0.out.grows (Grows.alloc _ _)).grows g); clear g)
      | ((with_reducible refine wpList_loadG_dk (o := ⟨some 27, _, _, _, _, _⟩) ?_ (.tmp 5) ?_ w.heap.size D ?_ ?_ ?_ ?_); exact rfl; exact rfl; exact rfl; exact L1.out.row 0 _ rfl; exact Ds.out.1)
      | (go_at_call 16; refine (HMy.out _ (L1.out.disk 0 rfl HV.out)).mono ?_; rintro e u2 ⟨rfl, g⟩; have L2 := Lib.hid (L1.out.grows g); have c3 := (L2.out.cell 0 rfl 3).trans Ds.out.2.2; have c0 := (L2.out.cell 0 rfl 0).trans Ds.out.2.1; clear g)
      | (go_at_call 9; refine (wakes_any _).mono ?_; rintro e u3 ⟨rfl, g⟩; have LE := Lib.hid (L2.out.grows g); clear g))
    go_ret
    exact ⟨rfl, LE.out.below 0 w rfl⟩
  rw [Bool.eq_false_iff.2 ho] at Ds
  by_cases ha0 : a < 0
  case pos =>
    clear hgp hm ho
    go_enter Try.func4, Try.ntmps4
    go_wp2_with (first
      | ((with_reducible refine wpList_load_dk (o := ⟨some 23, _, _, _, _, _⟩) ?_ (.tmp 5) ?_ w.heap.size D ?_ ?_ ?_ ?_); exact rfl; exact rfl; exact rfl; exact L0.out.row 0 _ rfl; exact Ds.out.1)
      | ((with_reducible refine wpList_slice_dk (o := ⟨some 24, _, _, _, _, _⟩) ?_ (.tmp 23) ?_ D ?_ ?_ ?_); exact rfl; exact rfl; exact rfl; exact Ds.out.1)
      | (go_at_call 8; refine HGr.out.mono ?_; rintro e u1 ⟨rfl, g⟩; have L1 := Lib.hid ((L0.out.grows (Grows.alloc _ _)).grows g); clear g)
      | ((with_reducible refine wpList_loadG_dk (o := ⟨some 27, _, _, _, _, _⟩) ?_ (.tmp 5) ?_ w.heap.size D ?_ ?_ ?_ ?_); exact rfl; exact rfl; exact rfl; exact L1.out.row 0 _ rfl; exact Ds.out.1)
      | (go_at_call 16; refine (HMy.out _ (L1.out.disk 0 rfl HV.out)).mono ?_; rintro e u2 ⟨rfl, g⟩; have L2 := Lib.hid (L1.out.grows g); have c3 := (L2.out.cell 0 rfl 3).trans Ds.out.2.2; have c0 := (L2.out.cell 0 rfl 0).trans Ds.out.2.1; clear g)
      | (go_at_call 9; refine (wakes_any _).mono ?_; rintro e u3 ⟨rfl, g⟩; have LE := Lib.hid (L2.out.grows g); clear g))
    go_ret
    exact ⟨rfl, LE.out.below 0 w rfl⟩
  by_cases hb0 : b < 0
  case pos =>
    clear hgp hm ho
    go_enter Try.func4, Try.ntmps4
    go_wp2_with (first
      | ((with_reducible refine wpList_load_dk (o := ⟨some 23, _, _, _, _, _⟩) ?_ (.tmp 5) ?_ w.heap.size D ?_ ?_ ?_ ?_); exact rfl; exact rfl; exact rfl; exact L0.out.row 0 _ rfl; exact Ds.out.1)
      | ((with_reducible refine wpList_slice_dk (o := ⟨some 24, _, _, _, _, _⟩) ?_ (.tmp 23) ?_ D ?_ ?_ ?_); exact rfl; exact rfl; exact rfl; exact Ds.out.1)
      | (go_at_call 8; refine HGr.out.mono ?_; rintro e u1 ⟨rfl, g⟩; have L1 := Lib.hid ((L0.out.grows (Grows.alloc _ _)).grows g); clear g)
      | ((with_reducible refine wpList_loadG_dk (o := ⟨some 27, _, _, _, _, _⟩) ?_ (.tmp 5) ?_ w.heap.size D ?_ ?_ ?_ ?_); exact rfl; exact rfl; exact rfl; exact L1.out.row 0 _ rfl; exact Ds.out.1)
      | (go_at_call 16; refine (HMy.out _ (L1.out.disk 0 rfl HV.out)).mono ?_; rintro e u2 ⟨rfl, g⟩; have L2 := Lib.hid (L1.out.grows g); have c3 := (L2.out.cell 0 rfl 3).trans Ds.out.2.2; have c0 := (L2.out.cell 0 rfl 0).trans Ds.out.2.1; clear g)
      | (go_at_call 9; refine (wakes_any _).mono ?_; rintro e u3 ⟨rfl, g⟩; have LE := Lib.hid (L2.out.grows g); clear g))
    go_ret
    exact ⟨rfl, LE.out.below 0 w rfl⟩
  by_cases han : (d.pages.length : Int) ≤ a
  case pos =>
    clear hgp hm ho
    go_enter Try.func4, Try.ntmps4
    go_wp2_with (first
      | ((with_reducible refine wpList_load_dk (o := ⟨some 23, _, _, _, _, _⟩) ?_ (.tmp 5) ?_ w.heap.size D ?_ ?_ ?_ ?_); exact rfl; exact rfl; exact rfl; exact L0.out.row 0 _ rfl; exact Ds.out.1)
      | ((with_reducible refine wpList_slice_dk (o := ⟨some 24, _, _, _, _, _⟩) ?_ (.tmp 23) ?_ D ?_ ?_ ?_); exact rfl; exact rfl; exact rfl; exact Ds.out.1)
      | (go_at_call 8; refine HGr.out.mono ?_; rintro e u1 ⟨rfl, g⟩; have L1 := Lib.hid ((L0.out.grows (Grows.alloc _ _)).grows g); clear g)
      | ((with_reducible refine wpList_loadG_dk (o := ⟨some 27, _, _, _, _, _⟩) ?_ (.tmp 5) ?_ w.heap.size D ?_ ?_ ?_ ?_); exact rfl; exact rfl; exact rfl; exact L1.out.row 0 _ rfl; exact Ds.out.1)
      | (go_at_call 16; refine (HMy.out _ (L1.out.disk 0 rfl HV.out)).mono ?_; rintro e u2 ⟨rfl, g⟩; have L2 := Lib.hid (L1.out.grows g); have c3 := (L2.out.cell 0 rfl 3).trans Ds.out.2.2; have c0 := (L2.out.cell 0 rfl 0).trans Ds.out.2.1; clear g)
      | (go_at_call 9; refine (wakes_any _).mono ?_; rintro e u3 ⟨rfl, g⟩; have LE := Lib.hid (L2.out.grows g); clear g))
    go_ret
    exact ⟨rfl, LE.out.below 0 w rfl⟩
  by_cases hbn : (d.pages.length : Int) ≤ b
  case pos =>
    clear hgp hm ho
    go_enter Try.func4, Try.ntmps4
    go_wp2_with (first
      | ((with_reducible refine wpList_load_dk (o := ⟨some 23, _, _, _, _, _⟩) ?_ (.tmp 5) ?_ w.heap.size D ?_ ?_ ?_ ?_); exact rfl; exact rfl; exact rfl; exact L0.out.row 0 _ rfl; exact Ds.out.1)
      | ((with_reducible refine wpList_slice_dk (o := ⟨some 24, _, _, _, _, _⟩) ?_ (.tmp 23) ?_ D ?_ ?_ ?_); exact rfl; exact rfl; exact rfl; exact Ds.out.1)
      | (go_at_call 8; refine HGr.out.mono ?_; rintro e u1 ⟨rfl, g⟩; have L1 := Lib.hid ((L0.out.grows (Grows.alloc _ _)).grows g); clear g)
      | ((with_reducible refine wpList_loadG_dk (o := ⟨some 27, _, _, _, _, _⟩) ?_ (.tmp 5) ?_ w.heap.size D ?_ ?_ ?_ ?_); exact rfl; exact rfl; exact rfl; exact L1.out.row 0 _ rfl; exact Ds.out.1)
      | (go_at_call 16; refine (HMy.out _ (L1.out.disk 0 rfl HV.out)).mono ?_; rintro e u2 ⟨rfl, g⟩; have L2 := Lib.hid (L1.out.grows g); have c3 := (L2.out.cell 0 rfl 3).trans Ds.out.2.2; have c0 := (L2.out.cell 0 rfl 0).trans Ds.out.2.1; clear g)
      | (go_at_call 9; refine (wakes_any _).mono ?_; rintro e u3 ⟨rfl, g⟩; have LE := Lib.hid (L2.out.grows g); clear g))
    go_ret
    exact ⟨rfl, LE.out.below 0 w rfl⟩
  have ho' : d.off = false := Bool.eq_false_iff.2 ho
  have ha0' : 0 ≤ a := by omega
  have hb0' : 0 ≤ b := by omega
  have han' : a < d.pages.length := by omega
  have hbn' : b < d.pages.length := by omega
  have hcl : d.cache.length < 2000 := by have := hgp.2.1; omega
  obtain ⟨d1, hd1⟩ : ∃ d1, d1 = VdM.push d a p := ⟨_, rfl⟩
  obtain ⟨d2, hd2⟩ : ∃ d2, d2 = VdM.push d1 a q := ⟨_, rfl⟩
  obtain ⟨d3, hd3⟩ : ∃ d3 : Dk, d3 = ⟨VdM.flushP d2, [], VdM.flushB d2, false⟩ := ⟨_, rfl⟩
  have m1 : VdM.may d1 = true := by rw [hd1]; exact VdM.may_push p hm ho' hcl ha0' han'
  have o1 : d1.off = false := by rw [hd1]; exact ho'
  have n1 : d1.pages.length = d.pages.length := by rw [hd1]; rfl
  have c1 : d1.cache.length = d.cache.length + 1 := by rw [hd1]; simp [VdM.push]
  have b1 : d1.bad.length = d.bad.length := by rw [hd1]; rfl
  have m2 : VdM.may d2 = true := by rw [hd2]; exact VdM.may_push q m1 o1 (by have := hgp.2.1; omega) ha0' (by rw [n1]; exact han')
  have o2 : d2.off = false := by rw [hd2]; exact o1
  have n2 : d2.pages.length = d.pages.length := by rw [hd2]; exact n1
  have c2 : d2.cache.length = d.cache.length + 2 := by rw [hd2]; simp [VdM.push, c1]
  have b2 : d2.bad.length = d.bad.length := by rw [hd2]; exact b1
  have m3 : VdM.may d3 = true := by rw [hd3]; exact VdM.may_flush m2
  have n3 : d3.pages.length = d.pages.length := by rw [hd3]; exact (VdM.flushP_length d2).trans n2
  have hf2 := VdM.flushD_ok m2 o2
  have r1a := VdM.read_same p hm ho' hcl ha0' han'
  rw [← hd1] at r1a
  have r2a := VdM.read_same q m1 o1 (by have := hgp.2.1; omega) ha0' (by rw [n1]; exact han')
  rw [← hd2] at r2a
  have r3 : ∀ n : Int, 0 ≤ n → n < d.pages.length → VdM.readP d3 n = VdM.readP d2 n ∧ VdM.readE d3 n = VdM.readE d2 n := fun n h1 h2 => by rw [hd3]; exact VdM.read_flush m2 o2 h1 (by rw [n2]; exact h2)
  have r3a := r3 a ha0' han'
  rw [r2a.1, r2a.2] at r3a
  have hcase : b = a ∨ (b ≠ a ∧ VdM.readP d b = VdM.readP d1 b ∧ VdM.readE d b = VdM.readE d1 b ∧ VdM.readP d b = VdM.readP d3 b ∧ VdM.readE d b = VdM.readE d3 b) := by
    by_cases hba : b = a
    · exact .inl hba
    · have x1 := VdM.read_other p hm ho' hcl ha0' han' hb0' hbn' hba
      rw [← hd1] at x1
      have x2 := VdM.read_other q m1 o1 (by have := hgp.2.1; omega) ha0' (by rw [n1]; exact han') hb0' (by rw [n1]; exact hbn') hba
      rw [← hd2] at x2
      have x3 := r3 b hb0' hbn'
      exact .inr ⟨hba, x1.1.symm, x1.2.symm, (x3.1.trans (x2.1.trans x1.1)).symm, (x3.2.trans (x2.2.trans x1.2)).symm⟩
  have we1 : VdM.writeErr d a = 0 ∧ VdM.writeD d a p = d1 := by rw [hd1]; exact ⟨VdM.writeE_ok hm ho' hcl ha0' han', VdM.writeD_ok p hm ho' hcl ha0' han'⟩
  have we2 : VdM.writeErr d1 a = 0 ∧ VdM.writeD d1 a q = d2 := by rw [hd2]; exact ⟨VdM.writeE_ok m1 o1 (by have := hgp.2.1; omega) ha0' (by rw [n1]; exact han'), VdM.writeD_ok q m1 o1 (by have := hgp.2.1; omega) ha0' (by rw [n1]; exact han')⟩
  rw [← hd3] at hf2
  have RD := Lib.hid (fun W (v : Value) (h : IsDisk (World.heap W).size W v d) => vread_any v d b W h)
  have W1 := Lib.hid (fun W (v : Value) (h : IsDisk (World.heap W).size W v d) => vwrite_any v d a p W HPl.out h (by have := hgp.1; omega) (by have := hgp.2.1; omega) (by have := hgp.2.2; omega))
  rw [we1.1, we1.2] at W1
  have R1a := Lib.hid (fun W (v : Value) (h : IsDisk (World.heap W).size W v d1) => vread_any v d1 a W h)
  rw [r1a.1, r1a.2] at R1a
  have R1b := Lib.hid (fun W (v : Value) (h : IsDisk (World.heap W).size W v d1) => vread_any v d1 b W h)
  have W2 := Lib.hid (fun W (v : Value) (h : IsDisk (World.heap W).size W v d1) => vwrite_any v d1 a q W HQl.out h (by rw [n1]; have := hgp.1; omega) (by rw [c1]; have := hgp.2.1; omega) (by rw [b1]; have := hgp.2.2; omega))
  rw [we2.1, we2.2] at W2
  have R2a := Lib.hid (fun W (v : Value) (h : IsDisk (World.heap W).size W v d2) => vread_any v d2 a W h)
  rw [r2a.1, r2a.2] at R2a
  have F2 := Lib.hid (fun W (v : Value) (h : IsDisk (World.heap W).size W v d2) => vflush_any v d2 W h (by rw [n2]; have := hgp.1; omega) (by rw [c2]; have := hgp.2.1; omega) (by rw [b2]; have := hgp.2.2; omega))
  rw [hf2.1, hf2.2] at F2
  have R3a := Lib.hid (fun W (v : Value) (h : IsDisk (World.heap W).size W v d3) => vread_any v d3 a W h)
  rw [r3a.1, r3a.2] at R3a
  have R3b := Lib.hid (fun W (v : Value) (h : IsDisk (World.heap W).size W v d3) => vread_any v d3 b W h)
  have WT := Lib.hid (fun W (v : Value) (h : IsDisk (World.heap W).size W v d3) => vwaits_any v d3 W h (by rw [hd3]; simp))
  have hwt : VdM.waits d3.cache = [] := by rw [hd3]; rfl
  rw [hwt] at WT
  have MY1 := Lib.hid (fun W (v : Value) (h : IsDisk (World.heap W).size W v d1) => vmay_any v d1 W h)
  rw [m1] at MY1
  have MY3 := Lib.hid (fun W (v : Value) (h : IsDisk (World.heap W).size W v d3) => vmay_any v d3 W h)
  rw [m3] at MY3
  have HPLp := Lib.hid (VdM.readP_len HPL.out HCL.out b)
  have HO1 := Lib.hid o1; have HO2 := Lib.hid o2; have HO3 : Hid (d3.off = false) := by rw [hd3]; rfl
  have HN3 := Lib.hid n3
  have HL1 : Hid ((VdM.readP d1 b).length = 256) := by
    unfold Hid
    rcases hcase with e | ⟨_, e, _⟩
    · subst e; rw [r1a.1]; exact HPl.out
    · rw [← e]; exact HPLp.out
  have HL3 : Hid ((VdM.readP d3 b).length = 256) := by
    unfold Hid
    rcases hcase with e | ⟨_, _, _, e, _⟩
    · subst e; rw [r3a.1]; exact HQl.out
    · rw [← e]; exact HPLp.out
  clear m1 o1 n1 c1 b1 m2 o2 n2 c2 b2 m3 n3 hf2 r1a r2a r3 r3a we1 we2 hwt hd1 hd2 hd3 ho hm ho' hcl hgp ha0' hb0' han' hbn'
  generalize VdM.readP d b = wP at *
  generalize VdM.readE d b = wE at *
  generalize VdM.readP d1 b = yP at *
  generalize VdM.readE d1 b = yE at *
  generalize VdM.readP d3 b = zP at *
  generalize VdM.readE d3 b = zE at *
  have eqp := neq_pg p HPl.out
  have eqq := neq_pg q HQl.out
  have eqw := neq_pg wP HPLp.out
  have hcase' : b = a ∨ ((b != a) = true ∧ (b == a) = false ∧ (∀ W, (Op.equalIn 10000 28 (.agg (pgA yP)) (.agg (pgA wP))).run Try.prog W = .ok true W) ∧ (∀ W, (Op.equalIn 10000 28 (.agg (pgA zP)) (.agg (pgA wP))).run Try.prog W = .ok true W) ∧ wE = yE ∧ wE = zE) := by
    rcases hcase with e | ⟨e, e1, e2, e3, e4⟩
    · exact .inl e
    · exact .inr ⟨by simpa using e, by simpa using e, by rw [← e1]; exact eqw, by rw [← e3]; exact eqw, e2, e4⟩
  clear hcase
  rcases hcase' with rfl | ⟨hba, hbe, eqyw, eqzw, rfl, rfl⟩
  all_goals
    go_enter Try.func4, Try.ntmps4
    go_wp2_with (first
      | ((with_reducible refine wpList_load_dk (o := ⟨some 23, _, _, _, _, _⟩) ?_ (.tmp 5) ?_ w.heap.size D ?_ ?_ ?_ ?_); exact rfl; exact rfl; exact rfl; exact L0.out.row 0 _ rfl; exact Ds.out.1)
      | ((with_reducible refine wpList_slice_dk (o := ⟨some 24, _, _, _, _, _⟩) ?_ (.tmp 23) ?_ D ?_ ?_ ?_); exact rfl; exact rfl; exact rfl; exact Ds.out.1)
      | (go_at_call 8; refine HGr.out.mono ?_; rintro e u1 ⟨rfl, g⟩; have Z1 : Hid (w.heap.size + 3 < u1.heap.size) := (by have := Below.size g; simp at this; unfold Hid; omega); have L1 := Lib.hid ((L0.out.grows (Grows.alloc _ _)).grows g); clear g)
      | ((with_reducible refine wpList_loadG_dk (o := ⟨some 27, _, _, _, _, _⟩) ?_ (.tmp 5) ?_ w.heap.size D ?_ ?_ ?_ ?_); exact rfl; exact rfl; exact rfl; exact L1.out.row 0 _ rfl; exact Ds.out.1)
      | (go_at_call 16; (with_reducible refine (HMy.out _ (L1.out.disk 0 rfl HV.out)).mono ?_); rintro e u2 ⟨rfl, g⟩; have Z2 := Lib.hid (Below.size g); have L2 := Lib.hid (L1.out.grows g); have c3 := (L2.out.cell 0 rfl 3).trans Ds.out.2.2; have c0 := (L2.out.cell 0 rfl 0).trans Ds.out.2.1; clear g)
      | ((with_reducible refine wpList_load_dk (o := ⟨some 59, _, _, _, _, _⟩) ?_ (.tmp 5) ?_ w.heap.size D ?_ ?_ ?_ ?_); exact rfl; exact rfl; exact rfl; exact L2.out.row 0 _ rfl; exact Ds.out.1)
      | (go_at_call 12; (with_reducible refine (RD.out _ _ (L2.out.disk 0 rfl HV.out)).mono ?_); rintro e u3 ⟨rfl, g⟩; have Z3 := Lib.hid (Below.size g); have L3 := Lib.hid (L2.out.grows g); clear g)
      | ((with_reducible refine wpList_store_pgrow ?_ (.tmp 11) (.tmp 62) ?_ u3.heap.size wP VdM.blank ?_ ?_ ?_ ?_ ?_ ?_); exact rfl; exact rfl; exact rfl; exact rfl; exact HPLp.out; exact blank_len; exact Row.new u3 _ _; intro u4 hp hg; have g := grown_fresh rfl hg; have Z4 := Lib.hid (Row.lt hp); have L4 := Lib.hid (L3.out.grows g); have L5 := Lib.hid (L4.out.push hp); clear hp hg g)
      | ((with_reducible refine wpList_load_dk (o := ⟨some 65, _, _, _, _, _⟩) ?_ (.tmp 5) ?_ w.heap.size D ?_ ?_ ?_ ?_); exact rfl; exact rfl; exact rfl; exact L5.out.row 0 _ rfl; exact Ds.out.1)
      | ((with_reducible refine wpList_load_pgrow (o := ⟨some 67, _, _, _, _, _⟩) ?_ (.tmp 8) ?_ (w.heap.size + 1) p ?_ ?_ ?_ ?_); exact rfl; exact rfl; exact rfl; exact HPl.out; exact L5.out.row 1 _ rfl)
      | (go_at_call 22; (with_reducible refine (W1.out _ _ (L5.out.disk 0 rfl HV.out)).mono ?_); rintro e u5 ⟨r, rfl, hr, g⟩; obtain ⟨pvA, cvA, bvA, rfl, oa1, oa2, oa3⟩ := hr; rw [HO1.out]; have HDA : Hid (IsDisk u5.heap.size u5 (.agg #[pvA, cvA, bvA, .bool false]) d1) := ⟨_, _, _, by rw [HO1.out], oa1.els, oa2.els, oa3.els⟩; have H4A := Lib.hid (dk_one HDA.out); clear oa1 oa2 oa3; have Z5 := Lib.hid (Below.size g); have L6 := Lib.hid (L5.out.grows g); have L7 := Lib.hid L6.out.mark; clear g)
      | ((with_reducible refine wpList_store_dk ?_ (.tmp 13) (.tmp 69) ?_ u5.heap.size #[pvA, cvA, bvA, .bool false] #[.slice none 0 0, .slice none 0 0, .slice none 0 0, .bool false] ?_ ?_ ?_ ?_ ?_ ?_ ?_); exact rfl; exact rfl; exact rfl; exact rfl; exact H4A.out.1; exact rfl; exact H4A.out.2; exact Row.new u5 _ _; intro u6 hp hg; have g := grown_fresh rfl hg; have Z6 := Lib.hid (Row.lt hp); have L8 := Lib.hid (L7.out.grows g); have L9 := Lib.hid (L8.out.push hp); clear hp hg g)
      | ((with_reducible refine wpList_load_dk (o := ⟨some 72, _, _, _, _, _⟩) ?_ (.tmp 13) ?_ u5.heap.size #[pvA, cvA, bvA, .bool false] ?_ ?_ ?_ ?_); exact rfl; exact rfl; exact rfl; exact L9.out.row 4 _ rfl; exact rfl)
      | (go_at_call 12; (with_reducible refine (R1a.out _ _ (L9.out.disk 1 rfl HDA.out)).mono ?_); rintro e u7 ⟨rfl, g⟩; have Z7 := Lib.hid (Below.size g); have L10 := Lib.hid (L9.out.grows g); clear g)
      | ((with_reducible refine wpList_store_pgrow ?_ (.tmp 15) (.tmp 75) ?_ u7.heap.size p VdM.blank ?_ ?_ ?_ ?_ ?_ ?_); exact rfl; exact rfl; exact rfl; exact rfl; exact HPl.out; exact blank_len; exact Row.new u7 _ _; intro u8 hp hg; have g := grown_fresh rfl hg; have Z8 := Lib.hid (Row.lt hp); have L11 := Lib.hid (L10.out.grows g); have L12 := Lib.hid (L11.out.push hp); clear hp hg g)
      | ((with_reducible refine wpList_load_dk (o := ⟨some 78, _, _, _, _, _⟩) ?_ (.tmp 13) ?_ u5.heap.size #[pvA, cvA, bvA, .bool false] ?_ ?_ ?_ ?_); exact rfl; exact rfl; exact rfl; exact L12.out.row 4 _ rfl; exact rfl)
      | (go_at_call 12; (with_reducible refine (R1b.out _ _ (L12.out.disk 1 rfl HDA.out)).mono ?_); rintro e u9 ⟨rfl, g⟩; have Z9 := Lib.hid (Below.size g); have L13 := Lib.hid (L12.out.grows g); clear g)
      | ((with_reducible refine wpList_store_pgrow ?_ (.tmp 17) (.tmp 81) ?_ u9.heap.size yP VdM.blank ?_ ?_ ?_ ?_ ?_ ?_); exact rfl; exact rfl; exact rfl; exact rfl; exact HL1.out; exact blank_len; exact Row.new u9 _ _; intro u10 hp hg; have g := grown_fresh rfl hg; have Z10 := Lib.hid (Row.lt hp); have L14 := Lib.hid (L13.out.grows g); have L15 := Lib.hid (L14.out.push hp); clear hp hg g)
      | ((with_reducible refine wpList_loadG_pgrow (o := ⟨some 90, _, _, _, _, _⟩) ?_ (.tmp 15) ?_ u7.heap.size p ?_ ?_ ?_ ?_); exact rfl; exact rfl; exact rfl; exact HPl.out; exact L15.out.row 5 _ rfl)
      | ((with_reducible refine wpList_loadG_pgrow (o := ⟨some 91, _, _, _, _, _⟩) ?_ (.tmp 8) ?_ (w.heap.size + 1) p ?_ ?_ ?_ ?_); exact rfl; exact rfl; exact rfl; exact HPl.out; exact L15.out.row 1 _ rfl)
      | ((with_reducible refine wpList_loadG_pgrow (o := ⟨some 99, _, _, _, _, _⟩) ?_ (.tmp 17) ?_ u9.heap.size yP ?_ ?_ ?_ ?_); exact rfl; exact rfl; exact rfl; exact HL1.out; exact L15.out.row 6 _ rfl)
      | ((with_reducible refine wpList_loadG_pgrow (o := ⟨some 100, _, _, _, _, _⟩) ?_ (.tmp 11) ?_ u3.heap.size wP ?_ ?_ ?_ ?_); exact rfl; exact rfl; exact rfl; exact HPLp.out; exact L15.out.row 3 _ rfl)
      | ((with_reducible refine wpList_load_dk (o := ⟨some 110, _, _, _, _, _⟩) ?_ (.tmp 13) ?_ u5.heap.size #[pvA, cvA, bvA, .bool false] ?_ ?_ ?_ ?_); exact rfl; exact rfl; exact rfl; exact L15.out.row 4 _ rfl; exact rfl)
      | ((with_reducible refine wpList_load_pgrow (o := ⟨some 112, _, _, _, _, _⟩) ?_ (.tmp 9) ?_ (w.heap.size + 1 + 1) q ?_ ?_ ?_ ?_); exact rfl; exact rfl; exact rfl; exact HQl.out; exact L15.out.row 2 _ rfl)
      | (go_at_call 22; (with_reducible refine (W2.out _ _ (L15.out.disk 1 rfl HDA.out)).mono ?_); rintro e u11 ⟨r, rfl, hr, g⟩; obtain ⟨pvB, cvB, bvB, rfl, ob1, ob2, ob3⟩ := hr; rw [HO2.out]; have hob : OwnDisk u10.heap.size u11 (.agg #[pvB, cvB, bvB, .bool false]) d2 := ⟨_, _, _, by rw [HO2.out], ob1, ob2, ob3⟩; have H4B := Lib.hid (dk_one hob.disk); clear ob1 ob2 ob3; have Z11 := Lib.hid (Below.size g); have L16 := Lib.hid (L15.out.grows g); have OB_16 := Lib.hid hob; clear g)
      | ((with_reducible refine wpList_store_dk ?_ (.tmp 19) (.tmp 114) ?_ u11.heap.size #[pvB, cvB, bvB, .bool false] #[.slice none 0 0, .slice none 0 0, .slice none 0 0, .bool false] ?_ ?_ ?_ ?_ ?_ ?_ ?_); exact rfl; exact rfl; exact rfl; exact rfl; exact H4B.out.1; exact rfl; exact H4B.out.2; exact Row.new u11 _ _; intro u12 hp hg; have g := grown_fresh rfl hg; have Z12 := Lib.hid (Row.lt hp); have L17 := Lib.hid (L16.out.grows g); have OB_17 := Lib.hid (OB_16.out.grows g); have L18 := Lib.hid (L17.out.push hp); have OB_18 := OB_17; clear hp hg g)
      | ((with_reducible refine wpList_load_dk (o := ⟨some 117, _, _, _, _, _⟩) ?_ (.tmp 19) ?_ u11.heap.size #[pvB, cvB, bvB, .bool false] ?_ ?_ ?_ ?_); exact rfl; exact rfl; exact rfl; exact L18.out.row 7 _ rfl; exact rfl)
      | (go_at_call 12; (with_reducible refine (R2a.out _ _ OB_18.out.disk).mono ?_); rintro e u13 ⟨rfl, g⟩; have Z13 := Lib.hid (Below.size g); have L19 := Lib.hid (L18.out.grows g); have OB_19 := Lib.hid (OB_18.out.grows g); clear g)
      | ((with_reducible refine wpList_store_pgrow ?_ (.tmp 15) (.tmp 120) ?_ u7.heap.size q p ?_ ?_ ?_ ?_ ?_ ?_); exact rfl; exact rfl; exact rfl; exact rfl; exact HQl.out; exact HPl.out; exact L19.out.row 5 _ rfl; intro u14 hp hg; have Z14 := Lib.hid (hg.size); have L20 := Lib.hid (L19.out.store hg hp 5 (by have z1 := Z1.out; have z2 := Z2.out; have z3 := Z3.out; have z4 := Z4.out; have z5 := Z5.out; have z6 := Z6.out; have z7 := Z7.out; have z8 := Z8.out; have z9 := Z9.out; have z10 := Z10.out; have z11 := Z11.out; have z12 := Z12.out; have z13 := Z13.out; intro k r hk hki; match k, hk, hki with | 0, hk, _ => (cases hk; simp only; omega) | 1, hk, _ => (cases hk; simp only; omega) | 2, hk, _ => (cases hk; simp only; omega) | 3, hk, _ => (cases hk; simp only; omega) | 4, hk, _ => (cases hk; simp only; omega) | 5, _, h => exact absurd rfl h | 6, hk, _ => (cases hk; simp only; omega) | 7, hk, _ => (cases hk; simp only; omega) | _ + 8, hk, _ => simp at hk) (by have z1 := Z1.out; have z2 := Z2.out; have z3 := Z3.out; have z4 := Z4.out; have z5 := Z5.out; have z6 := Z6.out; have z7 := Z7.out; have z8 := Z8.out; have z9 := Z9.out; have z10 := Z10.out; have z11 := Z11.out; have z12 := Z12.out; have z13 := Z13.out; intro c hc; simp at hc; rcases hc with rfl | rfl <;> omega)); have OB_20 := Lib.hid (OB_19.out.aside hg (by have z1 := Z1.out; have z2 := Z2.out; have z3 := Z3.out; have z4 := Z4.out; have z5 := Z5.out; have z6 := Z6.out; have z7 := Z7.out; have z8 := Z8.out; have z9 := Z9.out; have z10 := Z10.out; have z11 := Z11.out; have z12 := Z12.out; have z13 := Z13.out; omega)); clear hp hg)
      | ((with_reducible refine wpList_load_dk (o := ⟨some 123, _, _, _, _, _⟩) ?_ (.tmp 19) ?_ u11.heap.size #[pvB, cvB, bvB, .bool false] ?_ ?_ ?_ ?_); exact rfl; exact rfl; exact rfl; exact L20.out.row 7 _ rfl; exact rfl)
      | (go_at_call 24; (with_reducible refine (F2.out _ _ OB_20.out.disk).mono ?_); rintro e u15 ⟨r, rfl, hr, g⟩; obtain ⟨pvC, cvC, bvC, rfl, oc1, oc2, oc3⟩ := hr; obtain ⟨AC, capC, rfl, _⟩ := oc1.els.form; rw [HN3.out] at oc1 ⊢; rw [HO3.out]; have hoc : OwnDisk u14.heap.size u15 (.agg #[.slice AC d.pages.length capC, cvC, bvC, .bool false]) d3 := ⟨_, _, _, by rw [HO3.out], oc1, oc2, oc3⟩; have H4C := Lib.hid (dk_one hoc.disk); clear oc1 oc2 oc3; have Z15 := Lib.hid (Below.size g); have L21 := Lib.hid (L20.out.grows g); have OB_21 := Lib.hid (OB_20.out.grows g); have OC_21 := Lib.hid hoc; clear g)
      | ((with_reducible refine wpList_store_dk ?_ (.tmp 20) (.tmp 125) ?_ u15.heap.size #[.slice AC d.pages.length capC, cvC, bvC, .bool false] #[.slice none 0 0, .slice none 0 0, .slice none 0 0, .bool false] ?_ ?_ ?_ ?_ ?_ ?_ ?_); exact rfl; exact rfl; exact rfl; exact rfl; exact H4C.out.1; exact rfl; exact H4C.out.2; exact Row.new u15 _ _; intro u16 hp hg; have g := grown_fresh rfl hg; have Z16 := Lib.hid (Row.lt hp); have L22 := Lib.hid (L21.out.grows g); have OC_22 := Lib.hid (OC_21.out.grows g); have L23 := Lib.hid (L22.out.push hp); have OC_23 := OC_22; clear hp hg g)
      | ((with_reducible refine wpList_load_dk (o := ⟨some 128, _, _, _, _, _⟩) ?_ (.tmp 20) ?_ u15.heap.size #[.slice AC d.pages.length capC, cvC, bvC, .bool false] ?_ ?_ ?_ ?_); exact rfl; exact rfl; exact rfl; exact L23.out.row 8 _ rfl; exact rfl)
      | (go_at_call 12; (with_reducible refine (R3a.out _ _ OC_23.out.disk).mono ?_); rintro e u17 ⟨rfl, g⟩; have Z17 := Lib.hid (Below.size g); have L24 := Lib.hid (L23.out.grows g); have OC_24 := Lib.hid (OC_23.out.grows g); clear g)
      | ((with_reducible refine wpList_store_pgrow ?_ (.tmp 21) (.tmp 131) ?_ u17.heap.size q VdM.blank ?_ ?_ ?_ ?_ ?_ ?_); exact rfl; exact rfl; exact rfl; exact rfl; exact HQl.out; exact blank_len; exact Row.new u17 _ _; intro u18 hp hg; have g := grown_fresh rfl hg; have Z18 := Lib.hid (Row.lt hp); have L25 := Lib.hid (L24.out.grows g); have OC_25 := Lib.hid (OC_24.out.grows g); have L26 := Lib.hid (L25.out.push hp); have OC_26 := OC_25; clear hp hg g)
      | ((with_reducible refine wpList_loadG_pgrow (o := ⟨some 140, _, _, _, _, _⟩) ?_ (.tmp 15) ?_ u7.heap.size q ?_ ?_ ?_ ?_); exact rfl; exact rfl; exact rfl; exact HQl.out; exact L26.out.row 5 _ rfl)
      | ((with_reducible refine wpList_loadG_pgrow (o := ⟨some 141, _, _, _, _, _⟩) ?_ (.tmp 9) ?_ (w.heap.size + 1 + 1) q ?_ ?_ ?_ ?_); exact rfl; exact rfl; exact rfl; exact HQl.out; exact L26.out.row 2 _ rfl)
      | ((with_reducible refine wpList_loadG_pgrow (o := ⟨some 153, _, _, _, _, _⟩) ?_ (.tmp 21) ?_ u17.heap.size q ?_ ?_ ?_ ?_); exact rfl; exact rfl; exact rfl; exact HQl.out; exact L26.out.row 9 _ rfl)
      | ((with_reducible refine wpList_loadG_pgrow (o := ⟨some 154, _, _, _, _, _⟩) ?_ (.tmp 9) ?_ (w.heap.size + 1 + 1) q ?_ ?_ ?_ ?_); exact rfl; exact rfl; exact rfl; exact HQl.out; exact L26.out.row 2 _ rfl)
      | ((with_reducible refine wpList_loadG_dk (o := ⟨some 158, _, _, _, _, _⟩) ?_ (.tmp 20) ?_ u15.heap.size #[.slice AC d.pages.length capC, cvC, bvC, .bool false] ?_ ?_ ?_ ?_); exact rfl; exact rfl; exact rfl; exact L26.out.row 8 _ rfl; exact rfl)
      | (go_at_call 20; (with_reducible refine (WT.out _ _ OC_26.out.disk).mono ?_); rintro e u19 ⟨r, rfl, hr, g⟩; obtain ⟨AW, cW, rfl, _⟩ := hr.els.form; rw [List.length_nil]; have Z19 := Lib.hid (Below.size g); have L27 := Lib.hid (L26.out.grows g); have OC_27 := Lib.hid (OC_26.out.grows g); have f0 := L27.out.cell 8 rfl 0; have f1 := (L27.out.cell 0 rfl 0).trans Ds.out.2.1; clear g)
      | ((with_reducible refine wpList_load_dk (o := ⟨some 173, _, _, _, _, _⟩) ?_ (.tmp 20) ?_ u15.heap.size #[.slice AC d.pages.length capC, cvC, bvC, .bool false] ?_ ?_ ?_ ?_); exact rfl; exact rfl; exact rfl; exact L27.out.row 8 _ rfl; exact rfl)
      | (go_at_call 12; (with_reducible refine (R3b.out _ _ OC_27.out.disk).mono ?_); rintro e u20 ⟨rfl, g⟩; have Z20 := Lib.hid (Below.size g); have L28 := Lib.hid (L27.out.grows g); have OC_28 := Lib.hid (OC_27.out.grows g); clear g)
      | ((with_reducible refine wpList_store_pgrow ?_ (.tmp 17) (.tmp 176) ?_ u9.heap.size zP yP ?_ ?_ ?_ ?_ ?_ ?_); exact rfl; exact rfl; exact rfl; exact rfl; exact HL3.out; exact HL1.out; exact L28.out.row 6 _ rfl; intro u21 hp hg; have Z21 := Lib.hid (hg.size); have L29 := Lib.hid (L28.out.store hg hp 6 (by have z1 := Z1.out; have z2 := Z2.out; have z3 := Z3.out; have z4 := Z4.out; have z5 := Z5.out; have z6 := Z6.out; have z7 := Z7.out; have z8 := Z8.out; have z9 := Z9.out; have z10 := Z10.out; have z11 := Z11.out; have z12 := Z12.out; have z13 := Z13.out; have z14 := Z14.out; have z15 := Z15.out; have z16 := Z16.out; have z17 := Z17.out; have z18 := Z18.out; have z19 := Z19.out; have z20 := Z20.out; intro k r hk hki; match k, hk, hki with | 0, hk, _ => (cases hk; simp only; omega) | 1, hk, _ => (cases hk; simp only; omega) | 2, hk, _ => (cases hk; simp only; omega) | 3, hk, _ => (cases hk; simp only; omega) | 4, hk, _ => (cases hk; simp only; omega) | 5, hk, _ => (cases hk; simp only; omega) | 6, _, h => exact absurd rfl h | 7, hk, _ => (cases hk; simp only; omega) | 8, hk, _ => (cases hk; simp only; omega) | 9, hk, _ => (cases hk; simp only; omega) | _ + 10, hk, _ => simp at hk) (by have z1 := Z1.out; have z2 := Z2.out; have z3 := Z3.out; have z4 := Z4.out; have z5 := Z5.out; have z6 := Z6.out; have z7 := Z7.out; have z8 := Z8.out; have z9 := Z9.out; have z10 := Z10.out; have z11 := Z11.out; have z12 := Z12.out; have z13 := Z13.out; have z14 := Z14.out; have z15 := Z15.out; have z16 := Z16.out; have z17 := Z17.out; have z18 := Z18.out; have z19 := Z19.out; have z20 := Z20.out; intro c hc; simp at hc; rcases hc with rfl | rfl <;> omega)); have OC_29 := Lib.hid (OC_28.out.aside hg (by have z1 := Z1.out; have z2 := Z2.out; have z3 := Z3.out; have z4 := Z4.out; have z5 := Z5.out; have z6 := Z6.out; have z7 := Z7.out; have z8 := Z8.out; have z9 := Z9.out; have z10 := Z10.out; have z11 := Z11.out; have z12 := Z12.out; have z13 := Z13.out; have z14 := Z14.out; have z15 := Z15.out; have z16 := Z16.out; have z17 := Z17.out; have z18 := Z18.out; have z19 := Z19.out; have z20 := Z20.out; omega)); clear hp hg)
      | ((with_reducible refine wpList_loadG_pgrow (o := ⟨some 182, _, _, _, _, _⟩) ?_ (.tmp 17) ?_ u9.heap.size zP ?_ ?_ ?_ ?_); exact rfl; exact rfl; exact rfl; exact HL3.out; exact L29.out.row 6 _ rfl)
      | ((with_reducible refine wpList_loadG_pgrow (o := ⟨some 183, _, _, _, _, _⟩) ?_ (.tmp 11) ?_ u3.heap.size wP ?_ ?_ ?_ ?_); exact rfl; exact rfl; exact rfl; exact HPLp.out; exact L29.out.row 3 _ rfl)
      | ((with_reducible refine wpList_loadG_dk (o := ⟨some 192, _, _, _, _, _⟩) ?_ (.tmp 13) ?_ u5.heap.size #[pvA, cvA, bvA, .bool false] ?_ ?_ ?_ ?_); exact rfl; exact rfl; exact rfl; exact L29.out.row 4 _ rfl; exact rfl)
      | (go_at_call 15; (with_reducible refine (MY1.out _ _ (L29.out.disk 1 rfl HDA.out)).mono ?_); rintro e u22 ⟨rfl, g⟩; have Z22 := Lib.hid (Below.size g); have L30 := Lib.hid (L29.out.grows g); have OC_30 := Lib.hid (OC_29.out.grows g); clear g)
      | ((with_reducible refine wpList_loadG_dk (o := ⟨some 196, _, _, _, _, _⟩) ?_ (.tmp 20) ?_ u15.heap.size #[.slice AC d.pages.length capC, cvC, bvC, .bool false] ?_ ?_ ?_ ?_); exact rfl; exact rfl; exact rfl; exact L30.out.row 8 _ rfl; exact rfl)
      | (go_at_call 15; (with_reducible refine (MY3.out _ _ OC_30.out.disk).mono ?_); rintro e u23 ⟨rfl, g⟩; have Z23 := Lib.hid (Below.size g); have L31 := Lib.hid (L30.out.grows g); have OC_31 := Lib.hid (OC_30.out.grows g); clear g)
      | (go_at_call 9; (with_reducible refine (wakes_any _).mono ?_); rintro e u24 ⟨rfl, g⟩; have Z24 := Lib.hid (Below.size g); have L32 := Lib.hid (L31.out.grows g); have OC_32 := Lib.hid (OC_31.out.grows g); clear g))
    go_ret
    exact ⟨rfl, L32.out.below 0 w rfl⟩
end Go.Proofs.Ytfcghkmhcfgfkaa
