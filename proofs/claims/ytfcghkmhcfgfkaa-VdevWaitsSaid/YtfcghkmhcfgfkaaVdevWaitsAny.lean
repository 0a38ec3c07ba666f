/- VdevWaits: just the places of writes that are not flushed are told, rising, each once. -/
import Derived.Test.YtfcghkmhcfgfkaaVdLaws
namespace Go.Proofs.Ytfcghkmhcfgfkaa
open Go.RowKit
set_option linter.unusedVariables false
set_option linter.unusedSimpArgs false
namespace VdM
/-- Which places a list has, as an array. -/
def thA (l : List Int) : Array Value := ((List.range 256).map fun (i : Nat) => Value.bool (l.contains (i : Int))).toArray
theorem thA_size (l : List Int) : (thA l).size = 256 := by simp [thA]
theorem thA_get (l : List Int) (k : Nat) (h : k < 256) : (thA l)[k]? = some (.bool (l.contains (k : Int))) := by simp [thA, h]
theorem thA_nil : thA [] = onZ := by
  apply Array.ext_getElem?
  intro i
  unfold onZ
  rw [Array.getElem?_replicate]
  by_cases hi : i < 256
  · rw [thA_get _ _ hi, if_pos hi]; rfl
  · rw [if_neg hi, Array.getElem?_eq_none (by rw [thA_size]; omega)]
theorem thA_snoc (l : List Int) (q : Nat) : thA (l ++ [(q : Int)]) = (thA l).setIfInBounds q (.bool true) := by
  apply Array.ext_getElem?
  intro i
  rw [Array.getElem?_setIfInBounds, thA_size]
  by_cases hi : i < 256
  · rw [thA_get _ _ hi, thA_get _ _ hi]
    by_cases h2 : q = i
    · subst h2
      simp [hi]
    · rw [if_neg h2]
      congr 2
      rw [Bool.eq_iff_iff, List.contains_iff_mem, List.contains_iff_mem, List.mem_append, List.mem_singleton]
      constructor
      · rintro (h | h)
        · exact h
        · omega
      · exact .inl
  · rw [Array.getElem?_eq_none (by rw [thA_size]; omega)]
    split
    · rw [if_neg (by omega)]
    · rw [Array.getElem?_eq_none (by rw [thA_size]; omega)]
def cnt (l : List Int) (k : Nat) : Nat := ((List.range k).filter fun (i : Nat) => l.contains (i : Int)).length
theorem cnt_succ (l : List Int) (k : Nat) : cnt l (k + 1) = cnt l k + (if l.contains (k : Int) then 1 else 0) := by
  unfold cnt
  rw [List.range_succ, List.filter_append, List.length_append]
  congr 1
  by_cases h : l.contains (k : Int) = true
  · rw [if_pos h]
    simp only [List.filter_cons, h, if_true, List.filter_nil, List.length_singleton]
  · rw [if_neg h]
    simp only [List.filter_cons, h, if_false, List.filter_nil, List.length_nil]
    rfl
theorem cnt_le (l : List Int) (k : Nat) : cnt l k ≤ k := by
  unfold cnt
  exact Nat.le_trans (List.length_filter_le _ _) (by simp)
theorem waits_cnt (c : List (Int × Pg)) (n : Nat) (hn : n ≤ 256) (h : mayC n c = true) : (waits c).length = cnt (c.map (·.1)) 256 := by
  have e : waits c = (((List.range 256).filter fun (i : Nat) => (c.map (·.1)).contains (i : Int))).map fun (i : Nat) => (i : Int) := by
    refine asc_unique _ _ (waits_asc c) ?_ fun z => ?_
    · rw [List.pairwise_map]
      refine List.Pairwise.filter _ ?_
      exact List.Pairwise.imp (fun {a b} h => by omega) List.pairwise_lt_range
    · constructor
      · intro hz
        rw [mem_waits] at hz
        have hz' := hz
        obtain ⟨x, hx, rfl⟩ := List.mem_map.1 hz
        have := List.all_eq_true.1 h x hx
        simp at this
        rw [List.mem_map]
        refine ⟨x.1.toNat, List.mem_filter.2 ⟨List.mem_range.2 (by omega), ?_⟩, by omega⟩
        rw [List.contains_iff_mem, show ((x.1.toNat : Nat) : Int) = x.1 by omega]
        exact hz'
      · intro hz
        obtain ⟨i, hi, rfl⟩ := List.mem_map.1 hz
        have := (List.mem_filter.1 hi).2
        rw [List.contains_iff_mem] at this
        rw [mem_waits]
        exact this
  rw [e, List.length_map]; rfl
theorem ins_length (n : Int) : ∀ l : List Int, l.Pairwise (· < ·) → (ins n l).length = l.length + (if l.contains n then 0 else 1)
  | [], _ => by simp [ins]
  | x :: l, h => by
    rw [List.pairwise_cons] at h
    unfold ins
    split
    · rename_i hx
      rw [List.length_cons, ins_length n l h.2, List.length_cons]
      have : (x :: l).contains n = l.contains n := by
        rw [Bool.eq_iff_iff, List.contains_iff_mem, List.contains_iff_mem, List.mem_cons]
        constructor
        · rintro (h | h)
          · omega
          · exact h
        · exact .inr
      rw [this]; omega
    · split
      · rename_i h1 h2
        subst h2
        simp
      · rename_i h1 h2
        have : (x :: l).contains n = false := by
          rw [Bool.eq_false_iff]
          intro hc
          rw [List.contains_iff_mem, List.mem_cons] at hc
          rcases hc with e | e
          · exact h2 e.symm
          · have := h.1 n e; omega
        rw [this]; simp
theorem waits_push (c : List (Int × Pg)) (a : Int) (p : Pg) : (waits (c ++ [(a, p)])).length = (waits c).length + (if (c.map (·.1)).contains a then 0 else 1) := by
  have e : waits (c ++ [(a, p)]) = ins a (waits c) := by unfold waits; rw [List.foldl_append]; rfl
  have e2 : (waits c).contains a = (c.map (·.1)).contains a := by
    rw [Bool.eq_iff_iff, List.contains_iff_mem, List.contains_iff_mem, mem_waits]
  rw [e, ins_length _ _ (waits_asc c), e2]
end VdM
set_option maxRecDepth 20000 in
set_option maxHeartbeats 8000000 in
theorem vdevWaits_any (v : Value) (d : Dk) (a : Int) (p : Pg) (w : World) (hv : IsDisk w.heap.size w v d) (ba1 : -9223372036854775808 ≤ a) (ba2 : a ≤ 9223372036854775807) (hp : p.length = 256) :
    Calls Try.prog 7 #[v, .int .i64 a, .agg (pgA p)] w fun e w' => e = .returned (.bool true) ∧ Below w.heap.size w w' := by
  have HV := Lib.hid hv; have HPl := Lib.hid hp
  obtain ⟨pv, cv, bv, rfl, hpp, hcc, hbb⟩ := hv
  obtain ⟨A, cap, rfl, q1, q2, _⟩ := hpp.form
  obtain ⟨C, cup, rfl, r1, r2, r3⟩ := hcc.form
  have HR := Lib.hid r3
  clear hpp hcc hbb hp r3
  unfold maxLen at q2 r2
  obtain ⟨D, hD⟩ : ∃ D, D = #[Value.slice A d.pages.length cap, .slice C d.cache.length cup, bv, .bool d.off] := ⟨_, rfl⟩
  have Ds : Hid (D.size = 4 ∧ D[0]? = some (.slice A d.pages.length cap) ∧ D[1]? = some (.slice C d.cache.length cup) ∧ D[3]? = some (.bool d.off)) := by subst hD; exact ⟨rfl, rfl, rfl, rfl⟩
  rw [← hD] at HV ⊢
  clear hD
  have L0 : Hid (Live [(w.heap.size, 26, D), (w.heap.size + 1, 28, pgA p)] [w] ((w.alloc (.cells D 26)).alloc (.cells (pgA p) 28))) := by
    have h0 : Live [] [w] w := ⟨fun i r h => by simp at h, fun i c h => by
      cases i with
      | zero => cases h; exact Below.refl _ _
      | succ i => simp at h⟩
    have h1 := (h0.grows (Grows.alloc w (.cells D 26))).push (Row.new w 26 D)
    have h2 := (h1.grows (Grows.alloc _ (.cells (pgA p) 28))).push (Row.new _ 28 (pgA p))
    rw [World.size_alloc] at h2
    exact h2
  have HGr : Hid _ := Lib.hid (great_one (L0.out.disk 0 rfl HV.out) Ds.out.1)
  have HMy : Hid (∀ W, IsDisk W.heap.size W (.agg D) d → Calls Try.prog 16 #[.agg D] W fun e w' => e = .returned (.bool (VdM.may d)) ∧ Grows W w') := fun W h => rmay_any _ d W h
  rw [World.size_alloc, World.size_alloc] at HGr
  by_cases hg : VdM.great d = true
  · rw [hg] at HGr
    clear hg
    go_enter Try.func7, Try.ntmps7
    go_wp2_with (first
      | ((with_reducible refine wpList_load_dk (o := ⟨some 17, _, _, _, _, _⟩) ?_ (.tmp 3) ?_ w.heap.size D ?_ ?_ ?_ ?_); exact rfl; exact rfl; exact rfl; exact L0.out.row 0 _ rfl; exact Ds.out.1)
      | ((with_reducible refine wpList_slice_dk (o := ⟨some 18, _, _, _, _, _⟩) ?_ (.tmp 17) ?_ D ?_ ?_ ?_); exact rfl; exact rfl; exact rfl; exact Ds.out.1)
      | (go_at_call 8; refine HGr.out.mono ?_; rintro e u1 ⟨rfl, g⟩; have L1 := Lib.hid ((L0.out.grows (Grows.alloc _ _)).grows g); clear g)
      | (go_at_call 9; refine (wakes_any _).mono ?_; rintro e u3 ⟨rfl, g⟩; have LE := Lib.hid (L1.out.grows g); clear g))
    go_ret
    exact ⟨rfl, LE.out.below 0 w rfl⟩
  rw [Bool.eq_false_iff.2 hg] at HGr
  have hgp := VdM.great_parts (Bool.eq_false_iff.2 hg)
  clear hg
  by_cases hm : VdM.may d = true
  case neg =>
    rw [Bool.eq_false_iff.2 hm] at HMy; clear hm
    clear hgp
    go_enter Try.func7, Try.ntmps7
    go_wp2_with (first
      | ((with_reducible refine wpList_load_dk (o := ⟨some 17, _, _, _, _, _⟩) ?_ (.tmp 3) ?_ w.heap.size D ?_ ?_ ?_ ?_); exact rfl; exact rfl; exact rfl; exact L0.out.row 0 _ rfl; exact Ds.out.1)
      | ((with_reducible refine wpList_slice_dk (o := ⟨some 18, _, _, _, _, _⟩) ?_ (.tmp 17) ?_ D ?_ ?_ ?_); exact rfl; exact rfl; exact rfl; exact Ds.out.1)
      | (go_at_call 8; refine HGr.out.mono ?_; rintro e u1 ⟨rfl, g⟩; have L1 := Lib.hid ((L0.out.grows (Grows.alloc _ _)).grows g); clear g)
      | ((with_reducible refine wpList_loadG_dk (o := ⟨some 21, _, _, _, _, _⟩) ?_ (.tmp 3) ?_ w.heap.size D ?_ ?_ ?_ ?_); exact rfl; exact rfl; exact rfl; exact L1.out.row 0 _ rfl; exact Ds.out.1)
      | (go_at_call 16; refine (HMy.out _ (L1.out.disk 0 rfl HV.out)).mono ?_; rintro e u2 ⟨rfl, g⟩; have L2 := Lib.hid (L1.out.grows g); have c3 := (L2.out.cell 0 rfl 3).trans Ds.out.2.2.2; have c0 := (L2.out.cell 0 rfl 0).trans Ds.out.2.1; clear g)
      | (go_at_call 9; refine (wakes_any _).mono ?_; rintro e u3 ⟨rfl, g⟩; have LE := Lib.hid (L2.out.grows g); clear g))
    go_ret
    exact ⟨rfl, LE.out.below 0 w rfl⟩
  rw [hm] at HMy
  by_cases ho : d.off = true
  case pos =>
    rw [ho] at Ds; clear ho
    clear hgp hm
    go_enter Try.func7, Try.ntmps7
    go_wp2_with (first
      | ((with_reducible refine wpList_load_dk (o := ⟨some 17, _, _, _, _, _⟩) ?_ (.tmp 3) ?_ w.heap.size D ?_ ?_ ?_ ?_); exact rfl; exact rfl; exact rfl; exact L0.out.row 0 _ rfl; exact Ds.out.1)
      | ((with_reducible refine wpList_slice_dk (o := ⟨some 18, _, _, _, _, _⟩) ?_ (.tmp 17) ?_ D ?_ ?_ ?_); exact rfl; exact rfl; exact rfl; exact Ds.out.1)
      | (go_at_call 8; refine HGr.out.mono ?_; rintro e u1 ⟨rfl, g⟩; have L1 := Lib.hid ((L0.out.grows (Grows.alloc _ _)).grows g); clear g)
      | ((with_reducible refine wpList_loadG_dk (o := ⟨some 21, _, _, _, _, _⟩) ?_ (.tmp 3) ?_ w.heap.size D ?_ ?_ ?_ ?_); exact rfl; exact rfl; exact rfl; exact L1.out.row 0 _ rfl; exact Ds.out.1)
      | (go_at_call 16; refine (HMy.out _ (L1.out.disk 0 rfl HV.out)).mono ?_; rintro e u2 ⟨rfl, g⟩; have L2 := Lib.hid (L1.out.grows g); have c3 := (L2.out.cell 0 rfl 3).trans Ds.out.2.2.2; have c0 := (L2.out.cell 0 rfl 0).trans Ds.out.2.1; clear g)
      | (go_at_call 9; refine (wakes_any _).mono ?_; rintro e u3 ⟨rfl, g⟩; have LE := Lib.hid (L2.out.grows g); clear g))
    go_ret
    exact ⟨rfl, LE.out.below 0 w rfl⟩
  rw [Bool.eq_false_iff.2 ho] at Ds
  by_cases ha0 : a < 0
  case pos =>
    clear hgp hm ho
    go_enter Try.func7, Try.ntmps7
    go_wp2_with (first
      | ((with_reducible refine wpList_load_dk (o := ⟨some 17, _, _, _, _, _⟩) ?_ (.tmp 3) ?_ w.heap.size D ?_ ?_ ?_ ?_); exact rfl; exact rfl; exact rfl; exact L0.out.row 0 _ rfl; exact Ds.out.1)
      | ((with_reducible refine wpList_slice_dk (o := ⟨some 18, _, _, _, _, _⟩) ?_ (.tmp 17) ?_ D ?_ ?_ ?_); exact rfl; exact rfl; exact rfl; exact Ds.out.1)
      | (go_at_call 8; refine HGr.out.mono ?_; rintro e u1 ⟨rfl, g⟩; have L1 := Lib.hid ((L0.out.grows (Grows.alloc _ _)).grows g); clear g)
      | ((with_reducible refine wpList_loadG_dk (o := ⟨some 21, _, _, _, _, _⟩) ?_ (.tmp 3) ?_ w.heap.size D ?_ ?_ ?_ ?_); exact rfl; exact rfl; exact rfl; exact L1.out.row 0 _ rfl; exact Ds.out.1)
      | (go_at_call 16; refine (HMy.out _ (L1.out.disk 0 rfl HV.out)).mono ?_; rintro e u2 ⟨rfl, g⟩; have L2 := Lib.hid (L1.out.grows g); have c3 := (L2.out.cell 0 rfl 3).trans Ds.out.2.2.2; have c0 := (L2.out.cell 0 rfl 0).trans Ds.out.2.1; clear g)
      | (go_at_call 9; refine (wakes_any _).mono ?_; rintro e u3 ⟨rfl, g⟩; have LE := Lib.hid (L2.out.grows g); clear g))
    go_ret
    exact ⟨rfl, LE.out.below 0 w rfl⟩
  by_cases han : (d.pages.length : Int) ≤ a
  case pos =>
    clear hgp hm ho
    go_enter Try.func7, Try.ntmps7
    go_wp2_with (first
      | ((with_reducible refine wpList_load_dk (o := ⟨some 17, _, _, _, _, _⟩) ?_ (.tmp 3) ?_ w.heap.size D ?_ ?_ ?_ ?_); exact rfl; exact rfl; exact rfl; exact L0.out.row 0 _ rfl; exact Ds.out.1)
      | ((with_reducible refine wpList_slice_dk (o := ⟨some 18, _, _, _, _, _⟩) ?_ (.tmp 17) ?_ D ?_ ?_ ?_); exact rfl; exact rfl; exact rfl; exact Ds.out.1)
      | (go_at_call 8; refine HGr.out.mono ?_; rintro e u1 ⟨rfl, g⟩; have L1 := Lib.hid ((L0.out.grows (Grows.alloc _ _)).grows g); clear g)
      | ((with_reducible refine wpList_loadG_dk (o := ⟨some 21, _, _, _, _, _⟩) ?_ (.tmp 3) ?_ w.heap.size D ?_ ?_ ?_ ?_); exact rfl; exact rfl; exact rfl; exact L1.out.row 0 _ rfl; exact Ds.out.1)
      | (go_at_call 16; refine (HMy.out _ (L1.out.disk 0 rfl HV.out)).mono ?_; rintro e u2 ⟨rfl, g⟩; have L2 := Lib.hid (L1.out.grows g); have c3 := (L2.out.cell 0 rfl 3).trans Ds.out.2.2.2; have c0 := (L2.out.cell 0 rfl 0).trans Ds.out.2.1; clear g)
      | (go_at_call 9; refine (wakes_any _).mono ?_; rintro e u3 ⟨rfl, g⟩; have LE := Lib.hid (L2.out.grows g); clear g))
    go_ret
    exact ⟨rfl, LE.out.below 0 w rfl⟩
  have ho' : d.off = false := Bool.eq_false_iff.2 ho
  have ha0' : 0 ≤ a := by omega
  have han' : a < d.pages.length := by omega
  have hcl : d.cache.length < 2000 := by have := hgp.2.1; omega
  have hmp := VdM.may_parts hm
  obtain ⟨k0, rfl⟩ : ∃ k0 : Nat, a = k0 := ⟨a.toNat, by omega⟩
  have hk256 : k0 < 256 := by omega
  have hk256i : (k0 : Int) < 256 := by omega
  obtain ⟨d1, hd1⟩ : ∃ d1, d1 = VdM.push d k0 p := ⟨_, rfl⟩
  have we1 : VdM.writeErr d k0 = 0 ∧ VdM.writeD d k0 p = d1 := by rw [hd1]; exact ⟨VdM.writeE_ok hm ho' hcl ha0' han', VdM.writeD_ok p hm ho' hcl ha0' han'⟩
  have o1 : d1.off = false := by rw [hd1]; exact ho'
  have W1 := Lib.hid (fun W (v : Value) (h : IsDisk (World.heap W).size W v d) => vwrite_any v d k0 p W HPl.out h (by have := hgp.1; omega) (by have := hgp.2.1; omega) (by have := hgp.2.2; omega))
  rw [we1.1, we1.2] at W1
  have WT := Lib.hid (fun W (v : Value) (h : IsDisk (World.heap W).size W v d) => vwaits_any v d W h (by have := hgp.2.1; omega))
  have WT1 := Lib.hid (fun W (v : Value) (h : IsDisk (World.heap W).size W v d1) => vwaits_any v d1 W h (by rw [hd1]; have := hgp.2.1; simp [VdM.push]; omega))
  have hw1 : (VdM.waits d1.cache).length = (VdM.waits d.cache).length + (if (d.cache.map (·.1)).contains (k0 : Int) then 0 else 1) := by rw [hd1]; exact VdM.waits_push d.cache k0 p
  have hwc := VdM.waits_cnt d.cache d.pages.length hmp.2.1 hmp.2.2.2.2.1
  have HMC := Lib.hid hmp.2.2.2.2.1
  have HNP := Lib.hid hmp.2.1
  have HO1 := Lib.hid o1
  have HCL : Hid (d.cache.length ≤ 60) := hgp.2.1
  have HW1 := Lib.hid hw1; have HWC := Lib.hid hwc
  have HASC := Lib.hid (VdM.waits_asc d.cache)
  have HMEM := Lib.hid (fun z => VdM.mem_waits d.cache z)
  have hk1 : ¬ (k0 : Int) < 0 := by omega
  clear hw1 hwc hmp we1 o1 hd1 hcl ha0 ho hm ho' hgp ha0' ba1 ba2
  have hzb := zero_on
  obtain ⟨ps, cs, bs, off⟩ := d
  simp only at *
  generalize VdM.waits cs = ls at *
  have HLS : Hid (ls.length ≤ 256) := by unfold Hid; rw [HWC.out]; exact VdM.cnt_le _ _
  go_enter Try.func7, Try.ntmps7
  go_wp2_with (first
    | ((with_reducible refine wpList_load_dk (o := ⟨some 17, _, _, _, _, _⟩) ?_ (.tmp 3) ?_ w.heap.size D ?_ ?_ ?_ ?_); exact rfl; exact rfl; exact rfl; exact L0.out.row 0 _ rfl; exact Ds.out.1)
    | ((with_reducible refine wpList_slice_dk (o := ⟨some 18, _, _, _, _, _⟩) ?_ (.tmp 17) ?_ D ?_ ?_ ?_); exact rfl; exact rfl; exact rfl; exact Ds.out.1)
    | (go_at_call 8; refine HGr.out.mono ?_; rintro e u1 ⟨rfl, g⟩; have Z1 : Hid (w.heap.size + 2 < u1.heap.size) := (by have := Below.size g; simp at this; unfold Hid; omega); have L1 := Lib.hid ((L0.out.grows (Grows.alloc _ _)).grows g); clear g)
    | ((with_reducible refine wpList_loadG_dk (o := ⟨some 21, _, _, _, _, _⟩) ?_ (.tmp 3) ?_ w.heap.size D ?_ ?_ ?_ ?_); exact rfl; exact rfl; exact rfl; exact L1.out.row 0 _ rfl; exact Ds.out.1)
    | (go_at_call 16; refine (HMy.out _ (L1.out.disk 0 rfl HV.out)).mono ?_; rintro e u2 ⟨rfl, g⟩; have L2 := Lib.hid (L1.out.grows g); have c3 := (L2.out.cell 0 rfl 3).trans Ds.out.2.2.2; have c0 := (L2.out.cell 0 rfl 0).trans Ds.out.2.1; clear g)
    | ((with_reducible refine wpList_load_dk (o := ⟨some 41, _, _, _, _, _⟩) ?_ (.tmp 3) ?_ w.heap.size D ?_ ?_ ?_ ?_); exact rfl; exact rfl; exact rfl; exact L2.out.row 0 _ rfl; exact Ds.out.1)
    | (go_at_call 20; (with_reducible refine (WT.out _ _ (L2.out.disk 0 rfl HV.out)).mono ?_); rintro e u3 ⟨r, rfl, hr, g⟩; have HLE := Lib.hid hr.els; obtain ⟨AL, cL, rfl, l1, l2, l3⟩ := hr.els.ints; unfold maxLen at l2; have HLC := Lib.hid l3; have HSZ : Hid (w.heap.size + 1 < u3.heap.size) := (by have := Z1.out; have := Below.size (L2.out.below 0 w rfl); have := Below.size g; have := (L2.out.row 1 _ rfl).lt; unfold Hid; simp only at this; omega); have Z3 := Lib.hid (Below.size g); have L3 := Lib.hid (L2.out.grows g); clear g))
  clear c3 c0
  have RT0 := Lib.hid (Row.new u3 50 onZ)
  have G0 := Lib.hid (Grows.alloc u3 (.cells onZ 50))
  rw [← VdM.thA_nil] at RT0 G0 ⊢
  go_loopw [9] (fun i wr => ∃ k : Nat, k ≤ cs.length ∧ i = .int .i64 k ∧ Row wr u3.heap.size 50 (VdM.thA ((cs.take k).map (·.1))) ∧ Grows u3 wr) (fun i _ => cs.length - (intOf i).toNat)
  case atStart => exact ⟨0, Nat.zero_le _, rfl, RT0.out, G0.out⟩
  case round =>
    obtain ⟨k, hk, rfl, hrt, hgr⟩ := hrel
    have LK := Lib.hid (L3.out.grows hgr)
    have c1 := (LK.out.cell 0 rfl 1).trans Ds.out.2.2.1
    have HRT := Lib.hid hrt; have HGK := Lib.hid hgr
    clear hrt hgr
    by_cases hlt : k < cs.length
    · obtain ⟨g, o, rfl, hgl, hx⟩ := HR.out (by omega)
      have e1 : cs[k]? = some cs[k] := List.getElem?_eq_getElem hlt
      have hxr : 0 ≤ cs[k].1 ∧ cs[k].1 < ps.length := by
        have := List.all_eq_true.1 HMC.out _ (List.mem_of_getElem? e1)
        simpa using this
      obtain ⟨q, hq⟩ : ∃ q : Nat, cs[k].1 = q := ⟨cs[k].1.toNat, by omega⟩
      have cx : wr.cell? ⟨g, o + k * 257, none⟩ = some (.int .i64 q) := by
        rw [← hq]
        have := rangeAt_keep (hx k _ e1) (fun b hb => Below.cell (LK.out.below 0 w rfl) (by rw [hb]; exact hgl)) 0 _ rfl
        simpa using this
      have hq256 : (q : Int) < 256 := by have := HNP.out; omega
      have hqn : q < 256 := by omega
      have HST : Hid (VdM.thA ((cs.take (k + 1)).map (·.1)) = (VdM.thA ((cs.take k).map (·.1))).setIfInBounds q (.bool true)) := by
        unfold Hid
        rw [List.take_add_one, e1, List.map_append]
        simp only [Option.toList_some, List.map_cons, List.map_nil, hq]
        exact VdM.thA_snoc _ q
      have tc := (HRT.out.cell q).trans (VdM.thA_get _ q hqn)
      have tf := HRT.out.frozen q
      clear hx e1 hxr hq
      go_wp2
      go_roundw
      case rel => exact ⟨k + 1, by omega, by go_num, by rw [HST.out]; exact HRT.out.set q _, HGK.out.setCell (p := ⟨u3.heap.size, q, none⟩) (Nat.le_refl _) _⟩
      case measure => simp [intOf]; omega
    · obtain rfl : k = cs.length := by omega
      have HRT2 : Hid (Row wr u3.heap.size 50 (VdM.thA (cs.map (·.1)))) := by have := HRT.out; rwa [List.take_length] at this
      clear HRT
      go_wp2
      go_loopw [10, 11] (fun m i wr2 => ∃ k : Nat, k ≤ 256 ∧ i = .int .i64 k ∧ m = .int .i64 (VdM.cnt (cs.map (·.1)) k) ∧ wr2 = wr) (fun m i _ => 256 - (intOf i).toNat)
      case atStart => exact ⟨0, Nat.zero_le _, rfl, rfl, rfl⟩
      case round =>
        obtain ⟨k, hk, rfl, rfl, rfl⟩ := hrel
        by_cases hlt2 : k < 256
        · have tc := (HRT2.out.cell k).trans (VdM.thA_get _ k hlt2)
          have hki : (k : Int) < 256 := by omega
          have HCS := Lib.hid (VdM.cnt_succ (cs.map (·.1)) k)
          have HCLe := VdM.cnt_le (cs.map (·.1)) k
          obtain ⟨t, ht⟩ : ∃ t, t = (cs.map (·.1)).contains (k : Int) := ⟨_, rfl⟩
          rw [← ht] at tc HCS
          clear ht
          generalize VdM.cnt (cs.map (·.1)) k = cn at *
          cases t
          all_goals
            go_wp2
            go_roundw
            case rel => exact ⟨k + 1, by omega, by go_num, by rw [HCS.out]; go_num, by first | trivial | rfl⟩
            case measure => simp [intOf]; omega
        · obtain rfl : k = 256 := by omega
          go_wp2
          rw [← HWC.out]
          go_loopw [12] (fun i wr2 => ∃ k : Nat, k ≤ ls.length ∧ i = .int .i64 k ∧ Grows wr wr2) (fun i _ => ls.length - (intOf i).toNat)
          case atStart => exact ⟨0, Nat.zero_le _, rfl, Grows.refl _⟩
          case round =>
            obtain ⟨k, hk, rfl, hg2⟩ := hrel
            have HG2 := Lib.hid hg2
            have HRT3 := Lib.hid (Row.grows HRT2.out hg2)
            have LK3 := Lib.hid (LK.out.grows hg2)
            have HGU := Lib.hid (HGK.out.trans hg2)
            clear hg2 c1
            by_cases hlt3 : k < ls.length
            · obtain ⟨gl, ol, rfl, hgll, hlx⟩ := HLC.out (by omega)
              have e1 : ls[k]? = some ls[k] := List.getElem?_eq_getElem hlt3
              have hmem : ls[k] ∈ cs.map (·.1) := (HMEM.out _).1 (List.getElem_mem hlt3)
              have hxr : 0 ≤ ls[k] ∧ ls[k] < ps.length := by
                obtain ⟨x, hx, e⟩ := List.mem_map.1 hmem
                have := List.all_eq_true.1 HMC.out _ hx
                simp at this
                omega
              obtain ⟨q, hq⟩ : ∃ q : Nat, ls[k] = q := ⟨ls[k].toNat, by omega⟩
              have hqn : q < 256 := by have := HNP.out; omega
              have cx := (Below.cell HGU.out (p := ⟨gl, ol + k, none⟩) hgll).trans (hlx k _ e1)
              rw [hq] at cx
              have tc := (HRT3.out.cell q).trans (VdM.thA_get _ q hqn)
              rw [show (cs.map (·.1)).contains (q : Int) = true from by rw [List.contains_iff_mem, ← hq]; exact hmem] at tc
              have hq256 : (q : Int) < 256 := by omega
              have d0 : decide ((q : Int) < 0) = false := decide_eq_false (by omega)
              have d1 : decide (256 ≤ (q : Int)) = false := decide_eq_false (by omega)
              by_cases hk0 : k = 0
              · subst hk0
                rw [Nat.add_zero] at cx
                have d2 : decide ((0 : Int) < ((0 : Nat) : Int)) = false := decide_eq_false (by omega)
                clear hlx e1 hmem hxr hq
                go_wp2
                go_quiet (fail)
                go_wp2
                go_roundw
                case rel => exact ⟨0 + 1, by omega, by go_num, below_drewN' HG2.out _⟩
                case measure => simp [intOf]; omega
              · have e2 : ls[k - 1]? = some (ls[k - 1]'(by omega)) := List.getElem?_eq_getElem (by omega)
                have cy := (Below.cell HGU.out (p := ⟨gl, ol + (k - 1), none⟩) hgll).trans (hlx (k - 1) _ e2)
                have hyx := List.pairwise_iff_getElem.1 HASC.out (k - 1) k (by omega) hlt3 (by omega)
                rw [hq] at hyx
                generalize ls[k - 1]'(by omega) = y at *
                have d2 : decide ((0 : Int) < (k : Int)) = true := decide_eq_true (by omega)
                have d2n : decide (0 < k) = true := decide_eq_true (by omega)
                have d3 : decide ((q : Int) ≤ y) = false := decide_eq_false (by omega)
                have hw1 : IntKind.i64.wrap ((k : Int) - 1) = (k : Int) - 1 := IntWalk.i64_in _ (by have := HLS.out; omega)
                have hk1 : (0 : Int) < k := by omega
                have hn1 : ((k : Int) - 1).toNat = k - 1 := by omega
                have hn2 : (0 : Int) ≤ (k : Int) - 1 := by omega
                have hn3 : (k : Int) - 1 < ls.length := by omega
                clear hlx e1 hmem hxr hq e2
                go_wp2
                go_quiet (fail)
                go_wp2
                go_roundw
                case rel => exact ⟨k + 1, by omega, by go_num, below_drewN' HG2.out _⟩
                case measure => simp [intOf]; omega
            · obtain rfl : k = ls.length := by omega
              have L90 := Lib.hid (LK3.out.push HRT3.out)
              have hlw : IntKind.i64.wrap ((ls.length : Int) + 1) = (ls.length : Int) + 1 := IntWalk.i64_in _ (by have := HLS.out; omega)
              have hlw0 : IntKind.i64.wrap ((ls.length : Int) + 0) = (ls.length : Int) := by rw [Int.add_zero]; exact IntWalk.i64_in _ (by have := HLS.out; omega)
              have tcc : Hid ((VdM.thA (cs.map (·.1)))[k0]? = some (.bool ((cs.map (·.1)).contains (k0 : Int)))) := VdM.thA_get _ k0 hk256
              obtain ⟨t, ht⟩ : ∃ t, t = (cs.map (·.1)).contains (k0 : Int) := ⟨_, rfl⟩
              rw [← ht] at tcc HW1
              clear ht
              cases t
              all_goals
                simp only [Bool.false_eq_true, if_false, if_true, Nat.add_zero] at HW1
                go_wp2_with (first
                  | ((with_reducible refine wpList_load_dk (o := ⟨some 110, _, _, _, _, _⟩) ?_ (.tmp 3) ?_ w.heap.size D ?_ ?_ ?_ ?_); exact rfl; exact rfl; exact rfl; exact L90.out.row 0 _ rfl; exact Ds.out.1)
                  | ((with_reducible refine wpList_load_pgrow (o := ⟨some 112, _, _, _, _, _⟩) ?_ (.tmp 5) ?_ (w.heap.size + 1) p ?_ ?_ ?_ ?_); exact rfl; exact rfl; exact rfl; exact HPl.out; exact L90.out.row 1 _ rfl)
                  | (go_at_call 22; (with_reducible refine (W1.out _ _ (L90.out.disk 0 rfl HV.out)).mono ?_); rintro e u91 ⟨r, rfl, hr, g⟩; obtain ⟨pvA, cvA, bvA, rfl, oa1, oa2, oa3⟩ := hr; rw [HO1.out]; have hoa : OwnDisk wr.heap.size u91 (.agg #[pvA, cvA, bvA, .bool false]) d1 := ⟨_, _, _, by rw [HO1.out], oa1, oa2, oa3⟩; have H4A := Lib.hid (dk_one hoa.disk); clear oa1 oa2 oa3; have Z91 := Lib.hid (Below.size g); have L91 := Lib.hid (L90.out.grows g); have OA_91 := Lib.hid hoa; clear g)
                  | ((with_reducible refine wpList_store_dk ?_ (.tmp 13) (.tmp 114) ?_ u91.heap.size #[pvA, cvA, bvA, .bool false] #[.slice none 0 0, .slice none 0 0, .slice none 0 0, .bool false] ?_ ?_ ?_ ?_ ?_ ?_ ?_); exact rfl; exact rfl; exact rfl; exact rfl; exact H4A.out.1; exact rfl; exact H4A.out.2; exact Row.new u91 _ _; intro u92 hp hg; have g := grown_fresh rfl hg; have Z92 := Lib.hid (Row.lt hp); have L92 := Lib.hid (L91.out.grows g); have OA_92 := Lib.hid (OA_91.out.grows g); have L93 := Lib.hid (L92.out.push hp); have OA_93 := OA_92; clear hp hg g)
                  | ((with_reducible refine wpList_load_dk (o := ⟨some 116, _, _, _, _, _⟩) ?_ (.tmp 13) ?_ u91.heap.size #[pvA, cvA, bvA, .bool false] ?_ ?_ ?_ ?_); exact rfl; exact rfl; exact rfl; exact L93.out.row 3 _ rfl; exact rfl)
                  | (go_at_call 20; (with_reducible refine (WT1.out _ _ OA_93.out.disk).mono ?_); rintro e u93 ⟨r, rfl, hr, g⟩; obtain ⟨AM, cM, rfl, _⟩ := hr.els.form; rw [HW1.out]; have Z93 := Lib.hid (Below.size g); have L94 := Lib.hid (L93.out.grows g); have OA_94 := Lib.hid (OA_93.out.grows g); have tce := (L94.out.cell 2 rfl k0).trans tcc.out; clear g)
                  | (go_at_call 9; (with_reducible refine (wakes_any _).mono ?_); rintro e u94 ⟨rfl, g⟩; have Z94 := Lib.hid (Below.size g); have L95 := Lib.hid (L94.out.grows g); have OA_95 := Lib.hid (OA_94.out.grows g); clear g))
                go_ret
                exact ⟨rfl, L95.out.below 0 w rfl⟩
end Go.Proofs.Ytfcghkmhcfgfkaa
