/- VdFlush -/
import Derived.Test.YtiagmlokocpboaaVdLaws
import Derived.Test.YtiagmlokocpboaaVdvFlush
import Derived.Test.YtiagmlokocpboaaVdevOffAny
import Derived.Test.YtiagmlokocpboaaCellSt
/- The document's Flush: write by write, in order. -/
namespace Go.Proofs.Ytiagmlokocpboaa
open Go.RowKit
set_option linter.unusedVariables false
set_option linter.unusedSimpArgs false
namespace VdM
def fwP (ps : List Pg) (cs : List (Int × Pg)) (k : Nat) : List Pg := (cs.take k).foldl (fun ps x => ps.set x.1.toNat x.2) ps
def fwB (bs : List Int) (cs : List (Int × Pg)) (k : Nat) : List Int := (cs.take k).foldl (fun bs x => bs.filter fun b => !(b == x.1)) bs
theorem fwP_succ (ps : List Pg) (cs : List (Int × Pg)) (k : Nat) (x : Int × Pg) (h : cs[k]? = some x) : fwP ps cs (k + 1) = (fwP ps cs k).set x.1.toNat x.2 := by
  unfold fwP; rw [List.take_add_one, h]; simp
theorem fwB_succ (bs : List Int) (cs : List (Int × Pg)) (k : Nat) (x : Int × Pg) (h : cs[k]? = some x) : fwB bs cs (k + 1) = (fwB bs cs k).filter fun b => !(b == x.1) := by
  unfold fwB; rw [List.take_add_one, h]; simp
theorem fwP_length (ps : List Pg) (cs : List (Int × Pg)) : ∀ k, k ≤ cs.length → (fwP ps cs k).length = ps.length
  | 0, _ => rfl
  | k + 1, h => by rw [fwP_succ ps cs k _ (List.getElem?_eq_getElem (by omega)), List.length_set, fwP_length ps cs k (by omega)]
theorem fwB_length (bs : List Int) (cs : List (Int × Pg)) : ∀ k, k ≤ cs.length → (fwB bs cs k).length ≤ bs.length
  | 0, _ => Nat.le_refl _
  | k + 1, h => by
    rw [fwB_succ bs cs k _ (List.getElem?_eq_getElem (by omega))]
    exact Nat.le_trans (List.length_filter_le _ _) (fwB_length bs cs k (by omega))
theorem lastW_snoc (c : List (Int × Pg)) (x : Int × Pg) (n : Int) : lastW (c ++ [x]) n = if x.1 == n then some x.2 else lastW c n := by
  unfold lastW
  rw [List.reverse_append, List.reverse_singleton, List.singleton_append, List.find?_cons]
  cases x.1 == n <;> rfl
theorem fwP_last (ps : List Pg) (cs : List (Int × Pg)) (h : ∀ x ∈ cs, 0 ≤ x.1) : ∀ k, k ≤ cs.length → fwP ps cs k = ps.mapIdx fun i p => (lastW (cs.take k) i).getD p
  | 0, _ => by
    apply List.ext_getElem?
    intro i
    rw [List.getElem?_mapIdx]
    unfold fwP
    simp [lastW]
  | k + 1, hk => by
    have e := List.getElem?_eq_getElem (show k < cs.length by omega)
    have hx := h _ (List.getElem_mem (show k < cs.length by omega))
    rw [fwP_succ ps cs k _ e, fwP_last ps cs h k (by omega), List.take_add_one, e]
    generalize cs[k] = x at *
    obtain ⟨q, hq⟩ : ∃ q : Nat, x.1 = q := ⟨x.1.toNat, by omega⟩
    apply List.ext_getElem?
    intro i
    rw [List.getElem?_set, List.getElem?_mapIdx, List.getElem?_mapIdx, List.length_mapIdx]
    simp only [Option.toList_some, lastW_snoc, hq, Int.toNat_natCast]
    by_cases hi : q = i
    · subst hi
      rw [if_pos rfl]
      by_cases hl : q < ps.length
      · rw [if_pos hl, List.getElem?_eq_getElem hl]; simp
      · rw [if_neg hl, List.getElem?_eq_none (by omega)]; rfl
    · rw [if_neg hi]
      have : ((q : Int) == (i : Int)) = false := by simp; omega
      simp only [this]
      rfl
theorem fwB_last (bs : List Int) (cs : List (Int × Pg)) : ∀ k, k ≤ cs.length → fwB bs cs k = bs.filter fun b => (lastW (cs.take k) b).isNone
  | 0, _ => by unfold fwB; simp [lastW]; exact (List.filter_eq_self.2 (fun _ _ => rfl)).symm
  | k + 1, hk => by
    have e := List.getElem?_eq_getElem (show k < cs.length by omega)
    rw [fwB_succ bs cs k _ e, fwB_last bs cs k (by omega), List.take_add_one, e, List.filter_filter]
    generalize cs[k] = x at *
    congr 1
    funext b
    simp only [Option.toList_some, lastW_snoc]
    by_cases hb : x.1 = b
    · subst hb; simp
    · have h1 : (x.1 == b) = false := by simpa using hb
      have h2 : (b == x.1) = false := by simpa using fun h : b = x.1 => hb h.symm
      rw [h1, h2]; simp
theorem fwP_all (d : Dk) (h : ∀ x ∈ d.cache, 0 ≤ x.1) : fwP d.pages d.cache d.cache.length = flushP d := by
  rw [fwP_last _ _ h _ (Nat.le_refl _), List.take_length]; rfl
theorem fwB_all (d : Dk) : fwB d.bad d.cache d.cache.length = flushB d := by
  rw [fwB_last _ _ _ (Nat.le_refl _), List.take_length]; rfl
end VdM
theorem wr_info : (Try.prog.info? 42).map (·.size) = some 257 := by kernel_rfl
theorem wrA_one (x : Int × Pg) : (wrA x).all (·.oneCell') = true := all_oneCell_toArray (writeE_one x)
section
variable {w : World} {ops : Array Oper} {rest : List Oper} {o : Oper} {a : Act} {Q : Exit → Act → World → Prop}
theorem wpList_store_wrrow (hgd : o.guard = none) (x y : Operand) (ho : o.op = .store 42 x y) (g : Nat) (p old : Int × Pg) (hx : a.eval x = .pointer (some ⟨g, 0, none⟩)) (hy : a.eval y = .agg (wrA p)) (hl : p.2.length = 256) (ho2 : old.2.length = 256) (hr : Row w g 42 (wrA old))
    (h : ∀ w', Row w' g 42 (wrA p) → w.grownBy w' (some g) → wpList Try.prog ops Q rest (a.put o.dst undef) w') : wpList Try.prog ops Q (o :: rest) a w :=
  wpList_store_row hgd 42 x y ho g (wrA p) hx hy 42 (wrA old) hr (by rw [wrA_size, hl]; exact wr_info) (by rw [wrA_size, wrA_size, hl, ho2]) (wrA_one p)
    (h _ (hr.setRow _) (setRow_grown _ _ _))
end
theorem wr_page_at {w : World} {g : Nat} {x : Int × Pg} (hr : Row w g 42 (wrA x)) : w.rangeAt g 1 (pageE x.2) := fun j v hv => by
  rw [hr.cell]
  unfold wrA writeE
  rw [show 1 + j = j + 1 from by omega]
  simpa [pageE] using hv
theorem wr_place_at {w : World} {g : Nat} {x : Int × Pg} (hr : Row w g 42 (wrA x)) : w.cell? ⟨g, 0, none⟩ = some (.int .i64 x.1) := by
  rw [hr.cell]; rfl
/-- What the rounds over the cache keep. -/
def InvRF (w : World) (t4 G cap : Nat) (cv : Value) (D : Array Value) (ps : List Pg) (cs : List (Int × Pg)) (bs : List Int) (k : Nat) (W : World) : Prop :=
  ∃ bv, Own' 40 256 pageE w.heap.size W (.slice (some ⟨G, 0, none⟩) ps.length cap) (VdM.fwP ps cs k) ∧ Own' 3 1 intE w.heap.size W bv (VdM.fwB bs cs k) ∧
  Row W t4 26 #[.slice (some ⟨G, 0, none⟩) ps.length cap, cv, bv, .bool false] ∧ Row W w.heap.size 26 D ∧ Row W (w.heap.size + 1) 26 noDk ∧ Grows w W
set_option maxRecDepth 20000 in
set_option maxHeartbeats 8000000 in
theorem rflush_any (v : Value) (d : Dk) (w : World) (hv : IsDisk w.heap.size w v d) (l1 : d.pages.length ≤ 1000000) (l2 : d.cache.length ≤ 900000) (l3 : d.bad.length ≤ 900000) :
    Calls Try.prog 21 #[v] w fun e w' => ∃ r, e = .returned (.tuple #[r, .int .i64 (VdM.atE d 0)]) ∧ OwnDisk w.heap.size w' r (VdM.flushD d) ∧ Grows w w' := by
  have HV := Lib.hid hv
  have hzw := zero_wr
  have CP := Lib.hid (fun W (v : Value) (h : IsDisk (World.heap W).size W v d) => rcopy_any v d W h l1 (by omega) (by omega))
  have AT := Lib.hid (fun W (v : Value) (h : IsDisk (World.heap W).size W v d) => rat_any v d 0 W h)
  obtain ⟨pv, cv, bv, rfl, hp, hc, hb⟩ := hv
  obtain ⟨C, cup, rfl, r1, r2, r3⟩ := hc.form
  have HR := Lib.hid r3; have HCl := Lib.hid hc.1
  clear r3 hp hc hb
  unfold maxLen at r2
  obtain ⟨D, hD⟩ : ∃ D, D = #[pv, .slice C d.cache.length cup, bv, .bool d.off] := ⟨_, rfl⟩
  have Ds : Hid (D.size = 4 ∧ D[1]? = some (.slice C d.cache.length cup)) := by subst hD; exact ⟨rfl, rfl⟩
  rw [← hD] at HV ⊢
  clear hD
  have L0 : Hid (Live [(w.heap.size, 26, D), (w.heap.size + 1, 26, #[.slice none 0 0, .slice none 0 0, .slice none 0 0, .bool false])] [w] ((w.alloc (.cells D 26)).alloc (.cells #[.slice none 0 0, .slice none 0 0, .slice none 0 0, .bool false] 26))) := by
    have h0 : Live [] [w] w := ⟨fun i r h => by simp at h, fun i c h => by
      cases i with
      | zero => cases h; exact Below.refl _ _
      | succ i => simp at h⟩
    have h1 := (h0.grows (Grows.alloc w (.cells D 26))).push (Row.new w 26 D)
    have h2 := (h1.grows (Grows.alloc _ (.cells #[.slice none 0 0, .slice none 0 0, .slice none 0 0, .bool false] 26))).push (Row.new _ 26 #[.slice none 0 0, .slice none 0 0, .slice none 0 0, .bool false])
    rw [World.size_alloc] at h2
    exact h2
  have HFD : Hid (VdM.flushD d = if VdM.atE d 0 = 0 then ⟨VdM.flushP d, [], VdM.flushB d, false⟩ else d) := rfl
  by_cases hE : VdM.atE d 0 = 0
  case neg =>
    have hDD := HFD.out.trans (if_neg hE)
    rw [hDD]
    have hEi : ¬ (VdM.atE d 0 = 0) := hE
    clear HFD hDD
    generalize VdM.atE d 0 = ee at *
    go_enter Try.func21, Try.ntmps21
    go_wp2_with (first
      | ((with_reducible refine wpList_load_dk (o := ⟨some 10, _, _, _, _, _⟩) ?_ (.tmp 1) ?_ w.heap.size D ?_ ?_ ?_ ?_); exact rfl; exact rfl; exact rfl; exact L0.out.row 0 _ rfl; exact Ds.out.1)
      | (go_at_call 35; (with_reducible refine (CP.out _ _ (L0.out.disk 0 rfl HV.out)).mono ?_); rintro e u1 ⟨r, rfl, hr, g⟩; obtain ⟨pvC, cvC, bvC, rfl, oc1, oc2, oc3⟩ := hr; have hoc : OwnDisk w.heap.size u1 (.agg #[pvC, cvC, bvC, .bool d.off]) d := (OwnDisk.more ⟨_, _, _, rfl, oc1, oc2, oc3⟩ (by simp; omega)); have H4C := Lib.hid (dk_one hoc.disk); clear oc1 oc2 oc3; have Z1 : Hid (w.heap.size + 2 ≤ u1.heap.size) := (by have := Below.size g; simp at this; unfold Hid; omega); have L1 := Lib.hid (L0.out.grows g); have OC_1 := Lib.hid hoc; clear g)
      | ((with_reducible refine wpList_store_dk ?_ (.tmp 4) (.tmp 11) ?_ u1.heap.size #[pvC, cvC, bvC, .bool d.off] #[.slice none 0 0, .slice none 0 0, .slice none 0 0, .bool false] ?_ ?_ ?_ ?_ ?_ ?_ ?_); exact rfl; exact rfl; exact rfl; exact rfl; exact H4C.out.1; exact rfl; exact H4C.out.2; exact Row.new u1 _ _; intro u2 hp hg; have g := grown_fresh rfl hg; have Z2 := Lib.hid (Row.lt hp); have L2 := Lib.hid (L1.out.grows g); have OC_2 := Lib.hid (OC_1.out.grows g); have L3 := Lib.hid (L2.out.push hp); have OC_3 := OC_2; clear hp hg g)
      | ((with_reducible refine wpList_load_dk (o := ⟨some 12, _, _, _, _, _⟩) ?_ (.tmp 1) ?_ w.heap.size D ?_ ?_ ?_ ?_); exact rfl; exact rfl; exact rfl; exact L3.out.row 0 _ rfl; exact Ds.out.1)
      | (go_at_call 36; (with_reducible refine (AT.out _ _ (L3.out.disk 0 rfl HV.out)).mono ?_); rintro e u3 ⟨rfl, g⟩; have Z3 := Lib.hid (Below.size g); have L4 := Lib.hid (L3.out.grows g); have OC_4 := Lib.hid (OC_3.out.grows g); clear g)
      | ((with_reducible refine wpList_load_dk (o := ⟨some 16, _, _, _, _, _⟩) ?_ (.tmp 4) ?_ u1.heap.size #[pvC, cvC, bvC, .bool d.off] ?_ ?_ ?_ ?_); exact rfl; exact rfl; exact rfl; exact L4.out.row 2 _ rfl; exact rfl)
      | ((with_reducible refine wpList_store_dk ?_ (.tmp 2) (.tmp 16) ?_ (w.heap.size + 1) #[pvC, cvC, bvC, .bool d.off] #[.slice none 0 0, .slice none 0 0, .slice none 0 0, .bool false] ?_ ?_ ?_ ?_ ?_ ?_ ?_); exact rfl; exact rfl; exact rfl; exact rfl; exact H4C.out.1; exact rfl; exact H4C.out.2; exact L4.out.row 1 _ rfl; intro w6 hw6 hg6))
    refine bodyPost_ret (results_dk_two (p := 2) (q := 3) (by exact rfl) _ (.int .i64 ee) (by exact rfl) (by exact rfl) (by exact H4C.out.1) hw6) rfl ?_
    exact ⟨_, rfl, OC_4.out.beside hg6 (L4.out.row 1 _ rfl), (L4.out.below 0 w rfl).grown hg6 (L4.out.below 0 w rfl).size (fun k e => by cases e; omega)⟩
  have hDD := HFD.out.trans (if_pos hE)
  have hat : VdM.may d = true ∧ d.off = false := by
    unfold VdM.atE at hE
    split at hE
    · rename_i h
      refine ⟨h.1, ?_⟩
      cases ho : d.off
      · rfl
      · rw [ho] at hE; simp at hE
    · simp at hE
  have hmp := VdM.may_parts hat.1
  rw [hDD, hE]
  rw [hE] at AT
  rw [← VdM.fwP_all d (fun x hx => by have := List.all_eq_true.1 hmp.2.2.2.2.1 x hx; simp at this; omega), ← VdM.fwB_all d]
  have HMP := Lib.hid hmp
  have HOF := Lib.hid hat.2
  clear hE hDD HFD hat hmp
  go_enter Try.func21, Try.ntmps21
  go_wp2_with (first
    | ((with_reducible refine wpList_load_dk (o := ⟨some 10, _, _, _, _, _⟩) ?_ (.tmp 1) ?_ w.heap.size D ?_ ?_ ?_ ?_); exact rfl; exact rfl; exact rfl; exact L0.out.row 0 _ rfl; exact Ds.out.1)
    | (go_at_call 35; (with_reducible refine (CP.out _ _ (L0.out.disk 0 rfl HV.out)).mono ?_); rintro e u1 ⟨r, rfl, hr, g⟩; obtain ⟨pvC, cvC, bvC, rfl, oc1, oc2, oc3⟩ := hr; have hoc : OwnDisk w.heap.size u1 (.agg #[pvC, cvC, bvC, .bool d.off]) d := (OwnDisk.more ⟨_, _, _, rfl, oc1, oc2, oc3⟩ (by simp; omega)); have H4C := Lib.hid (dk_one hoc.disk); clear oc1 oc2 oc3; have Z1 : Hid (w.heap.size + 2 ≤ u1.heap.size) := (by have := Below.size g; simp at this; unfold Hid; omega); have L1 := Lib.hid (L0.out.grows g); have OC_1 := Lib.hid hoc; clear g)
    | ((with_reducible refine wpList_store_dk ?_ (.tmp 4) (.tmp 11) ?_ u1.heap.size #[pvC, cvC, bvC, .bool d.off] #[.slice none 0 0, .slice none 0 0, .slice none 0 0, .bool false] ?_ ?_ ?_ ?_ ?_ ?_ ?_); exact rfl; exact rfl; exact rfl; exact rfl; exact H4C.out.1; exact rfl; exact H4C.out.2; exact Row.new u1 _ _; intro u2 hp hg; have g := grown_fresh rfl hg; have Z2 := Lib.hid (Row.lt hp); have L2 := Lib.hid (L1.out.grows g); have OC_2 := Lib.hid (OC_1.out.grows g); have L3 := Lib.hid (L2.out.push hp); have OC_3 := OC_2; clear hp hg g)
    | ((with_reducible refine wpList_load_dk (o := ⟨some 12, _, _, _, _, _⟩) ?_ (.tmp 1) ?_ w.heap.size D ?_ ?_ ?_ ?_); exact rfl; exact rfl; exact rfl; exact L3.out.row 0 _ rfl; exact Ds.out.1)
    | (go_at_call 36; (with_reducible refine (AT.out _ _ (L3.out.disk 0 rfl HV.out)).mono ?_); rintro e u3 ⟨rfl, g⟩; have Z3 := Lib.hid (Below.size g); have L4 := Lib.hid (L3.out.grows g); have OC_4 := Lib.hid (OC_3.out.grows g); clear g))
  have HI : Hid (∃ G cap, pvC = .slice (some ⟨G, 0, none⟩) d.pages.length cap ∧ d.pages.length ≤ cap ∧ cap ≤ maxLen ∧ InvRF w u1.heap.size G cap cvC D d.pages d.cache d.bad 0 u3) := by
    have hr0 := L4.out.row 2 _ rfl
    obtain ⟨y1, y2, y3, y4, y5, y6, y7⟩ := OC_4.out
    simp only [Value.agg.injEq, Array.mk.injEq, List.cons.injEq, and_true] at y4
    obtain ⟨e1, e2, e3⟩ := y4
    rw [← e1] at y5
    rw [← e3] at y7
    have y8 := y5
    rcases y5.2.2 with ⟨_, h0⟩ | ⟨g, cp, cur, e, _, _, c1, c2, _⟩
    · have := HMP.out.1; omega
    · refine ⟨g, cp, e, c1, c2, bvC, ?_, y7, ?_, L4.out.row 0 _ rfl, L4.out.row 1 _ rfl, L4.out.below 0 w rfl⟩
      · rw [← e]; exact y8
      · rw [← e]; have := hr0; rw [HOF.out] at this; exact this
  have H4 : Hid (w.heap.size + 1 < u1.heap.size) := by have := Z1.out; unfold Hid; omega
  obtain ⟨G, cap, rfl, cap1, cap2, HI⟩ := HI.out
  have HI := Lib.hid HI
  unfold maxLen at cap2
  generalize u1.heap.size = t4 at *
  have HPN := HMP.out.1
  clear OC_1 OC_2 OC_3 OC_4 H4C
  go_loopw [6] (fun i wr => ∃ k : Nat, k ≤ d.cache.length ∧ i = .int .i64 k ∧ InvRF w t4 G cap cvC D d.pages d.cache d.bad k wr) (fun i _ => d.cache.length - (intOf i).toNat)
  case atStart => exact ⟨0, Nat.zero_le _, rfl, HI.out⟩
  case round =>
    obtain ⟨k, hk, rfl, bvK, hop, hob, h4, h0, h1, hg⟩ := hrel
    have a1 := (h0.cell 1).trans Ds.out.2
    have HOP := Lib.hid hop; have HOB := Lib.hid hob; have HR4 := Lib.hid h4; have HR0 := Lib.hid h0; have HR1 := Lib.hid h1; have HG := Lib.hid hg
    clear hop hob h4 h0 h1 hg HI
    by_cases hlt : k < d.cache.length
    · have hki : (k : Int) < d.cache.length := by omega
      obtain ⟨g, o, rfl, hgl, hcA⟩ := HR.out (by omega)
      have e1 : d.cache[k]? = some d.cache[k] := List.getElem?_eq_getElem hlt
      have HY := Lib.hid (rangeAt_keep (hcA k _ e1) (fun a ha => Below.cell HG.out (by omega)))
      have z1 : Hid (d.cache[k].2.length = 256) := by have := HCl.out _ (List.mem_of_getElem? e1); rw [writeE_len] at this; exact Nat.succ.inj this
      have hxr : 0 ≤ d.cache[k].1 ∧ d.cache[k].1 < d.pages.length := by
        have := List.all_eq_true.1 HMP.out.2.2.2.2.1 _ (List.getElem_mem hlt)
        simp at this
        omega
      have HSP := Lib.hid (VdM.fwP_succ d.pages d.cache k _ e1)
      have HSB := Lib.hid (VdM.fwB_succ d.bad d.cache k _ e1)
      have HLP := Lib.hid (VdM.fwP_length d.pages d.cache k hk)
      have HL4.out := Lib.hid (VdM.fwB_length d.bad d.cache k hk)
      clear e1 hcA
      generalize d.cache[k] = x at *
      obtain ⟨q, hq⟩ : ∃ q : Nat, x.1 = q := ⟨x.1.toNat, by omega⟩
      rw [hq, Int.toNat_natCast] at HSP
      rw [hq] at HSB
      have hqn : q < d.pages.length := by omega
      have hqi : (q : Int) < d.pages.length := by omega
      clear hxr
      obtain ⟨A2, cap2', rfl, s1, s2, s3⟩ := HOB.out.els.ints
      have HS := Lib.hid s3
      unfold maxLen at s2
      clear s3
      generalize hL : VdM.fwB d.bad d.cache k = L at *
      generalize hPs : VdM.fwP d.pages d.cache k = Ps at *
      clear hL hPs
      go_wp2_with (first
        | ((with_reducible refine wpList_load_wr (op := ⟨some 29, _, _, _, _, _⟩) ?_ (.tmp 28) ?_ g (o + k * 257) x ?_ ?_ ?_ ?_); exact rfl; exact rfl; exact rfl; exact z1.out; exact HY.out)
        | ((with_reducible refine wpList_store_wrrow ?_ (.tmp 7) (.tmp 29) ?_ wr.heap.size x (0, VdM.blank) ?_ ?_ ?_ ?_ ?_ ?_); exact rfl; exact rfl; exact rfl; exact rfl; exact z1.out; exact blank_len; exact Row.new wr _ _; intro u7 hp7 hg7; have g7 := grown_fresh rfl hg7; have R7 := Lib.hid hp7; have G7 := Lib.hid g7; have P7 := Lib.hid (HOP.out.grows g7); have S4 := Lib.hid (HR4.out.grows g7); have S0 := Lib.hid (HR0.out.grows g7); have S1 := Lib.hid (HR1.out.grows g7); have B7 := Lib.hid (HOB.out.grows g7); have x0 := (wr_place_at hp7).trans (by rw [hq]); have x1 := (HR4.out.grows g7).cell 0; have HSP7 := Lib.hid (Own'.store_page (l := Ps) (by rw [HLP.out]; exact HOP.out.grows g7) q x.2 (by rw [HLP.out]; exact hqn) z1.out); clear hp7 hg7 g7)
        | ((with_reducible refine wpList_load_pg (op := ⟨some 35, _, _, _, _, _⟩) ?_ (.tmp 34) ?_ wr.heap.size 1 x.2 ?_ ?_ ?_ ?_); exact rfl; exact rfl; exact rfl; exact z1.out; exact wr_page_at R7.out)
        | ((with_reducible refine wpList_store_pg ?_ (.tmp 36) (.tmp 35) ?_ G (q * 256) x.2 ?_ ?_ ?_ ?_ ?_); exact rfl; exact rfl; exact rfl; exact rfl; exact z1.out; exact HSP7.out.2; have hgr := setCells_grown (g := G) (pageE x.2) (q * 256) u7; have PS := Lib.hid HSP7.out.1; have BS := Lib.hid (own_other B7.out P7.out (by decide) hgr); have T4 := Lib.hid (row_other P7.out S4.out (by decide) hgr); have T0 := Lib.hid (row_other P7.out S0.out (by decide) hgr); have T1 := Lib.hid (row_other P7.out S1.out (by decide) hgr); have T7 := Lib.hid (row_other P7.out R7.out (by decide) hgr); have GS := Lib.hid ((HG.out.trans G7.out).grown hgr (Below.size (HG.out.trans G7.out)) (fun k e => (own_lt P7.out k e).1)); clear hgr))
      clear x0 x1 a1 R7 P7 S4 S0 S1 B7 HSP7 G7
      generalize u7.setCells G (q * 256) (pageE x.2) = wS at *
      have HSx : Hid (0 < L.length → ∃ b o, A2 = some ⟨b, o, none⟩ ∧ b < wS.heap.size ∧ ∀ j x, L[j]? = some x → wS.cell? ⟨b, o + j, none⟩ = some (.int .i64 x)) := by
        obtain ⟨A3, c3, e, _, _, h3⟩ := BS.out.els.ints
        injection e with e _ _
        subst e
        exact h3
      clear HS
      have HGwS := Lib.hid GS.out.size
      go_loopw [8, 9] (fun b i wr => ∃ j : Nat, j ≤ L.length ∧ i = .int .i64 j ∧ Own' 3 1 intE wS.heap.size wr b ((L.take j).filter fun y => !(y == (q : Int))) ∧ Grows wS wr) (fun _ i _ => L.length - (intOf i).toNat)
      case atStart => exact ⟨0, Nat.zero_le _, rfl, Own'.nil _ _ _ _ _, Grows.refl _⟩
      case round =>
        obtain ⟨j, hj, rfl, hob, hgi⟩ := hrel
        have a2 := (T4.out.grows hgi).cell 2
        have HOb := Lib.hid hob; have HGI := Lib.hid hgi
        clear hob
        by_cases hjl : j < L.length
        · have hji : (j : Int) < L.length := by omega
          obtain ⟨gb, ob, rfl, hgb, hcx⟩ := HSx.out (by omega)
          have e1 : L[j]? = some L[j] := List.getElem?_eq_getElem hjl
          have y0 := (Below.cell hgi (p := ⟨gb, ob + j, none⟩) hgb).trans (hcx j _ e1)
          have p0 := (wr_place_at (T7.out.grows hgi)).trans (by rw [hq])
          have E1 := Lib.hid e1
          clear e1 hcx hgi
          generalize L[j] = y at *
          have HT : Hid ((L.take (j + 1)).filter (fun y => !(y == (q : Int))) = (L.take j).filter (fun y => !(y == (q : Int))) ++ (if y = q then [] else [y])) := by
            unfold Hid
            rw [List.take_add_one, E1.out, List.filter_append]
            congr 1
            by_cases h : y = q
            · rw [if_pos h, h]; simp
            · rw [if_neg h]; simp [h]
          have HLk : Hid (((L.take j).filter fun y => !(y == (q : Int))).length ≤ L.length) := Nat.le_trans (List.length_filter_le _ _) (by rw [List.length_take]; omega)
          generalize hLf : (L.take j).filter (fun y => !(y == (q : Int))) = Lf at *
          clear hLf
          by_cases hyq : y = q
          · have bb : (y != (q : Int)) = false := by simpa using hyq
            rw [if_pos hyq, List.append_nil] at HT
            go_wp2
            refine wp_region_free 8 64 (by kernel_rfl) (by kernel_rfl) rfl (by kernel_rfl) ?_; simp only [List.take_succ_cons, List.take_zero, List.drop_succ_cons, List.drop_zero]
            repeat (apply free_pure rfl; focus (intro vs w hg hd; have q0 := hg.cell a2; have q1 := hg.cell y0; have q2 := hg.cell p0; (try simp [Region.binds] at hd); simp only [execOp, resolve, Option.map_some, Option.map_none, List.map_toArray, List.map_cons, List.map_nil, rho_const, rho_func]; (repeat (conv in rho _ _ _ _ (Operand.tmp _) => whnf)); (try simp only [hd]); go_simp; (repeat (conv in rho _ _ _ _ (Operand.tmp _) => whnf)); (try simp only [hd]); rfl))
            intro vs w' hg hv; have h7 := hv 7 (by omega); simp at h7; simp only [putL, dstAt, List.range, List.range.loop, if_true, List.getElem?_toArray, List.getElem?_cons_zero, List.getElem?_cons_succ, Option.bind_some, Act.put, List.setIfInBounds_toArray, List.set_cons_zero, List.set_cons_succ]
            rw [h7]
            have HGJ := Lib.hid (HGI.out.trans (Grows.of_drew hg))
            have HOJ := Lib.hid (HOb.out.grows (Grows.of_drew hg))
            clear hv h7 hg a2 y0 p0
            generalize vs 0 = z0, vs 1 = z1, vs 2 = z2, vs 3 = z3, vs 4 = z4, vs 5 = z5, vs 6 = z6, vs 7 = z7 at *
            go_wp2
            go_roundw
            case rel => exact ⟨j + 1, by omega, by go_num, by rw [HT.out]; exact HOJ.out, HGJ.out⟩
            case measure => simp [intOf]; omega
          · have bb : (y != (q : Int)) = true := by simpa using hyq
            rw [if_neg hyq] at HT
            go_wp2
            refine wp_region_free 8 64 (by kernel_rfl) (by kernel_rfl) rfl (by kernel_rfl) ?_; simp only [List.take_succ_cons, List.take_zero, List.drop_succ_cons, List.drop_zero]
            repeat (apply free_pure rfl; focus (intro vs w hg hd; have q0 := hg.cell a2; have q1 := hg.cell y0; have q2 := hg.cell p0; (try simp [Region.binds] at hd); simp only [execOp, resolve, Option.map_some, Option.map_none, List.map_toArray, List.map_cons, List.map_nil, rho_const, rho_func]; (repeat (conv in rho _ _ _ _ (Operand.tmp _) => whnf)); (try simp only [hd]); go_simp; (repeat (conv in rho _ _ _ _ (Operand.tmp _) => whnf)); (try simp only [hd]); rfl))
            intro vs w' hg hv; have h7 := hv 7 (by omega); simp at h7; simp only [putL, dstAt, List.range, List.range.loop, if_true, List.getElem?_toArray, List.getElem?_cons_zero, List.getElem?_cons_succ, Option.bind_some, Act.put, List.setIfInBounds_toArray, List.set_cons_zero, List.set_cons_succ]
            rw [h7]
            have HGJ := Lib.hid (HGI.out.trans (Grows.of_drew hg))
            have HOJ := Lib.hid (HOb.out.grows (Grows.of_drew hg))
            have a2 := (Grows.of_drew hg).cell a2
            have y0 := (Grows.of_drew hg).cell y0
            clear hv h7 hg p0
            generalize vs 0 = z0, vs 1 = z1, vs 2 = z2, vs 3 = z3, vs 4 = z4, vs 5 = z5, vs 6 = z6, vs 7 = z7 at *
            go_wp2_with (first
              | ((with_reducible refine wpList_append_els elT_int intE_one ?_ (.tmp 52) (.tmp 58) ?_ wS.heap.size (w'.heap.size + 1) Lf [y] ?_ ?_ ?_ ?_ ?_ ?_); exact rfl; exact rfl; exact HOJ.out.grows (Grows.alloc w' (.cells #[.int .i64 y] 3)); exact ints_one w' y; have := HLk.out; have := HL4.out.out; simp; unfold maxLen; omega; have := HLk.out; have := HL4.out.out; simp; omega; have := HGJ.out.size; simp; omega; intro v5 w5 h51 h52 _; have X0 := Lib.hid h51; have XG := Lib.hid ((HGJ.out.trans (Grows.alloc w' (.cells #[.int .i64 y] 3))).grown h52 (Below.size (HGJ.out.trans (Grows.alloc w' (.cells #[.int .i64 y] 3)))) (fun k e => (own_lt (HOJ.out.grows (Grows.alloc w' (.cells #[.int .i64 y] 3))) k e).1)); clear h51 h52))
            go_roundw
            case rel => exact ⟨j + 1, by omega, by go_num, by rw [HT.out]; exact X0.out, XG.out⟩
            case measure => simp [intOf]; omega
        · obtain rfl : j = L.length := by omega
          have HOF2 : Hid (Own' 3 1 intE w.heap.size wr u8 (L.filter fun y => !(y == (q : Int)))) := by
            have := HOb.out.more HGwS.out
            rwa [List.take_length] at this
          obtain ⟨A8, n8, c8, h8⟩ : ∃ A n c, u8 = .slice A n c := by
            obtain ⟨A, c, h, _⟩ := HOF2.out.els.form
            exact ⟨A, _, c, h⟩
          subst h8
          have U4 := Lib.hid (T4.out.grows hgi); have U0 := Lib.hid (T0.out.grows hgi); have U1 := Lib.hid (T1.out.grows hgi); have UP := Lib.hid (PS.out.grows hgi); have UG := Lib.hid (GS.out.trans (Below.mono hgi HGwS.out))
          have f2 := U4.out.frozen 2
          clear hgi
          go_wp2
          go_roundw
          case rel =>
            refine ⟨k + 1, by omega, by go_num, .slice A8 n8 c8, ?_, ?_, U4.out.set 2 (.slice A8 n8 c8), U0.out.far (by have := H4.out; simp; omega) _, U1.out.far (by have := H4.out; simp; omega) _, UG.out.setCell (by have := H4.out; simp; omega) _⟩
            · rw [HSP.out]
              have := UP.out.aside (setCell_grown wr t4 2 (.slice A8 n8 c8)) U4.out (by decide)
              rwa [HLP.out] at this
            · rw [HSB.out]
              exact HOF2.out.aside (setCell_grown wr t4 2 (.slice A8 n8 c8)) U4.out (by decide)
          case measure => simp [intOf]; omega
    · obtain rfl : k = d.cache.length := by omega
      obtain ⟨A8, n8, c8, h8⟩ : ∃ A n c, bvK = .slice A n c := by
        obtain ⟨A, c, h, _⟩ := HOB.out.els.form
        exact ⟨A, _, c, h⟩
      subst h8
      have c1 := HR4.out.cell 1
      have f1 := HR4.out.frozen 1
      have V4 : Hid (Row (wr.setCell ⟨t4, 1, none⟩ (.slice none 0 0)) t4 26 #[.slice (some ⟨G, 0, none⟩) d.pages.length cap, .slice none 0 0, .slice A8 n8 c8, .bool false]) := HR4.out.set 1 (.slice none 0 0)
      have V1 := Lib.hid (HR1.out.far (p := ⟨t4, 1, none⟩) (by have := H4.out; simp; omega) (.slice none 0 0))
      have VP := Lib.hid (HOP.out.aside (setCell_grown wr t4 1 (.slice none 0 0)) HR4.out (by decide))
      have VB := Lib.hid (HOB.out.aside (setCell_grown wr t4 1 (.slice none 0 0)) HR4.out (by decide))
      have VG := Lib.hid (HG.out.setCell (p := ⟨t4, 1, none⟩) (by have := H4.out; simp; omega) (.slice none 0 0))
      have VO : OwnDisk w.heap.size (wr.setCell ⟨t4, 1, none⟩ (.slice none 0 0)) (.agg #[.slice (some ⟨G, 0, none⟩) d.pages.length cap, .slice none 0 0, .slice A8 n8 c8, .bool false]) ⟨VdM.fwP d.pages d.cache d.cache.length, [], VdM.fwB d.bad d.cache d.cache.length, false⟩ := ⟨_, _, _, rfl, VP.out, Own'.nil _ _ _ _ _, VB.out⟩
      have V41 := Lib.hid (dk_one VO.disk)
      clear HOP HOB HR4 HR1 HG HR0 VO
      go_wp2_with (first
        | ((with_reducible refine wpList_load_dk (o := ⟨some 63, _, _, _, _, _⟩) ?_ (.tmp 4) ?_ t4 #[.slice (some ⟨G, 0, none⟩) d.pages.length cap, .slice none 0 0, .slice A8 n8 c8, .bool false] ?_ ?_ ?_ ?_); exact rfl; exact rfl; exact rfl; exact V4.out; exact rfl)
        | ((with_reducible refine wpList_store_dk ?_ (.tmp 2) (.tmp 63) ?_ (w.heap.size + 1) #[.slice (some ⟨G, 0, none⟩) d.pages.length cap, .slice none 0 0, .slice A8 n8 c8, .bool false] #[.slice none 0 0, .slice none 0 0, .slice none 0 0, .bool false] ?_ ?_ ?_ ?_ ?_ ?_ ?_); exact rfl; exact rfl; exact rfl; exact rfl; exact rfl; exact rfl; exact V41.out.2; exact V1.out; intro w6 hw6 hg6))
      refine bodyPost_ret (results_dk_two (p := 2) (q := 3) (by exact rfl) _ (.int .i64 0) (by exact rfl) (by exact rfl) (by exact rfl) hw6) rfl ?_
      exact ⟨_, rfl, ⟨_, _, _, rfl, VP.out.aside hg6 V1.out (by decide), Own'.nil _ _ _ _ _, VB.out.aside hg6 V1.out (by decide)⟩, VG.out.grown hg6 VG.out.size (fun k e => by cases e; omega)⟩
end Go.Proofs.Ytiagmlokocpboaa
