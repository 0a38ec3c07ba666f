/- vdev.Flush. -/
import Derived.Test.YtfcghkmhcfgfkaaVdFlM
import Derived.Test.YtfcghkmhcfgfkaaVdvRead
namespace Go.Proofs.Ytfcghkmhcfgfkaa
open Go.RowKit Go.Shelf
set_option linter.unusedVariables false
set_option linter.unusedSimpArgs false
attribute [local go_sem] Oper.semAt_some
theorem own_stays {α β : Type} (e : TypeId) (s : Nat) (f : α → List Value) (base : Nat) (v : Value) (l : β → List α) : Own (fun (b : β) W => Own' e s f base W v (l b)) := fun b X Y row hs hg hr => by
  refine ⟨hs.1, hs.2.kept hg ?_⟩
  rcases hs.2.2 with ⟨rfl, _⟩ | ⟨g, cap, cur, rfl, _, hh, _⟩
  · exact .inl rfl
  · refine .inr fun hb => ?_
    obtain ⟨o, ho, hc⟩ := hr g hb.symm
    rw [hh] at ho
    cases ho
    cases hc
theorem own_mark_ne {α : Type} {e : TypeId} {s : Nat} {f : α → List Value} {base : Nat} {w : World} {v : Value} {l : List α} (h : Own' e s f base w v l) {D : Nat} {ds : Option (List Deferred)} (hk : w.heap[D]? = some (.deferred ds)) : some D ≠ v.ownBlock := fun e => by
  rcases h.2.2 with ⟨rfl, _⟩ | ⟨g, cap, cur, rfl, _, hh, _⟩
  · cases e
  · simp only [Value.ownBlock, Option.some.injEq] at e
    subst e
    rw [hh] at hk
    cases hk
theorem own_kept {α : Type} {e : TypeId} {s : Nat} {f : α → List Value} {base : Nat} {w w' : World} {g : Nat} {n c : Nat} {l : List α} (h : Own' e s f base w (.slice (some ⟨g, 0, none⟩) n c) l) {row : Option Nat} (hg : w.grownBy w' row) (hne : some g ≠ row) : Own' e s f base w' (.slice (some ⟨g, 0, none⟩) n c) l :=
  ⟨h.1, h.2.kept hg (.inr hne)⟩
theorem ints_one (W : World) (x : Int) : Els 1 intE (W.heap.size + 1) (W.alloc (.cells #[.int .i64 x] 3)) (.slice (some ⟨W.heap.size, 0, none⟩) 1 1) [x] := by
  refine ⟨fun y hy => rfl, _, 1, rfl, Nat.le_refl _, by decide, fun _ => ⟨W.heap.size, 0, rfl, Nat.lt_succ_self _, fun j u hu => ?_⟩⟩
  rw [Nat.zero_add, (Row.new W 3 #[.int .i64 x]).cell]
  simpa [intE] using hu
theorem own_put {α : Type} {e : TypeId} {s : Nat} {f : α → List Value} {base : Nat} {w : World} {v : Value} {l : List α} (h : Own' e s f base w v l) {D : Nat} {ds : Option (List Deferred)} (hk : w.heap[D]? = some (.deferred ds)) (o : Obj) : Own' e s f base (w.putObj D o) v l :=
  own_stays e s f base v (fun _ : Unit => l) () w _ (some D) h (grownBy_putObj' _ _ _) (fun r er => by cases er; exact ⟨_, hk, rfl⟩)
def onZ : Array Value := Array.replicate 256 (.bool false)
theorem zero_on (w : World) : (zeroValue 50).run Try.prog w = .ok (.agg onZ) w := by kernel_rfl
/-- What a round keeps. -/
def InvF (w : World) (t4 on Bs G cap : Nat) (D : Array Value) (C : Value) (ps : List Pg) (c : List (Int × Pg)) (pre : List (Fin c.length)) (W : World) : Prop :=
  Own' 28 256 pageE w.heap.size W (.slice (some ⟨G, 0, none⟩) ps.length cap) (VdM.pgs ps c pre) ∧ Row W t4 26 #[.slice (some ⟨G, 0, none⟩) ps.length cap, .slice none 0 0, .slice none 0 0, .bool false] ∧
  Row W on 50 (VdM.onL c pre) ∧ Row W Bs 23 #[C] ∧ Row W w.heap.size 26 D ∧ Row W (w.heap.size + 1) 26 noDk ∧ Below w.heap.size w W
/-- What the rounds over the bad pages keep. -/
def InvB (w : World) (t4 on G cap D0 : Nat) (D : Array Value) (ps qs : List Pg) (c : List (Int × Pg)) (bs : List Int) (k : Nat) (bv : Value) (W : World) : Prop :=
  Own' 3 1 intE w.heap.size W bv ((bs.take k).filter fun b => (VdM.lastW c b).isNone) ∧ Row W t4 26 #[.slice (some ⟨G, 0, none⟩) ps.length cap, .slice none 0 0, bv, .bool false] ∧
  Own' 28 256 pageE w.heap.size W (.slice (some ⟨G, 0, none⟩) ps.length cap) qs ∧ Row W on 50 (VdM.onL c (List.finRange c.length).reverse) ∧
  Row W w.heap.size 26 D ∧ Row W (w.heap.size + 1) 26 noDk ∧ W.heap[D0]? = some (.deferred (some [])) ∧ Below w.heap.size w W
set_option maxRecDepth 100000 in
set_option maxHeartbeats 4000000 in
theorem vflush_in (nn : Nat) (hn : 4 ≤ nn) (v : Value) (d : Dk) (w : World) (hv : IsDisk w.heap.size w v d) (l1 : d.pages.length ≤ 1000000) (l2 : d.cache.length ≤ 900000) (l3 : d.bad.length ≤ 900000) :
    CallsIn Fence.wide nn Try.prog 24 #[v] w fun e w' => ∃ r, e = .returned (.tuple #[r, .int .i64 (VdM.atE d 0)]) ∧ OwnDisk w.heap.size w' r (VdM.flushD d) ∧ Grows w w' := by
  have h1n : 1 ≤ nn := by omega
  have HV := Lib.hid hv; have L1 := Lib.hid l1; have L2 := Lib.hid (show d.cache.length ≤ 1000000 by omega); have L3 := Lib.hid (show d.bad.length ≤ 1000000 by omega)
  obtain ⟨pv, cv, bv, rfl, hp, hc, hb⟩ := hv
  have HPg := Lib.hid hp; have HPl := Lib.hid hp.1; have HCl := Lib.hid hc.1
  obtain ⟨A, cap, rfl, q1, q2, _⟩ := hp.form
  obtain ⟨C, cup, rfl, r1, r2, r3⟩ := hc.form
  obtain ⟨E, cop, rfl, s1, s2, s3⟩ := hb.ints
  have HR := Lib.hid r3; have HS := Lib.hid s3; have R2M := Lib.hid r2
  clear r3 s3 hp hc hb l1 l2
  unfold maxLen at q2 r2 s2
  have HA := Lib.hid (fun W h => vmay_any (.agg #[.slice A d.pages.length cap, .slice C d.cache.length cup, .slice E d.bad.length cop, .bool d.off]) d W h)
  have HC := Lib.hid (fun W h => vcopy_any (.agg #[.slice A d.pages.length cap, .slice C d.cache.length cup, .slice E d.bad.length cop, .bool d.off]) d W h L1.out L2.out L3.out)
  have HE : Hid (VdM.atE d 0 = if VdM.may d = true ∧ 0 ≤ (0 : Int) ∧ (0 : Int) < d.pages.length then (if d.off then 30 else 0) else 2) := rfl
  have HFD : Hid (VdM.flushD d = if VdM.atE d 0 = 0 then ⟨VdM.flushP d, [], VdM.flushB d, false⟩ else d) := rfl
  obtain ⟨D, hD⟩ : ∃ D, D = #[Value.slice A d.pages.length cap, .slice C d.cache.length cup, .slice E d.bad.length cop, .bool d.off] := ⟨_, rfl⟩
  have Ds : Hid (D.size = 4 ∧ D[0]? = some (.slice A d.pages.length cap) ∧ D[1]? = some (.slice C d.cache.length cup) ∧ D[2]? = some (.slice E d.bad.length cop) ∧ D[3]? = some (.bool d.off)) := by subst hD; exact ⟨rfl, rfl, rfl, rfl, rfl⟩
  rw [← hD] at HV HA HC ⊢
  clear hD
  have R1 := Lib.hid ((Row.new w 26 D).alloc (.cells noDk 26))
  have R2 : Hid (Row ((w.alloc (.cells D 26)).alloc (.cells noDk 26)) (w.heap.size + 1) 26 noDk) := by
    have := Row.new (w.alloc (.cells D 26)) 26 noDk
    rwa [World.size_alloc] at this
  have HG := Lib.hid ((Grows.alloc w (.cells D 26)).trans (Grows.alloc _ (.cells noDk 26)))
  have HM := Lib.hid (HA.out _ (HV.out.grows HG.out))
  clear HA
  unfold noDk at R1 R2 HG HM
  by_cases hm : VdM.may d = true
  case neg =>
    have hE : VdM.atE d 0 = 2 := HE.out.trans (if_neg fun h => hm h.1)
    have hDD := HFD.out.trans (if_neg (by rw [hE]; decide))
    rw [hDD, hE]
    rw [Bool.eq_false_iff.2 hm] at HM
    refine callsIn_wide.2 ?_
    clear hm hE hDD HE HFD
    go_enter Try.func24, Try.ntmps24
    go_wp2_with (first
      | ((with_reducible refine wpList_load_dk (o := ⟨some 10, _, _, _, _, _⟩) ?_ (.tmp 1) ?_ w.heap.size D ?_ ?_ ?_ ?_); exact rfl; exact rfl; exact rfl; exact R1.out; exact Ds.out.1)
      | (go_at_call 15; refine HM.out.mono ?_; rintro e w1 ⟨rfl, g1⟩; have HG1 := Lib.hid (HG.out.trans g1); have S1 := Lib.hid (Row.grows R1.out g1); have S3 := Lib.hid (Row.grows R2.out g1); have HCc := Lib.hid (HC.out w1 (HV.out.grows (HG.out.trans g1))); clear g1)
      | ((with_reducible refine wpList_load_dk (o := ⟨some 13, _, _, _, _, _⟩) ?_ (.tmp 1) ?_ w.heap.size D ?_ ?_ ?_ ?_); exact rfl; exact rfl; exact rfl; exact S1.out; exact Ds.out.1)
      | (go_at_call 26; refine HCc.out.mono ?_; rintro e w2 ⟨r, rfl, hr, g2⟩; have HG2 := Lib.hid (HG1.out.trans g2); have T3 := Lib.hid (Row.grows S3.out g2); obtain ⟨pv2, cv2, bv2, rfl, o1, o2, o3⟩ := hr; have HO1 := Lib.hid (o1.more HG1.out.size); have HO2 := Lib.hid (o2.more HG1.out.size); have HO3 := Lib.hid (o3.more HG1.out.size); have H41 := Lib.hid (dk_one (d := d) ⟨pv2, cv2, bv2, rfl, o1.els, o2.els, o3.els⟩); clear o1 o2 o3 g2)
      | ((with_reducible refine wpList_store_dk ?_ (.tmp 2) (.tmp 14) ?_ (w.heap.size + 1) #[pv2, cv2, bv2, .bool d.off] #[.slice none 0 0, .slice none 0 0, .slice none 0 0, .bool false] ?_ ?_ ?_ ?_ ?_ ?_ ?_); exact rfl; exact rfl; exact rfl; exact rfl; exact rfl; exact rfl; exact H41.out.2; exact T3.out; intro w6 hw6 hg6))
    refine bodyPost_ret (results_dk_two (p := 2) (q := 3) (by exact rfl) _ (.int .i64 2) (by exact rfl) (by exact rfl) (by exact rfl) hw6) rfl ?_
    exact ⟨_, rfl, ⟨_, _, _, rfl, HO1.out.aside hg6 T3.out (by decide), HO2.out.aside hg6 T3.out (by decide), HO3.out.aside hg6 T3.out (by decide)⟩, HG2.out.grown hg6 HG2.out.size (fun k e => by cases e; omega)⟩
  rw [hm] at HM
  have hsh : VdM.shape d = true ∧ VdM.mayC d.pages.length d.cache = true ∧ VdM.mayB d.pages.length d.bad = true := by
    unfold VdM.may at hm
    rw [Bool.and_eq_true, Bool.and_eq_true] at hm
    exact ⟨hm.1.1, hm.1.2, hm.2⟩
  have hlen : 32 ≤ d.pages.length ∧ d.pages.length ≤ 256 := by
    have := hsh.1
    unfold VdM.shape at this
    simp at this
    omega
  by_cases hoff : d.off = true
  · have hE : VdM.atE d 0 = 30 := (HE.out.trans (if_pos ⟨hm, by omega, by omega⟩)).trans (if_pos hoff)
    have hDD := HFD.out.trans (if_neg (by rw [hE]; decide))
    rw [hDD, hE]
    rw [hoff] at Ds
    refine callsIn_wide.2 ?_
    clear hm hE hDD HE HFD hsh hlen hoff
    go_enter Try.func24, Try.ntmps24
    go_wp2_with (first
      | ((with_reducible refine wpList_load_dk (o := ⟨some 10, _, _, _, _, _⟩) ?_ (.tmp 1) ?_ w.heap.size D ?_ ?_ ?_ ?_); exact rfl; exact rfl; exact rfl; exact R1.out; exact Ds.out.1)
      | (go_at_call 15; refine HM.out.mono ?_; rintro e w1 ⟨rfl, g1⟩; have HG1 := Lib.hid (HG.out.trans g1); have S1 := Lib.hid (Row.grows R1.out g1); have S3 := Lib.hid (Row.grows R2.out g1); have b3 := ((Row.grows R1.out g1).cell 3).trans Ds.out.2.2.2.2; have HCc := Lib.hid (HC.out w1 (HV.out.grows (HG.out.trans g1))); clear g1)
      | ((with_reducible refine wpList_load_dk (o := ⟨some 18, _, _, _, _, _⟩) ?_ (.tmp 1) ?_ w.heap.size D ?_ ?_ ?_ ?_); exact rfl; exact rfl; exact rfl; exact S1.out; exact Ds.out.1)
      | (go_at_call 26; refine HCc.out.mono ?_; rintro e w2 ⟨r, rfl, hr, g2⟩; have HG2 := Lib.hid (HG1.out.trans g2); have T3 := Lib.hid (Row.grows S3.out g2); obtain ⟨pv2, cv2, bv2, rfl, o1, o2, o3⟩ := hr; have HO1 := Lib.hid (o1.more HG1.out.size); have HO2 := Lib.hid (o2.more HG1.out.size); have HO3 := Lib.hid (o3.more HG1.out.size); have H41 := Lib.hid (dk_one (d := d) ⟨pv2, cv2, bv2, rfl, o1.els, o2.els, o3.els⟩); clear o1 o2 o3 g2)
      | ((with_reducible refine wpList_store_dk ?_ (.tmp 2) (.tmp 19) ?_ (w.heap.size + 1) #[pv2, cv2, bv2, .bool d.off] #[.slice none 0 0, .slice none 0 0, .slice none 0 0, .bool false] ?_ ?_ ?_ ?_ ?_ ?_ ?_); exact rfl; exact rfl; exact rfl; exact rfl; exact rfl; exact rfl; exact H41.out.2; exact T3.out; intro w6 hw6 hg6))
    refine bodyPost_ret (results_dk_two (p := 2) (q := 3) (by exact rfl) _ (.int .i64 30) (by exact rfl) (by exact rfl) (by exact rfl) hw6) rfl ?_
    exact ⟨_, rfl, ⟨_, _, _, rfl, HO1.out.aside hg6 T3.out (by decide), HO2.out.aside hg6 T3.out (by decide), HO3.out.aside hg6 T3.out (by decide)⟩, HG2.out.grown hg6 HG2.out.size (fun k e => by cases e; omega)⟩
  have hE : VdM.atE d 0 = 0 := (HE.out.trans (if_pos ⟨hm, by omega, by omega⟩)).trans (if_neg hoff)
  have hDD := HFD.out.trans (if_pos hE)
  rw [hDD, hE]
  rw [Bool.eq_false_iff.2 hoff] at Ds
  have HMC := Lib.hid hsh.2.1
  have HMB := Lib.hid hsh.2.2
  have HL := Lib.hid hlen
  clear hm hE hDD HE HFD hsh HC hoff hlen
  obtain ⟨g, o, hA, hgo⟩ : ∃ g o : Nat, (0 < d.cache.length → C = some ⟨g, o, none⟩) ∧ ∀ (j : Nat) (x : Int × Pg), d.cache[j]? = some x → g < w.heap.size ∧ w.rangeAt g (o + j * 257) (writeE x) := by
    by_cases h0 : 0 < d.cache.length
    · obtain ⟨g, o, e, hl, hx⟩ := HR.out h0
      exact ⟨g, o, fun _ => e, fun j x hj => ⟨hl, hx j x hj⟩⟩
    · exact ⟨0, 0, fun h => absurd h h0, fun j x hj => absurd (List.getElem?_eq_some_iff.1 hj).1 (by omega)⟩
  have HGO := Lib.hid hgo
  have HAC := Lib.hid hA
  clear hgo hA HR
  have hzb := zero_on
  have HPA : Hid (VdM.pgs d.pages d.cache (List.finRange d.cache.length).reverse = VdM.flushP d) := VdM.pgs_all d
  have HBA : Hid (VdM.flushB d = d.bad.filter fun b => (VdM.lastW d.cache b).isNone) := rfl
  obtain ⟨ps, cs, bs, off⟩ := d
  simp only at *
  generalize VdM.flushP ⟨ps, cs, bs, off⟩ = qs at *
  generalize VdM.flushB ⟨ps, cs, bs, off⟩ = fb at *
  refine callsIn_of_wp_marks Try.func24 rfl trivial ?_ rfl
  simp only [Try.ntmps24, List.size_toArray, List.length_cons, List.length_nil, Nat.reduceAdd, Nat.reduceSub, Array.replicate_succ, Array.replicate_zero, List.push_toArray, List.append_toArray, List.nil_append, List.cons_append]
  gi_wp2_with (first
    | ((with_reducible refine wpListIn_load_dk ?_ (.tmp 1) ?_ w.heap.size D ?_ ?_ ?_ ?_); exact rfl; exact rfl; exact rfl; exact R1.out; exact Ds.out.1)
    | (refine ⟨trivial, ?_⟩; gi_at_call 15; refine (callsIn_wide.2 HM.out).mono ?_; rintro e w1 ⟨rfl, k1⟩; have HG1 := Lib.hid (HG.out.trans k1); have S1 := Lib.hid (Row.grows R1.out k1); have S2 := Lib.hid (Row.grows R2.out k1); have HL1 := Lib.hid S2.out.lt; have b3 := (S1.out.cell 3).trans Ds.out.2.2.2.2; have b0 := (S1.out.cell 0).trans Ds.out.2.1; clear k1)
    | (refine ⟨trivial, ?_⟩; gi_at_call 39; refine (callsIn_wide.2 (vown_page _ (.slice none 0 0) ps [] _ (HPg.out.grows HG1.out) (Els.nil _ _) (by have := L1.out; simpa using this))).mono ?_; rintro e w2 ⟨r, rfl, ho, k2⟩; rw [List.append_nil] at ho; have hlow := own_low ho; obtain ⟨G, cg, rfl⟩ : ∃ G cg, r = .slice (some ⟨G, 0, none⟩) ps.length cg := (by rcases ho.2.2 with ⟨_, h2⟩ | ⟨G, cg, _, h2, _⟩; exact absurd h2 (by have := HL.out; omega); exact ⟨G, cg, h2⟩); have HO := Lib.hid (ho.more HG1.out.size); have HGw := Lib.hid (hlow G rfl); have HGl := Lib.hid ((own_lt ho G rfl).2); have HG2 := Lib.hid (HG1.out.trans k2); have T1 := Lib.hid (Row.grows S1.out k2); have T2 := Lib.hid (Row.grows S2.out k2); clear ho k2 hlow)
    | ((with_reducible refine wpListIn_store_dk WideF.wide ?_ (.tmp 4) (.tmp 23) ?_ w2.heap.size #[.slice (some ⟨G, 0, none⟩) ps.length cg, .slice none 0 0, .slice none 0 0, .bool false] #[.slice none 0 0, .slice none 0 0, .slice none 0 0, .bool false] ?_ ?_ ?_ ?_ ?_ ?_ ?_); exact rfl; exact rfl; exact rfl; exact rfl; exact rfl; exact rfl; exact (by simp [Value.oneCell']); exact Row.new w2 _ _; intro w3 hp3 hg3; have P3 := Lib.hid hp3; have HB3 := Lib.hid ((HG2.out.trans (Grows.alloc _ _)).grown hg3 (by have := HG2.out.size; simp; omega) (fun k e => by cases e; exact HG2.out.size)); have U1 := Lib.hid ((T1.out.alloc _).grown hg3 (by have := T1.out.lt; simp; omega)); have U2 := Lib.hid ((T2.out.alloc _).grown hg3 (by have := T2.out.lt; simp; omega)); have UO := Lib.hid (own_kept (HO.out.grows (Grows.alloc _ _)) hg3 (by have := HGl.out; simp; omega)); have HL3 := Lib.hid P3.out.lt; have b1 := ((U1.out.alloc (.cells onZ 50)).cell 1).trans Ds.out.2.2.1; clear hp3 hg3)
    | (refine ⟨trivial, ?_⟩; gi_at_call 31; refine (callsIn_wide.2 (fromLast_any _ _ _ _ _ rfl)).mono ?_; rintro e w5 ⟨rfl, rfl⟩))
  rename_i Q1 K aK
  have aK := Lib.hid aK
  have V1 := Lib.hid ((U1.out.alloc (.cells onZ 50)).alloc (.cells #[.slice C cs.length cup] 23))
  have V2 := Lib.hid ((U2.out.alloc (.cells onZ 50)).alloc (.cells #[.slice C cs.length cup] 23))
  have V3 := Lib.hid ((P3.out.alloc (.cells onZ 50)).alloc (.cells #[.slice C cs.length cup] 23))
  have VO := Lib.hid ((UO.out.grows (Grows.alloc _ (.cells onZ 50))).grows (Grows.alloc _ (.cells #[.slice C cs.length cup] 23)))
  have VN := Lib.hid ((Row.new w3 50 onZ).alloc (.cells #[.slice C cs.length cup] 23))
  have VB : Hid (Row ((w3.alloc (.cells onZ 50)).alloc (.cells #[.slice C cs.length cup] 23)) (w3.heap.size + 1) 23 #[.slice C cs.length cup]) := by
    have := Row.new (w3.alloc (.cells onZ 50)) 23 #[.slice C cs.length cup]
    rwa [World.size_alloc] at this
  have HB7 := Lib.hid (((show Grows w w3 from HB3.out).trans (Grows.alloc _ (.cells onZ 50))).trans (Grows.alloc _ (.cells #[.slice C cs.length cup] 23)))
  have HS7 : Hid (((w3.alloc (.cells onZ 50)).alloc (.cells #[.slice C cs.length cup] 23)).heap.size = w3.heap.size + 2) := by unfold Hid; simp
  generalize hW7 : (w3.alloc (.cells onZ 50)).alloc (.cells #[.slice C cs.length cup] 23) = w7 at *
  clear hW7 b1 b0 b3 U1 U2 UO P3 T1 T2 HO
  refine wpIn_rangeFunc_ownG rfl h1n (gf := 43) (lb := #[.pointer (some ⟨w3.heap.size + 1, 0, none⟩)]) rfl trivial (enters_of Try.func43 (by kernel_rfl) rfl)
    (fromLast_stops (nn - 1) (by omega) (w3.heap.size + 1) C cs.length cup g o HAC.out r1 R2M.out w7 (by rw [HS7.out]; omega) (VB.out.cell 0)) KeptAt.t (KeptAt.b (by rw [HS7.out]; omega)) (Below.refl _ _) (fun _ => rfl)
    (InvF w w2.heap.size w3.heap.size (w3.heap.size + 1) G cg D (.slice C cs.length cup) ps cs) (fun _ _ _ => False) ?own (fun _ _ _ _ _ hs _ _ => hs) ?start ?_ ?assign ?body ?done ?stop
  case assign =>
    intro l y W K hK
    gi_wp2
    exact hK
  case own => exact OwnFrom.and (Own.from (own_stays _ _ _ _ _ _) _) (OwnFrom.and (Own.from (row_stays _ _ _) _) (OwnFrom.and (Own.from (row_varies _ _ _) _) (OwnFrom.and (Own.from (row_stays _ _ _) _) (OwnFrom.and (Own.from (row_stays _ _ _) _) (OwnFrom.and (Own.from (row_stays _ _ _) _) (ownFrom_below (Nat.le_refl _) HB7.out.size))))))
  case start => exact ⟨by rw [VdM.pgs_nil]; exact VO.out, V3.out, by rw [VdM.onL_nil]; exact VN.out, VB.out, V1.out, V2.out, HB7.out⟩
  case stop =>
    rintro D0 c pre W _ _ h _
    exact h.elim
  case body =>
    rintro l pre y W ⟨ho, h4, hon, hbs, hd1, hd2, hB⟩ hlt2
    have e1 : cs[y.val]? = some cs[y.val] := List.getElem?_eq_getElem y.isLt
    obtain ⟨hgl, hrx⟩ := HGO.out _ _ e1
    have hrx2 := rangeAt_keep hrx (fun a ha => Below.cell hB (by rw [ha]; exact hgl))
    have HXL : Hid (cs[y.val].2.length = 256) := by have := HCl.out _ (List.mem_of_getElem? e1); rw [writeE_len] at this; exact Nat.succ.inj this
    have hxr : 0 ≤ cs[y.val].1 ∧ cs[y.val].1 < ps.length := by
      have := List.all_eq_true.1 HMC.out _ (List.mem_of_getElem? e1)
      simpa using this
    obtain ⟨k, hk⟩ : ∃ k : Nat, cs[y.val].1 = k := ⟨cs[y.val].1.toNat, by omega⟩
    have c0 : W.cell? ⟨g, o + y.val * 257, none⟩ = some (.int .i64 k) := by rw [← hk]; simpa using hrx2 0 _ rfl
    have hkl : k < ps.length := by have := hxr.2; omega
    have hk256 : k < 256 := by have := HL.out; omega
    have hki : (k : Int) < 256 := by omega
    have hkl2 : (k : Int) < ps.length := by omega
    have onc : _ = some _ := (hon.cell k).trans (VdM.onL_get cs pre k hk256)
    have onf := hon.frozen k
    have HRX := Lib.hid hrx; have HGL := Lib.hid hgl
    have HOw := Lib.hid ho; have H4 := Lib.hid h4; have HON := Lib.hid hon; have HBS := Lib.hid hbs; have HD1 := Lib.hid hd1; have HD2 := Lib.hid hd2; have HB := Lib.hid hB
    have HK := Lib.hid hk
    obtain ⟨t, ht⟩ : ∃ t : Bool, t = VdM.hit cs pre k := ⟨_, rfl⟩
    rw [← ht] at onc
    have HT := Lib.hid ht
    clear ht hrx hrx2 hxr ho h4 hon hbs hd1 hd2 hB e1 hgl hk
    unfold wrAt
    cases t
    · have HX := Lib.hid (show VdM.hit cs pre (cs[y.val]).1 = false by rw [HK.out]; exact HT.out.symm)
      have HPN := Lib.hid (VdM.pgs_new ps cs pre y k HK.out HX.out)
      have HON2 := Lib.hid (VdM.onL_new cs pre y k HK.out)
      have J1 := Lib.hid (HB.out.setCell (p := ⟨w3.heap.size, k, none⟩) (by have := HL3.out; have := HG2.out.size; simp; omega) (.bool true))
      have YD := Lib.hid (range_data (rangeAt_keep HRX.out (fun a ha => Below.cell J1.out (by rw [ha]; exact HGL.out))))
      have c1 : (W.setCell ⟨w3.heap.size, k, none⟩ (.bool true)).cell? ⟨g, o + y.val * 257, none⟩ = some (.int .i64 k) := by
        rw [← HK.out]
        have := (rangeAt_keep HRX.out (fun a ha => Below.cell J1.out (by rw [ha]; exact HGL.out))) 0 _ rfl
        simpa using this
      have K4 := Lib.hid (H4.out.far (p := ⟨w3.heap.size, k, none⟩) (by have := HL3.out; simp; omega) (.bool true))
      have KON := Lib.hid (HON.out.set k (.bool true))
      have KBS := Lib.hid (HBS.out.far (p := ⟨w3.heap.size, k, none⟩) (by simp) (.bool true))
      have KD1 := Lib.hid (HD1.out.far (p := ⟨w3.heap.size, k, none⟩) (by have := HL3.out; have := HG2.out.size; simp; omega) (.bool true))
      have KD2 := Lib.hid (HD2.out.far (p := ⟨w3.heap.size, k, none⟩) (by have := HL3.out; have := HL1.out; have := HGl.out; have := HGw.out; simp; omega) (.bool true))
      have KOw := Lib.hid (own_kept HOw.out (setCell_grown W w3.heap.size k (.bool true)) (by have := HGl.out; have := HL3.out; simp; omega))
      have KKO := Lib.hid (KeepsOthers.setCell W ⟨w3.heap.size, k, none⟩ (.bool true))
      have f0 := K4.out.cell 0
      gi_wp2
      generalize hWK : W.setCell ⟨w3.heap.size, k, none⟩ (.bool true) = W1 at *
      refine wpIn_region_free (WideF.round _) 11 70 (by kernel_rfl) (by kernel_rfl) (by kernel_rfl) rfl (by kernel_rfl) ?_; simp only [List.take_succ_cons, List.take_zero, List.drop_succ_cons, List.drop_zero]
      repeat (apply free_pure rfl; focus (intro vs w hg hd; have q0 := hg.cell f0; have q1 := hg.cell c1; (try simp [Region.binds] at hd); simp only [execOp, resolve, Option.map_some, Option.map_none, List.map_toArray, List.map_cons, List.map_nil, rho_const, rho_func]; (repeat (conv in rho _ _ _ _ (Operand.tmp _) => whnf)); (try simp only [hd]); go_simp; (repeat (conv in rho _ _ _ _ (Operand.tmp _) => whnf)); (try simp only [hd]); rfl))
      refine free_op (fun v_ _ => v_ = .agg (pgA (cs[y.val]).2)) rfl (dk_mono _) (fun vs wq hg hd => by
        (try simp [Region.binds] at hd)
        refine dk_load 28 (.tmp 48) ⟨g, o + y.val * 257 + 1, none⟩ _ rfl ?_ (page_run_load HXL.out (range_grows YD.out (Grows.of_drew hg))) ⟨Grows.refl _, rfl⟩
        (conv in rho _ _ _ _ (Operand.tmp _) => whnf)
        simp [hd]) ?_
      repeat (apply free_pure rfl; focus (intro vs w hg hd; have q0 := hg.cell f0; have q1 := hg.cell c1; (try simp [Region.binds] at hd); simp only [execOp, resolve, Option.map_some, Option.map_none, List.map_toArray, List.map_cons, List.map_nil, rho_const, rho_func]; (repeat (conv in rho _ _ _ _ (Operand.tmp _) => whnf)); (try simp only [hd]); go_simp; (repeat (conv in rho _ _ _ _ (Operand.tmp _) => whnf)); (try simp only [hd]); rfl))
      intro vs w' hg hv; have h9 := hv 9 (by omega); simp at h9; have h10 := hv 10 (by omega); simp at h10; simp only [putL, dstAt, List.range, List.range.loop, if_true, List.getElem?_toArray, List.getElem?_cons_zero, List.getElem?_cons_succ, Option.bind_some, Act.put, List.setIfInBounds_toArray, List.set_cons_zero, List.set_cons_succ]
      have hgW : Grows W1 w' := Grows.of_drew hg
      have M4 := Lib.hid (Row.grows K4.out hgW); have MON := Lib.hid (Row.grows KON.out hgW); have MBS := Lib.hid (Row.grows KBS.out hgW); have MD1 := Lib.hid (Row.grows KD1.out hgW); have MD2 := Lib.hid (Row.grows KD2.out hgW)
      have MOw := Lib.hid (KOw.out.grows hgW)
      have MB := Lib.hid (J1.out.trans (Below.mono hgW J1.out.size))
      have MKO := Lib.hid (KKO.out.trans (others_of_grows hgW))
      have MST := Lib.hid (Own'.store_page (g := G) (cap := cg) (l := VdM.pgs ps cs pre) (by rw [VdM.pgs_length]; exact MOw.out) k (cs[y.val]).2 (by rw [VdM.pgs_length]; exact hkl) HXL.out)
      have G5 := Lib.hid (setCells_grown (g := G) (pageE (cs[y.val]).2) (k * 256) w')
      have HTL : Hid ((pgA (cs[y.val]).2).toList = pageE (cs[y.val]).2) := by unfold Hid pgA; rw [List.toList_toArray]
      clear hWK
      rw [h9, h10]
      clear hv h9 h10 hg f0 c1 c0 onc onf
      generalize vs 0 = z0, vs 1 = z1, vs 2 = z2, vs 3 = z3, vs 4 = z4, vs 5 = z5, vs 6 = z6, vs 7 = z7, vs 8 = z8, vs 9 = z9, vs 10 = z10 at *
      generalize cs[y.val].2 = pX at *
      gi_wp2_with (first
        | (refine wpListIn_does (WideF.round _) rfl (by intro c; simp) (does_store_mid 28 (.tmp 50) (.tmp 49) rfl G (k * 256) (pgA pX) rfl rfl (by rw [pgA_size, HXL.out]; exact MST.out.2) (by rw [pgA_size, HXL.out]; exact pg_info) (pgA_one _) (R := fun v w2' => v = undef ∧ w2' = w'.setCells G (k * 256) (pgA pX).toList) ⟨rfl, rfl⟩) ?_; rintro v W3 ⟨rfl, rfl⟩))
      rw [HTL.out]
      have hG1 := HGl.out
      have hG2 := HGw.out
      have hG3 := HL3.out
      have hG4 := HL1.out
      refine ⟨(MKO.out.from _).trans (KeepsFrom.of_grownBy G5.out (fun j e => by cases e; have := HS7.out; omega)), KeptAt.rows HBS.out (MBS.out.grown G5.out (by simp; omega)), ?_, M4.out.grown G5.out (by simp; omega), ?_, MBS.out.grown G5.out (by simp; omega), MD1.out.grown G5.out (by simp; omega), MD2.out.grown G5.out (by simp; omega), MB.out.grown G5.out MB.out.size (fun j e => by cases e; omega)⟩
      · rw [HPN.out]
        have := MST.out.1
        rwa [VdM.pgs_length] at this
      · rw [HON2.out]
        exact MON.out.grown G5.out (by simp; omega)
    · have HX := Lib.hid (show VdM.hit cs pre (cs[y.val]).1 = true by rw [HK.out]; exact HT.out.symm)
      gi_wp2
      refine ⟨KeepsFrom.refl _ _, KeptAt.rows HBS.out HBS.out, by rw [VdM.pgs_old _ _ _ _ HX.out]; exact HOw.out, H4.out, by rw [VdM.onL_old _ _ _ HX.out]; exact HON.out, HBS.out, HD1.out, HD2.out, HB.out⟩
  case done =>
    rintro D0 ys W hD rfl ⟨ho, h4, hon, hbs, hd1, hd2, hB⟩ hK
    refine aK.out _ _ ?_
    clear aK
    rw [HPA.out] at ho
    have a2 : _ = some _ := (hd1.cell 2).trans Ds.out.2.2.2.1
    gi_wp2
    gi_loopw [54] (fun i wr => ∃ k bv, k ≤ bs.length ∧ i = .int .i64 k ∧ InvB w w2.heap.size w3.heap.size G cg D0 D ps qs cs bs k bv wr) (fun i _ => bs.length - (intOf i).toNat)
    case atStart => exact ⟨0, .slice none 0 0, Nat.zero_le _, rfl, Own'.nil _ _ _ _ _, h4, ho, hon, hd1, hd2, hK, hB⟩
    case round =>
      obtain ⟨k, bv, hk, rfl, ho2, h4, ho, hon, hd1, hd2, hK, hB⟩ := hrel
      have HOb := Lib.hid ho2; have H4 := Lib.hid h4; have HOw := Lib.hid ho; have HON := Lib.hid hon; have HD1 := Lib.hid hd1; have HD2 := Lib.hid hd2; have HK := Lib.hid hK; have HB := Lib.hid hB; have HDD := Lib.hid hD
      have f2 := h4.cell 2
      clear ho2 h4 ho hon hd1 hd2 hK hB hD a2
      by_cases hlt : k < bs.length
      · obtain ⟨gb, ob, rfl, hgb, hcA⟩ := HS.out (by omega)
        have e1 : bs[k]? = some bs[k] := List.getElem?_eq_getElem hlt
        have cx := (Below.cell HB.out (p := ⟨gb, ob + k, none⟩) hgb).trans (hcA k _ e1)
        have hok := List.all_eq_true.1 HMB.out k (List.mem_range.2 hlt)
        have hxr : 0 ≤ bs[k] ∧ bs[k] < ps.length := by
          unfold VdM.okB at hok
          rw [e1] at hok
          simp at hok
          exact hok.1
        obtain ⟨q, hq⟩ : ∃ q : Nat, bs[k] = q := ⟨bs[k].toNat, by omega⟩
        rw [hq] at cx e1
        have hq256 : q < 256 := by have := HL.out; omega
        have hqi : (q : Int) < 256 := by omega
        have HFT := Lib.hid (VdM.flushB_take cs bs k q e1)
        have onc : _ = some _ := (HON.out.cell q).trans (VdM.onL_get cs _ q hq256)
        have hh := VdM.hit_all cs (q : Int)
        have hlen2 : ((bs.take k).filter fun b => (VdM.lastW cs b).isNone).length ≤ 900000 := Nat.le_trans (List.length_filter_le _ _) (by rw [List.length_take]; omega)
        have HLN := Lib.hid hlen2
        obtain ⟨t, ht⟩ : ∃ t : Bool, t = VdM.hit cs (List.finRange cs.length).reverse q := ⟨_, rfl⟩
        rw [← ht] at onc hh
        clear hok hxr hq e1 hcA ht hlen2
        cases t
        · have HNo : Hid ((VdM.lastW cs q).isNone = true) := by unfold Hid; cases hz : VdM.lastW cs q with
            | none => rfl
            | some z => rw [hz] at hh; cases hh
          rw [HNo.out, if_pos rfl] at HFT
          clear hh
          obtain ⟨L, hL⟩ : ∃ L, L = (bs.take k).filter fun b => (VdM.lastW cs b).isNone := ⟨_, rfl⟩
          rw [← hL] at HOb HFT HLN
          clear hL
          gi_wp2_with (first
            | ((with_reducible refine wpListIn_append_els elT_int intE_one WideF.wide ?_ (.tmp 63) (.tmp 65) ?_ w.heap.size (wr.heap.size + 1) L [(q : Int)] ?_ ?_ ?_ ?_ ?_ ?_); exact rfl; exact rfl; exact HOb.out.grows (Grows.alloc _ _); exact ints_one wr q; have := HLN.out; simp; unfold maxLen; omega; have := HLN.out; simp; omega; have := HB.out.size; simp; omega; intro v5 w5 h51 h52 _; obtain ⟨B5, c5, rfl, _⟩ := h51.els.form; generalize (L ++ [(q : Int)]).length = m5 at *; have X0 := Lib.hid h51; have X4 := Lib.hid (row_other (HOb.out.grows (Grows.alloc _ _)) (H4.out.alloc _) (by decide) h52); have XN := Lib.hid (row_other (HOb.out.grows (Grows.alloc _ _)) (HON.out.alloc _) (by decide) h52); have X1 := Lib.hid (row_other (HOb.out.grows (Grows.alloc _ _)) (HD1.out.alloc _) (by decide) h52); have X2 := Lib.hid (row_other (HOb.out.grows (Grows.alloc _ _)) (HD2.out.alloc _) (by decide) h52); have XO := Lib.hid (own_other (HOw.out.grows (Grows.alloc _ _)) (HOb.out.grows (Grows.alloc _ _)) (by decide) h52); have XK : Hid (w5.heap[D0]? = some (.deferred (some []))) := (h52.block D0 (by have := (Array.getElem?_eq_some_iff.1 HK.out).1; simp; omega) (own_mark_ne HOb.out HK.out)).trans ((Below.heap_alloc wr _ D0 (Array.getElem?_eq_some_iff.1 HK.out).1).trans HK.out); have XB := Lib.hid (((show Grows w wr from HB.out).trans (Grows.alloc _ _)).grown h52 (by have := HB.out.size; simp; omega) (fun j e => own_low HOb.out j e)); have f5 := X4.out.cell 2; have f6 := X4.out.frozen 2; clear h51 h52))
          go_roundw
          case rel =>
            have hn4 : D0 ≠ w2.heap.size := by have := HDD.out; have := HS7.out; have := HL3.out; omega
            refine ⟨k + 1, .slice B5 m5 c5, by omega, by go_num, ?_, X4.out.set 2 _, XO.out.aside (setCell_grown _ _ _ _) X4.out (by decide), XN.out.far (by have := HL3.out; simp; omega) _, X1.out.far (by have := HG2.out.size; have := HGl.out; have := HGw.out; have := HL1.out; simp; omega) _, X2.out.far (by have := HGl.out; have := HGw.out; have := HL1.out; simp; omega) _, mark_set XK.out (by simpa using hn4) _, XB.out.setCell (by have := HG2.out.size; simp; omega) _⟩
            rw [HFT.out]
            exact X0.out.aside (setCell_grown _ _ _ _) X4.out (by decide)
          case measure => simp [intOf]; omega
        · have HNo : Hid ((VdM.lastW cs q).isNone = false) := by unfold Hid; cases hz : VdM.lastW cs q with
            | none => rw [hz] at hh; cases hh
            | some z => rfl
          rw [HNo.out, if_neg (by decide), List.append_nil] at HFT
          clear hh
          gi_wp2
          go_roundw
          case rel => exact ⟨k + 1, bv, by omega, by go_num, by rw [HFT.out]; exact HOb.out, H4.out, HOw.out, HON.out, HD1.out, HD2.out, HK.out, HB.out⟩
          case measure => simp [intOf]; omega
      · obtain rfl : k = bs.length := by omega
        have HFin : Hid (Own' 3 1 intE w.heap.size wr bv fb) := by have := HOb.out; rw [List.take_length, ← HBA.out] at this; exact this
        obtain ⟨B1, c1, rfl, _⟩ := HFin.out.els.form
        have hone : Hid ((#[Value.slice (some ⟨G, 0, none⟩) ps.length cg, .slice none 0 0, .slice B1 fb.length c1, .bool false] : Array Value).all (·.oneCell') = true) := by unfold Hid; simp [Value.oneCell']
        clear f2 HOb
        gi_wp2_with (first
          | ((with_reducible refine wpListIn_load_dk ?_ (.tmp 4) ?_ w2.heap.size #[.slice (some ⟨G, 0, none⟩) ps.length cg, .slice none 0 0, .slice B1 fb.length c1, .bool false] ?_ ?_ ?_ ?_); exact rfl; exact rfl; exact rfl; exact H4.out; exact rfl)
          | ((with_reducible refine wpListIn_store_dk WideF.wide ?_ (.tmp 2) (.tmp 69) ?_ (w.heap.size + 1) #[.slice (some ⟨G, 0, none⟩) ps.length cg, .slice none 0 0, .slice B1 fb.length c1, .bool false] noDk ?_ ?_ ?_ ?_ ?_ ?_ ?_); exact rfl; exact rfl; exact rfl; exact rfl; exact rfl; exact rfl; exact hone.out; exact HD2.out; intro w6 hw6 hg6))
        have hK2 : w6.heap[D0]? = some (.deferred (some [])) := (hg6.block D0 (Array.getElem?_eq_some_iff.1 HK.out).1 (by have := HDD.out; have := HB7.out.size; have := HS7.out; have := HL3.out; have := HGl.out; have := HGw.out; have := HL1.out; simp; omega)).trans HK.out
        have hBw := HB.out.grown hg6 HB.out.size (fun k e => by cases e; omega)
        refine ⟨by simp, .inl ⟨_, _, rfl, run_takeDeferred hK2, ?_⟩⟩
        refine ⟨_, results_dk_two (p := 2) (q := 3) (by exact rfl) _ (.int .i64 0) (by exact rfl) (by exact rfl) (by exact rfl) (hw6.kept_put hK2 _), _, rfl, ⟨_, _, _, rfl, own_put (HOw.out.aside hg6 HD2.out (by decide)) hK2 _, Own'.nil _ _ _ _ _, own_put (HFin.out.aside hg6 HD2.out (by decide)) hK2 _⟩, ?_⟩
        exact Below.trans hBw (Grows.put_mark hBw hK2 (by have := HDD.out; have := HB7.out.size; omega))
theorem vflush_any (v : Value) (d : Dk) (w : World) (hv : IsDisk w.heap.size w v d) (l1 : d.pages.length ≤ 1000000) (l2 : d.cache.length ≤ 900000) (l3 : d.bad.length ≤ 900000) :
    Calls Try.prog 24 #[v] w fun e w' => ∃ r, e = .returned (.tuple #[r, .int .i64 (VdM.atE d 0)]) ∧ OwnDisk w.heap.size w' r (VdM.flushD d) ∧ Grows w w' := callsIn_wide.1 (vflush_in 4 (Nat.le_refl _) v d w hv l1 l2 l3)
end Go.Proofs.Ytfcghkmhcfgfkaa
