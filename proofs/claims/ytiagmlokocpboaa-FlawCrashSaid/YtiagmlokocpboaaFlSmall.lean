/- FlSmall -/
import Derived.Test.YtiagmlokocpboaaFlRef
import Derived.Test.YtiagmlokocpboaaVdvCopy
import Derived.Test.YtiagmlokocpboaaVdWrite
import Derived.Test.YtiagmlokocpboaaCellSt
/- Layer 4's small answers: a disk in memory of its own, detached, attached; has it such a page? -/
namespace Go.Proofs.Ytiagmlokocpboaa
open Go.RowKit
set_option linter.unusedVariables false
set_option linter.unusedSimpArgs false
theorem results_dk {fn : Func} {p : Tmp} {w : World} {g : Nat} {D : Array Value} (h : fn.results = #[.cell p 26]) (tmps : Array Value) (hp : tmps.getD p undef = .pointer (some ⟨g, 0, none⟩)) (h4 : D.size = 4) (hr : Row w g 26 D) :
    (results fn tmps).run Try.prog w = .ok (.agg D) w := results_cell_row (p := p) h tmps w g 26 D (0, 0) _ hp hr Try.underlying26 rfl (by rw [h4]; exact disk_info)
set_option maxHeartbeats 1000000 in
/-- Has a disk such a page? -/
theorem flhas_any (v : Value) (d : Dk) (n : Int) (w : World) (hv : IsDisk w.heap.size w v d) : Calls Try.prog 26 #[v, .int .i64 n] w fun e w' => e = .returned (.bool (FlM.onDk d n)) ∧ Grows w w' := by
  obtain ⟨pv, cv, bv, rfl, hp, hc, hb⟩ := hv
  obtain ⟨A, cap, rfl, q1, q2, _⟩ := hp.form
  unfold maxLen at q2
  have HG := Lib.hid (Grows.alloc w (.cells #[.slice A d.pages.length cap, cv, bv, .bool d.off] 26))
  have ht0 : FlM.onDk d n = (decide (0 ≤ n) && decide (n < d.pages.length)) := rfl
  have HT := Lib.hid ht0
  generalize FlM.onDk d n = t at *
  clear ht0 hp hc hb
  generalize d.pages.length = len at *
  by_cases h1 : 0 ≤ n
  · by_cases h2 : n < len
    · obtain rfl : t = true := by rw [HT.out, decide_eq_true h1, decide_eq_true h2]; rfl
      go_enter Try.func26, Try.ntmps26
      go_wp2
      go_ret
      exact ⟨rfl, HG.out⟩
    · obtain rfl : t = false := by rw [HT.out, decide_eq_false h2, Bool.and_false]
      go_enter Try.func26, Try.ntmps26
      go_wp2
      go_ret
      exact ⟨rfl, HG.out⟩
  · obtain rfl : t = false := by rw [HT.out, decide_eq_false h1]; rfl
    go_enter Try.func26, Try.ntmps26
    go_wp2
    go_ret
    exact ⟨rfl, HG.out⟩
set_option maxRecDepth 20000 in
set_option maxHeartbeats 2000000 in
theorem flown_any (v : Value) (d : Dk) (w : World) (hv : IsDisk w.heap.size w v d) (l1 : d.pages.length ≤ 1000000) (l2 : d.cache.length ≤ 1000000) (l3 : d.bad.length ≤ 1000000) :
    Calls Try.prog 20 #[v] w fun e w' => ∃ r, e = .returned r ∧ OwnDisk w.heap.size w' r d ∧ Grows w w' := by
  have HV := Lib.hid hv; have L1 := Lib.hid l1; have L2 := Lib.hid l2; have L3 := Lib.hid l3
  obtain ⟨pv, cv, bv, rfl, hp, hc, hb⟩ := hv
  have HP := Lib.hid hp; have HC := Lib.hid hc; have HB := Lib.hid hb
  obtain ⟨AP, cP, rfl, _⟩ := hp.form
  obtain ⟨AC, cC, rfl, _⟩ := hc.form
  obtain ⟨AB, cB, rfl, _⟩ := hb.form
  clear hp hc hb l1 l2 l3
  obtain ⟨D, hD⟩ : ∃ D, D = #[Value.slice AP d.pages.length cP, .slice AC d.cache.length cC, .slice AB d.bad.length cB, .bool d.off] := ⟨_, rfl⟩
  have Ds : Hid (D.size = 4 ∧ D[0]? = some (.slice AP d.pages.length cP) ∧ D[1]? = some (.slice AC d.cache.length cC) ∧ D[2]? = some (.slice AB d.bad.length cB) ∧ D[3]? = some (.bool d.off)) := by subst hD; exact ⟨rfl, rfl, rfl, rfl, rfl⟩
  have HDe := Lib.hid hD
  rw [← hD] at HV ⊢
  clear hD
  have R1 := Lib.hid ((Row.new w 26 D).alloc (.cells noDk 26))
  have R2 : Hid (Row ((w.alloc (.cells D 26)).alloc (.cells noDk 26)) (w.heap.size + 1) 26 noDk) := by
    have := Row.new (w.alloc (.cells D 26)) 26 noDk
    rwa [World.size_alloc] at this
  have HG := Lib.hid ((Grows.alloc w (.cells D 26)).trans (Grows.alloc _ (.cells noDk 26)))
  unfold noDk at R1 R2 HG
  have HCc := Lib.hid (vcopy_any _ d _ (HV.out.grows HG.out) L1.out L2.out L3.out)
  go_enter Try.func20, Try.ntmps20
  go_wp2_with (first
    | ((with_reducible refine wpList_load_dk (o := ⟨some 3, _, _, _, _, _⟩) ?_ (.tmp 1) ?_ w.heap.size D ?_ ?_ ?_ ?_); exact rfl; exact rfl; exact rfl; exact R1.out; exact Ds.out.1)
    | (go_at_call 34; refine HCc.out.mono ?_; rintro e w2 ⟨r, rfl, hr, g2⟩; have HG2 := Lib.hid (HG.out.trans g2); have T2 := Lib.hid (Row.grows R2.out g2); obtain ⟨pv2, cv2, bv2, rfl, o1, o2, o3⟩ := hr; have HO := Lib.hid (OwnDisk.more (d := d) ⟨pv2, cv2, bv2, rfl, o1, o2, o3⟩ HG.out.size); have H41 := Lib.hid (dk_one HO.out.disk); clear o1 o2 o3 g2)
    | ((with_reducible refine wpList_store_dk ?_ (.tmp 2) (.tmp 4) ?_ (w.heap.size + 1) #[pv2, cv2, bv2, .bool d.off] #[.slice none 0 0, .slice none 0 0, .slice none 0 0, .bool false] ?_ ?_ ?_ ?_ ?_ ?_ ?_); exact rfl; exact rfl; exact rfl; exact rfl; exact rfl; exact rfl; exact H41.out.2; exact T2.out; intro w6 hw6 hg6))
  refine bodyPost_ret (results_dk (p := 2) (by exact rfl) _ (by exact rfl) (by exact rfl) hw6) rfl ?_
  exact ⟨_, rfl, HO.out.beside hg6 T2.out, HG2.out.grown hg6 HG2.out.size (fun k e => by cases e; omega)⟩
set_option maxRecDepth 20000 in
set_option maxHeartbeats 2000000 in
theorem fldetach_any (v : Value) (d : Dk) (w : World) (hv : IsDisk w.heap.size w v d) (l1 : d.pages.length ≤ 1000000) (l2 : d.cache.length ≤ 1000000) (l3 : d.bad.length ≤ 1000000) :
    Calls Try.prog 16 #[v] w fun e w' => ∃ r, e = .returned r ∧ OwnDisk w.heap.size w' r ⟨d.pages, [], d.bad, true⟩ ∧ Grows w w' := by
  have HV := Lib.hid hv; have L1 := Lib.hid l1; have L2 := Lib.hid l2; have L3 := Lib.hid l3
  obtain ⟨pv, cv, bv, rfl, hp, hc, hb⟩ := hv
  have HP := Lib.hid hp; have HC := Lib.hid hc; have HB := Lib.hid hb
  obtain ⟨AP, cP, rfl, _⟩ := hp.form
  obtain ⟨AC, cC, rfl, _⟩ := hc.form
  obtain ⟨AB, cB, rfl, _⟩ := hb.form
  clear hp hc hb l1 l2 l3
  obtain ⟨D, hD⟩ : ∃ D, D = #[Value.slice AP d.pages.length cP, .slice AC d.cache.length cC, .slice AB d.bad.length cB, .bool d.off] := ⟨_, rfl⟩
  have Ds : Hid (D.size = 4 ∧ D[0]? = some (.slice AP d.pages.length cP) ∧ D[1]? = some (.slice AC d.cache.length cC) ∧ D[2]? = some (.slice AB d.bad.length cB) ∧ D[3]? = some (.bool d.off)) := by subst hD; exact ⟨rfl, rfl, rfl, rfl, rfl⟩
  have HDe := Lib.hid hD
  rw [← hD] at HV ⊢
  clear hD
  have R1 := Lib.hid ((Row.new w 26 D).alloc (.cells noDk 26))
  have R2 : Hid (Row ((w.alloc (.cells D 26)).alloc (.cells noDk 26)) (w.heap.size + 1) 26 noDk) := by
    have := Row.new (w.alloc (.cells D 26)) 26 noDk
    rwa [World.size_alloc] at this
  have HG := Lib.hid ((Grows.alloc w (.cells D 26)).trans (Grows.alloc _ (.cells noDk 26)))
  unfold noDk at R1 R2 HG
  have HD2 : Hid (IsDisk ((w.alloc (.cells D 26)).alloc (.cells #[.slice none 0 0, .slice none 0 0, .slice none 0 0, .bool false] 26)).heap.size ((w.alloc (.cells D 26)).alloc (.cells #[.slice none 0 0, .slice none 0 0, .slice none 0 0, .bool false] 26)) (.agg #[.slice AP d.pages.length cP, .slice none 0 0, .slice AB d.bad.length cB, .bool true]) ⟨d.pages, [], d.bad, true⟩) := ⟨_, _, _, rfl, HP.out.grows HG.out, Els.nil _ _, HB.out.grows HG.out⟩
  have HCc := Lib.hid (flown_any _ ⟨d.pages, [], d.bad, true⟩ _ HD2.out L1.out (by simp) L3.out)
  have a0 : _ = some _ := (R1.out.cell 0).trans Ds.out.2.1
  have a2 : _ = some _ := (R1.out.cell 2).trans Ds.out.2.2.2.1
  go_enter Try.func16, Try.ntmps16
  go_wp2_with (first
    | (go_at_call 20; refine HCc.out.mono ?_; rintro e w2 ⟨r, rfl, hr, g2⟩; have HG2 := Lib.hid (HG.out.trans g2); have T2 := Lib.hid (Row.grows R2.out g2); obtain ⟨pv2, cv2, bv2, rfl, o1, o2, o3⟩ := hr; have HO := Lib.hid (OwnDisk.more (d := ⟨d.pages, [], d.bad, true⟩) ⟨pv2, cv2, bv2, rfl, o1, o2, o3⟩ HG.out.size); have H41 := Lib.hid (dk_one HO.out.disk); clear o1 o2 o3 g2)
    | ((with_reducible refine wpList_store_dk ?_ (.tmp 2) (.tmp 8) ?_ (w.heap.size + 1) #[pv2, cv2, bv2, .bool true] #[.slice none 0 0, .slice none 0 0, .slice none 0 0, .bool false] ?_ ?_ ?_ ?_ ?_ ?_ ?_); exact rfl; exact rfl; exact rfl; exact rfl; exact rfl; exact rfl; exact H41.out.2; exact T2.out; intro w6 hw6 hg6))
  refine bodyPost_ret (results_dk (p := 2) (by exact rfl) _ (by exact rfl) (by exact rfl) hw6) rfl ?_
  exact ⟨_, rfl, HO.out.beside hg6 T2.out, HG2.out.grown hg6 HG2.out.size (fun k e => by cases e; omega)⟩
set_option maxRecDepth 20000 in
set_option maxHeartbeats 2000000 in
theorem flattach_any (v : Value) (d : Dk) (w : World) (hv : IsDisk w.heap.size w v d) (l1 : d.pages.length ≤ 1000000) (l2 : d.cache.length ≤ 1000000) (l3 : d.bad.length ≤ 1000000) :
    Calls Try.prog 18 #[v] w fun e w' => ∃ r, e = .returned r ∧ OwnDisk w.heap.size w' r ⟨d.pages, d.cache, d.bad, false⟩ ∧ Grows w w' := by
  have HV := Lib.hid hv; have L1 := Lib.hid l1; have L2 := Lib.hid l2; have L3 := Lib.hid l3
  obtain ⟨pv, cv, bv, rfl, hp, hc, hb⟩ := hv
  have HP := Lib.hid hp; have HC := Lib.hid hc; have HB := Lib.hid hb
  obtain ⟨AP, cP, rfl, _⟩ := hp.form
  obtain ⟨AC, cC, rfl, _⟩ := hc.form
  obtain ⟨AB, cB, rfl, _⟩ := hb.form
  clear hp hc hb l1 l2 l3
  obtain ⟨D, hD⟩ : ∃ D, D = #[Value.slice AP d.pages.length cP, .slice AC d.cache.length cC, .slice AB d.bad.length cB, .bool d.off] := ⟨_, rfl⟩
  have Ds : Hid (D.size = 4 ∧ D[0]? = some (.slice AP d.pages.length cP) ∧ D[1]? = some (.slice AC d.cache.length cC) ∧ D[2]? = some (.slice AB d.bad.length cB) ∧ D[3]? = some (.bool d.off)) := by subst hD; exact ⟨rfl, rfl, rfl, rfl, rfl⟩
  have HDe := Lib.hid hD
  rw [← hD] at HV ⊢
  clear hD
  have R1 := Lib.hid ((Row.new w 26 D).alloc (.cells noDk 26))
  have R2 : Hid (Row ((w.alloc (.cells D 26)).alloc (.cells noDk 26)) (w.heap.size + 1) 26 noDk) := by
    have := Row.new (w.alloc (.cells D 26)) 26 noDk
    rwa [World.size_alloc] at this
  have HG := Lib.hid ((Grows.alloc w (.cells D 26)).trans (Grows.alloc _ (.cells noDk 26)))
  unfold noDk at R1 R2 HG
  have HDs : Hid (D.setIfInBounds 3 (.bool false) = #[.slice AP d.pages.length cP, .slice AC d.cache.length cC, .slice AB d.bad.length cB, .bool false]) := by unfold Hid; rw [HDe.out]; rfl
  go_enter Try.func18, Try.ntmps18
  go_wp2_with (first
    | ((with_reducible refine wpList_store_c ?_ 4 (.tmp 3) (.const (.bool false)) ?_ w.heap.size 3 (.bool false) D 26 ?_ ?_ ?_ ?_ ?_ ?_ ?_); exact rfl; exact rfl; exact rfl; exact rfl; exact rfl; exact one_off; exact R1.out; (rw [Ds.out.1]; decide); intro X S1 hgX; rw [HDs.out] at S1; have S1 := Lib.hid S1; have S2 := Lib.hid (R2.out.grown hgX (by simp)); have SG := Lib.hid (show Grows w X from HG.out.grown hgX HG.out.size (fun k e => by cases e; exact Nat.le_refl _)); have HD2 : Hid (IsDisk X.heap.size X (.agg #[.slice AP d.pages.length cP, .slice AC d.cache.length cC, .slice AB d.bad.length cB, .bool false]) ⟨d.pages, d.cache, d.bad, false⟩) := ⟨_, _, _, rfl, HP.out.grows SG.out, HC.out.grows SG.out, HB.out.grows SG.out⟩; have HCc := Lib.hid (flown_any _ ⟨d.pages, d.cache, d.bad, false⟩ _ HD2.out L1.out L2.out L3.out))
    | ((with_reducible refine wpList_load_dk (o := ⟨some 4, _, _, _, _, _⟩) ?_ (.tmp 1) ?_ w.heap.size #[.slice AP d.pages.length cP, .slice AC d.cache.length cC, .slice AB d.bad.length cB, .bool false] ?_ ?_ ?_ ?_); exact rfl; exact rfl; exact rfl; exact S1.out; exact rfl)
    | (go_at_call 20; refine HCc.out.mono ?_; rintro e w2 ⟨r, rfl, hr, g2⟩; have HG2 := Lib.hid (SG.out.trans g2); have T2 := Lib.hid (Row.grows S2.out g2); obtain ⟨pv2, cv2, bv2, rfl, o1, o2, o3⟩ := hr; have HO := Lib.hid (OwnDisk.more (d := ⟨d.pages, d.cache, d.bad, false⟩) ⟨pv2, cv2, bv2, rfl, o1, o2, o3⟩ SG.out.size); have H41 := Lib.hid (dk_one HO.out.disk); clear o1 o2 o3 g2)
    | ((with_reducible refine wpList_store_dk ?_ (.tmp 2) (.tmp 5) ?_ (w.heap.size + 1) #[pv2, cv2, bv2, .bool false] #[.slice none 0 0, .slice none 0 0, .slice none 0 0, .bool false] ?_ ?_ ?_ ?_ ?_ ?_ ?_); exact rfl; exact rfl; exact rfl; exact rfl; exact rfl; exact rfl; exact H41.out.2; exact T2.out; intro w6 hw6 hg6))
  refine bodyPost_ret (results_dk (p := 2) (by exact rfl) _ (by exact rfl) (by exact rfl) hw6) rfl ?_
  exact ⟨_, rfl, HO.out.beside hg6 T2.out, HG2.out.grown hg6 HG2.out.size (fun k e => by cases e; omega)⟩
end Go.Proofs.Ytiagmlokocpboaa
