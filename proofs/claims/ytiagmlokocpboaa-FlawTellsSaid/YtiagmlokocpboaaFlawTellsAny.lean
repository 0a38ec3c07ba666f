/- FlawTellsAny -/
import Derived.Test.YtiagmlokocpboaaFlLawM
import Derived.Test.YtiagmlokocpboaaFlCrashR
import Derived.Test.YtiagmlokocpboaaFlFlipR
import Derived.Test.YtiagmlokocpboaaFlSpoilR
import Derived.Test.YtiagmlokocpboaaFlDet
/- FlawTells: crashes, flips, spoiled pages, disks that go and come, as the document tells them. -/
namespace Go.Proofs.Ytiagmlokocpboaa
open Go.RowKit
set_option linter.unusedVariables false
set_option linter.unusedSimpArgs false
set_option maxRecDepth 100000 in
set_option maxHeartbeats 16000000 in
theorem flawTells_any (v : Value) (d : Dk) (pk : Value) (picks : List (BitVec 8)) (n o : Int) (b : BitVec 8) (w : World) (hv : IsDisk w.heap.size w v d) (hpk : Bytes w.heap.size w pk picks) (bn1 : -9223372036854775808 ≤ n) (bn2 : n ≤ 9223372036854775807) (bo1 : -9223372036854775808 ≤ o) (bo2 : o ≤ 9223372036854775807) :
    Calls Try.prog 3 #[v, pk, .int .i64 n, .int .i64 o, .int .u8 (bI b)] w fun e w' => e = .returned (.bool true) ∧ Below w.heap.size w w' := by
  have HPK := Lib.hid (fun W (g : Grows w W) => (show Bytes (World.heap W).size W pk picks from Bytes.more (Sl.below hpk g) g.size))
  obtain ⟨PK, cpk, rfl, k1, k2, _⟩ := hpk
  simp only [List.length_map] at k1 HPK ⊢
  have HV := Lib.hid hv
  obtain ⟨pv, cv, bv, rfl, hp, hc, hb⟩ := hv
  have HP := Lib.hid hp; have HC := Lib.hid hc; have HB := Lib.hid hb
  obtain ⟨AP, cP, rfl, p1, p2, p3⟩ := hp.form
  obtain ⟨AC, cC, rfl, q1, q2, q3⟩ := hc.form
  obtain ⟨AB, cB, rfl, b1, b2, b3⟩ := hb.ints
  have HPf := Lib.hid p3; have HCf := Lib.hid q3; have HBf := Lib.hid b3
  clear hp hc hb p3 q3 b3
  unfold maxLen at p2 q2 b2
  obtain ⟨D, hD⟩ : ∃ D, D = #[Value.slice AP d.pages.length cP, .slice AC d.cache.length cC, .slice AB d.bad.length cB, .bool d.off] := ⟨_, rfl⟩
  have Ds : Hid (D.size = 4 ∧ D[0]? = some (.slice AP d.pages.length cP) ∧ D[1]? = some (.slice AC d.cache.length cC) ∧ D[2]? = some (.slice AB d.bad.length cB) ∧ D[3]? = some (.bool d.off)) := by subst hD; exact ⟨rfl, rfl, rfl, rfl, rfl⟩
  have HDe := Lib.hid hD
  rw [← hD] at HV ⊢
  clear hD
  have R1 := Lib.hid (Row.new w 26 D)
  have HG := Lib.hid (Grows.alloc w (.cells D 26))
  have ZW0 : Hid ((w.alloc (.cells D 26)).heap.size = w.heap.size + 1) := by unfold Hid; simp
  have HGr := Lib.hid (fun W (h : IsDisk (World.heap W).size W (.agg D) d) => rgreat4_any _ d W h)
  by_cases hg : FlM.great d = true
  · rw [hg] at HGr
    clear hg
    go_enter Try.func3, Try.ntmps3
    go_wp2_with (first
      | ((with_reducible refine wpList_load_dk (o := ⟨some 19, _, _, _, _, _⟩) ?_ (.tmp 5) ?_ w.heap.size D ?_ ?_ ?_ ?_); exact rfl; exact rfl; exact rfl; exact R1.out; exact Ds.out.1)
      | (go_at_call 7; (with_reducible refine (HGr.out _ (HV.out.grows HG.out)).mono ?_); rintro e ku1 ⟨rfl, g⟩; have Zk0 := Lib.hid (Below.size g); have R_D_k1 := Lib.hid (Row.grows R1.out g); have G_k1 := Lib.hid ((HG.out).trans g); clear g)
      | (go_at_call 8; (with_reducible refine (wakes4_any _).mono ?_); rintro e ku2 ⟨rfl, g⟩; have Zk1 := Lib.hid (Below.size g); have R_D_k2 := Lib.hid (Row.grows R_D_k1.out g); have G_k2 := Lib.hid ((G_k1.out).trans g); clear g))
    go_ret
    exact ⟨rfl, G_k2.out⟩
  rw [Bool.eq_false_iff.2 hg] at HGr
  have hgp := FlM.great_not (Bool.eq_false_iff.2 hg)
  clear hg
  by_cases hlp : 80 < picks.length
  · have hlpi : (80 : Int) < picks.length := by omega
    clear hgp
    go_enter Try.func3, Try.ntmps3
    go_wp2_with (first
      | ((with_reducible refine wpList_load_dk (o := ⟨some 19, _, _, _, _, _⟩) ?_ (.tmp 5) ?_ w.heap.size D ?_ ?_ ?_ ?_); exact rfl; exact rfl; exact rfl; exact R1.out; exact Ds.out.1)
      | (go_at_call 7; (with_reducible refine (HGr.out _ (HV.out.grows HG.out)).mono ?_); rintro e ku1 ⟨rfl, g⟩; have Zk0 := Lib.hid (Below.size g); have R_D_k1 := Lib.hid (Row.grows R1.out g); have G_k1 := Lib.hid ((HG.out).trans g); clear g)
      | (go_at_call 8; (with_reducible refine (wakes4_any _).mono ?_); rintro e ku2 ⟨rfl, g⟩; have Zk1 := Lib.hid (Below.size g); have R_D_k2 := Lib.hid (Row.grows R_D_k1.out g); have G_k2 := Lib.hid ((G_k1.out).trans g); clear g))
    go_ret
    exact ⟨rfl, G_k2.out⟩
  have hlpi : ¬ (80 : Int) < picks.length := by omega
  have HGP := Lib.hid hgp
  have HLP : Hid (picks.length ≤ 900000) := by unfold Hid; omega
  clear hgp
  have L1 : Hid (d.pages.length ≤ 900000) := by have := HGP.out.2.1; unfold Hid; omega
  have L2 : Hid (d.cache.length ≤ 900000) := by have := HGP.out.2.2.1; unfold Hid; omega
  have L3 : Hid (d.bad.length ≤ 800000) := by have := HGP.out.2.2.2; unfold Hid; omega
  have M1 : Hid (d.pages.length ≤ 1000000) := by have := L1.out; unfold Hid; omega
  have M2 : Hid (d.cache.length ≤ 1000000) := by have := L2.out; unfold Hid; omega
  have M3 : Hid (d.bad.length ≤ 1000000) := by have := L3.out; unfold Hid; omega
  have M4 : Hid (d.bad.length ≤ 900000) := by have := L3.out; unfold Hid; omega
  have F1 := Lib.hid (fun W (h : IsDisk (World.heap W).size W (.agg D) d) => flflip_any _ d n o b W h M1.out M2.out M3.out)
  have F2 := Lib.hid (fun W (h : IsDisk (World.heap W).size W (.agg D) d) => rflip_any _ d n o b W h M1.out M2.out M3.out)
  have S1 := Lib.hid (fun W (h : IsDisk (World.heap W).size W (.agg D) d) => flspoil_any _ d n W h M1.out M2.out M4.out HGP.out.1)
  have S2 := Lib.hid (fun W (h : IsDisk (World.heap W).size W (.agg D) d) => rspoil_any _ d n W h M1.out M2.out L3.out HGP.out.1)
  have C1 := Lib.hid (fun W (h : IsDisk (World.heap W).size W (.agg D) d) (hp : Bytes (World.heap W).size W _ picks) => flcrash_any _ (.slice PK picks.length cpk) d picks W h hp L1.out L2.out M4.out HLP.out)
  have C2 := Lib.hid (fun W (h : IsDisk (World.heap W).size W (.agg D) d) (hp : Bytes (World.heap W).size W _ picks) => rcrash_any _ (.slice PK picks.length cpk) d picks W h hp M1.out L2.out M4.out HLP.out)
  have D1 := Lib.hid (fun W (h : IsDisk (World.heap W).size W (.agg D) d) => fldetach_any _ d W h M1.out M2.out M3.out)
  have D2 := Lib.hid (fun W (h : IsDisk (World.heap W).size W (.agg D) d) => rdetach_any _ d W h M1.out M2.out M3.out)
  have A1 := Lib.hid (fun W (h : IsDisk (World.heap W).size W (.agg D) d) => flattach_any _ d W h M1.out M2.out M3.out)
  have A2 := Lib.hid (fun W (h : IsDisk (World.heap W).size W (.agg D) d) => rattach_any _ d W h M1.out M2.out M3.out)
  have O1 := Lib.hid (fun W (h : IsDisk (World.heap W).size W (.agg D) d) => flown_any _ d W h M1.out M2.out M3.out)
  generalize FlM.flipD d n o b = df at *
  generalize FlM.flipE d n o = ef at *
  generalize FlM.spoilD d n = ds at *
  generalize FlM.spoilE d n = es at *
  generalize FlM.crashD d picks = dc at *
  generalize (⟨d.pages, [], d.bad, true⟩ : Dk) = dd at *
  generalize (⟨d.pages, d.cache, d.bad, false⟩ : Dk) = da at *
  go_enter Try.func3, Try.ntmps3
  go_wp2_with (first
    | ((with_reducible refine wpList_load_dk (o := ⟨some 19, _, _, _, _, _⟩) ?_ (.tmp 5) ?_ w.heap.size D ?_ ?_ ?_ ?_); exact rfl; exact rfl; exact rfl; exact R1.out; exact Ds.out.1)
    | (go_at_call 7; (with_reducible refine (HGr.out _ (HV.out.grows HG.out)).mono ?_); rintro e ku1 ⟨rfl, g⟩; have Zk0 := Lib.hid (Below.size g); have R_D_k1 := Lib.hid (Row.grows R1.out g); have G_k1 := Lib.hid ((HG.out).trans g); clear g)
    | ((with_reducible refine wpList_load_dk (o := ⟨some 28, _, _, _, _, _⟩) ?_ (.tmp 5) ?_ w.heap.size D ?_ ?_ ?_ ?_); exact rfl; exact rfl; exact rfl; exact R_D_k1.out; exact Ds.out.1)
    | (go_at_call 9; (with_reducible refine (F1.out _ (HV.out.grows G_k1.out)).mono ?_); rintro e ku2 ⟨r, rfl, hr, g⟩; obtain ⟨pva, cva, bva, rfl, o1, o2, o3⟩ := hr; have hoc : OwnDisk w.heap.size ku2 (.agg #[pva, cva, bva, .bool df.off]) df := (OwnDisk.more ⟨_, _, _, rfl, o1, o2, o3⟩ (G_k1.out).size); have H4a := Lib.hid (dk_one hoc.disk); clear o1 o2 o3; have Zk1 := Lib.hid (Below.size g); have R_D_k2 := Lib.hid (Row.grows R_D_k1.out g); have G_k2 := Lib.hid ((G_k1.out).trans g); have O_oa_new := Lib.hid (hoc); clear g)
    | ((with_reducible refine wpList_store_dk ?_ (.tmp 11) (.tmp 33) ?_ ku2.heap.size #[pva, cva, bva, .bool df.off] #[.slice none 0 0, .slice none 0 0, .slice none 0 0, .bool false] ?_ ?_ ?_ ?_ ?_ ?_ ?_); exact rfl; exact rfl; exact rfl; exact rfl; exact H4a.out.1; exact rfl; exact H4a.out.2; exact Row.new ku2 _ _; intro ku3 hp hg; have g := grown_fresh rfl hg; have R_D_k3 := Lib.hid (Row.grows R_D_k2.out g); have O_oa_k3 := Lib.hid (O_oa_new.out.grows g); have G_k3 := Lib.hid ((G_k2.out).trans g); have R_Ba_new := Lib.hid hp; have Zk2 := Lib.hid (Row.lt hp); have Zk3 := Lib.hid (Below.size g); clear hp hg g)
    | ((with_reducible refine wpList_load_dk (o := ⟨some 36, _, _, _, _, _⟩) ?_ (.tmp 5) ?_ w.heap.size D ?_ ?_ ?_ ?_); exact rfl; exact rfl; exact rfl; exact R_D_k3.out; exact Ds.out.1)
    | (go_at_call 10; (with_reducible refine (F2.out _ (HV.out.grows G_k3.out)).mono ?_); rintro e ku4 ⟨r, rfl, hr, g⟩; obtain ⟨pvb, cvb, bvb, rfl, o1, o2, o3⟩ := hr; have hoc : OwnDisk w.heap.size ku4 (.agg #[pvb, cvb, bvb, .bool df.off]) df := (OwnDisk.more ⟨_, _, _, rfl, o1, o2, o3⟩ (G_k3.out).size); have H4b := Lib.hid (dk_one hoc.disk); clear o1 o2 o3; have Zk4 := Lib.hid (Below.size g); have R_D_k4 := Lib.hid (Row.grows R_D_k3.out g); have R_Ba_k4 := Lib.hid (Row.grows R_Ba_new.out g); have O_oa_k4 := Lib.hid (O_oa_k3.out.grows g); have G_k4 := Lib.hid ((G_k3.out).trans g); have O_ob_new := Lib.hid (hoc); clear g)
    | ((with_reducible refine wpList_store_dk ?_ (.tmp 13) (.tmp 41) ?_ ku4.heap.size #[pvb, cvb, bvb, .bool df.off] #[.slice none 0 0, .slice none 0 0, .slice none 0 0, .bool false] ?_ ?_ ?_ ?_ ?_ ?_ ?_); exact rfl; exact rfl; exact rfl; exact rfl; exact H4b.out.1; exact rfl; exact H4b.out.2; exact Row.new ku4 _ _; intro ku5 hp hg; have g := grown_fresh rfl hg; have R_D_k5 := Lib.hid (Row.grows R_D_k4.out g); have R_Ba_k5 := Lib.hid (Row.grows R_Ba_k4.out g); have O_oa_k5 := Lib.hid (O_oa_k4.out.grows g); have O_ob_k5 := Lib.hid (O_ob_new.out.grows g); have G_k5 := Lib.hid ((G_k4.out).trans g); have R_Bb_new := Lib.hid hp; have Zk5 := Lib.hid (Row.lt hp); have Zk6 := Lib.hid (Below.size g); clear hp hg g)
    | ((with_reducible refine wpList_load_dk (o := ⟨some 44, _, _, _, _, _⟩) ?_ (.tmp 5) ?_ w.heap.size D ?_ ?_ ?_ ?_); exact rfl; exact rfl; exact rfl; exact R_D_k5.out; exact Ds.out.1)
    | (go_at_call 11; (with_reducible refine (S1.out _ (HV.out.grows G_k5.out)).mono ?_); rintro e ku6 ⟨r, rfl, hr, g⟩; obtain ⟨pvc, cvc, bvc, rfl, o1, o2, o3⟩ := hr; have hoc : OwnDisk w.heap.size ku6 (.agg #[pvc, cvc, bvc, .bool ds.off]) ds := (OwnDisk.more ⟨_, _, _, rfl, o1, o2, o3⟩ (G_k5.out).size); have H4c := Lib.hid (dk_one hoc.disk); clear o1 o2 o3; have Zk7 := Lib.hid (Below.size g); have R_D_k6 := Lib.hid (Row.grows R_D_k5.out g); have R_Ba_k6 := Lib.hid (Row.grows R_Ba_k5.out g); have R_Bb_k6 := Lib.hid (Row.grows R_Bb_new.out g); have O_oa_k6 := Lib.hid (O_oa_k5.out.grows g); have O_ob_k6 := Lib.hid (O_ob_k5.out.grows g); have G_k6 := Lib.hid ((G_k5.out).trans g); have O_oc_new := Lib.hid (hoc); clear g)
    | ((with_reducible refine wpList_store_dk ?_ (.tmp 15) (.tmp 47) ?_ ku6.heap.size #[pvc, cvc, bvc, .bool ds.off] #[.slice none 0 0, .slice none 0 0, .slice none 0 0, .bool false] ?_ ?_ ?_ ?_ ?_ ?_ ?_); exact rfl; exact rfl; exact rfl; exact rfl; exact H4c.out.1; exact rfl; exact H4c.out.2; exact Row.new ku6 _ _; intro ku7 hp hg; have g := grown_fresh rfl hg; have R_D_k7 := Lib.hid (Row.grows R_D_k6.out g); have R_Ba_k7 := Lib.hid (Row.grows R_Ba_k6.out g); have R_Bb_k7 := Lib.hid (Row.grows R_Bb_k6.out g); have O_oa_k7 := Lib.hid (O_oa_k6.out.grows g); have O_ob_k7 := Lib.hid (O_ob_k6.out.grows g); have O_oc_k7 := Lib.hid (O_oc_new.out.grows g); have G_k7 := Lib.hid ((G_k6.out).trans g); have R_Bc_new := Lib.hid hp; have Zk8 := Lib.hid (Row.lt hp); have Zk9 := Lib.hid (Below.size g); clear hp hg g)
    | ((with_reducible refine wpList_load_dk (o := ⟨some 50, _, _, _, _, _⟩) ?_ (.tmp 5) ?_ w.heap.size D ?_ ?_ ?_ ?_); exact rfl; exact rfl; exact rfl; exact R_D_k7.out; exact Ds.out.1)
    | (go_at_call 12; (with_reducible refine (S2.out _ (HV.out.grows G_k7.out)).mono ?_); rintro e ku8 ⟨r, rfl, hr, g⟩; obtain ⟨pve, cve, bve, rfl, o1, o2, o3⟩ := hr; have hoc : OwnDisk w.heap.size ku8 (.agg #[pve, cve, bve, .bool ds.off]) ds := (OwnDisk.more ⟨_, _, _, rfl, o1, o2, o3⟩ (G_k7.out).size); have H4e := Lib.hid (dk_one hoc.disk); clear o1 o2 o3; have Zk10 := Lib.hid (Below.size g); have R_D_k8 := Lib.hid (Row.grows R_D_k7.out g); have R_Ba_k8 := Lib.hid (Row.grows R_Ba_k7.out g); have R_Bb_k8 := Lib.hid (Row.grows R_Bb_k7.out g); have R_Bc_k8 := Lib.hid (Row.grows R_Bc_new.out g); have O_oa_k8 := Lib.hid (O_oa_k7.out.grows g); have O_ob_k8 := Lib.hid (O_ob_k7.out.grows g); have O_oc_k8 := Lib.hid (O_oc_k7.out.grows g); have G_k8 := Lib.hid ((G_k7.out).trans g); have O_oe_new := Lib.hid (hoc); clear g)
    | ((with_reducible refine wpList_store_dk ?_ (.tmp 17) (.tmp 53) ?_ ku8.heap.size #[pve, cve, bve, .bool ds.off] #[.slice none 0 0, .slice none 0 0, .slice none 0 0, .bool false] ?_ ?_ ?_ ?_ ?_ ?_ ?_); exact rfl; exact rfl; exact rfl; exact rfl; exact H4e.out.1; exact rfl; exact H4e.out.2; exact Row.new ku8 _ _; intro ku9 hp hg; have g := grown_fresh rfl hg; have R_D_k9 := Lib.hid (Row.grows R_D_k8.out g); have R_Ba_k9 := Lib.hid (Row.grows R_Ba_k8.out g); have R_Bb_k9 := Lib.hid (Row.grows R_Bb_k8.out g); have R_Bc_k9 := Lib.hid (Row.grows R_Bc_k8.out g); have O_oa_k9 := Lib.hid (O_oa_k8.out.grows g); have O_ob_k9 := Lib.hid (O_ob_k8.out.grows g); have O_oc_k9 := Lib.hid (O_oc_k8.out.grows g); have O_oe_k9 := Lib.hid (O_oe_new.out.grows g); have G_k9 := Lib.hid ((G_k8.out).trans g); have R_Be_new := Lib.hid hp; have Zk11 := Lib.hid (Row.lt hp); have Zk12 := Lib.hid (Below.size g); clear hp hg g)
    | ((with_reducible refine wpList_load_dk (o := ⟨some 55, _, _, _, _, _⟩) ?_ (.tmp 11) ?_ ku2.heap.size #[pva, cva, bva, .bool df.off] ?_ ?_ ?_ ?_); exact rfl; exact rfl; exact rfl; exact R_Ba_k9.out; exact H4a.out.1)
    | ((with_reducible refine wpList_load_dk (o := ⟨some 56, _, _, _, _, _⟩) ?_ (.tmp 13) ?_ ku4.heap.size #[pvb, cvb, bvb, .bool df.off] ?_ ?_ ?_ ?_); exact rfl; exact rfl; exact rfl; exact R_Bb_k9.out; exact H4b.out.1)
    | (go_at_call 13; (with_reducible refine (same_true (O_oa_k9.out.disk) (O_ob_k9.out.disk)).mono ?_); rintro e ku10 ⟨rfl, g⟩; have Zk13 := Lib.hid (Below.size g); have R_D_k10 := Lib.hid (Row.grows R_D_k9.out g); have R_Ba_k10 := Lib.hid (Row.grows R_Ba_k9.out g); have R_Bb_k10 := Lib.hid (Row.grows R_Bb_k9.out g); have R_Bc_k10 := Lib.hid (Row.grows R_Bc_k9.out g); have R_Be_k10 := Lib.hid (Row.grows R_Be_new.out g); have O_oa_k10 := Lib.hid (O_oa_k9.out.grows g); have O_ob_k10 := Lib.hid (O_ob_k9.out.grows g); have O_oc_k10 := Lib.hid (O_oc_k9.out.grows g); have O_oe_k10 := Lib.hid (O_oe_k9.out.grows g); have G_k10 := Lib.hid ((G_k9.out).trans g); clear g)
    | ((with_reducible refine wpList_loadG_dk (o := ⟨some 65, _, _, _, _, _⟩) ?_ (.tmp 15) ?_ ku6.heap.size #[pvc, cvc, bvc, .bool ds.off] ?_ ?_ ?_ ?_); exact rfl; exact rfl; exact rfl; exact R_Bc_k10.out; exact H4c.out.1)
    | ((with_reducible refine wpList_loadG_dk (o := ⟨some 66, _, _, _, _, _⟩) ?_ (.tmp 17) ?_ ku8.heap.size #[pve, cve, bve, .bool ds.off] ?_ ?_ ?_ ?_); exact rfl; exact rfl; exact rfl; exact R_Be_k10.out; exact H4e.out.1)
    | (go_at_call 13; (with_reducible refine (same_true (O_oc_k10.out.disk) (O_oe_k10.out.disk)).mono ?_); rintro e ku11 ⟨rfl, g⟩; have Zk14 := Lib.hid (Below.size g); have R_D_k11 := Lib.hid (Row.grows R_D_k10.out g); have R_Ba_k11 := Lib.hid (Row.grows R_Ba_k10.out g); have R_Bb_k11 := Lib.hid (Row.grows R_Bb_k10.out g); have R_Bc_k11 := Lib.hid (Row.grows R_Bc_k10.out g); have R_Be_k11 := Lib.hid (Row.grows R_Be_k10.out g); have O_oa_k11 := Lib.hid (O_oa_k10.out.grows g); have O_ob_k11 := Lib.hid (O_ob_k10.out.grows g); have O_oc_k11 := Lib.hid (O_oc_k10.out.grows g); have O_oe_k11 := Lib.hid (O_oe_k10.out.grows g); have G_k11 := Lib.hid ((G_k10.out).trans g); clear g))
  refine wp_region_free 30 105 (by kernel_rfl) (by kernel_rfl) rfl (by kernel_rfl) ?_; simp only [List.take_succ_cons, List.take_zero, List.drop_succ_cons, List.drop_zero]
  refine free_op (fun v_ _ => v_ = .agg D) rfl (val_mono _) (fun vs wq hg hd => does_load 26 (.tmp 5) ⟨w.heap.size, 0, none⟩ _ rfl (by first | rfl | (conv => lhs; whnf)) (dk_run_load Ds.out.1 ((R_D_k11.out).grows (Grows.of_drew hg))) ⟨Grows.refl _, rfl⟩) ?_
  repeat (apply free_pure rfl; focus (intro vs w hg hd;  (try simp [Region.binds] at hd); simp only [execOp, resolve, Option.map_some, Option.map_none, List.map_toArray, List.map_cons, List.map_nil, rho_const, rho_func]; (repeat (conv in rho _ _ _ _ (Operand.tmp _) => whnf)); (try simp only [hd]); go_simp; (repeat (conv in rho _ _ _ _ (Operand.tmp _) => whnf)); (try simp only [hd]); rfl))
  refine free_op (ADisk dc) rfl (ADisk.mono _) (fun vs wq hg hd => by
    (try simp [Region.binds] at hd); simp only [Does]; simp only [execOp, resolve, Option.map_some, Option.map_none, List.map_toArray, List.map_cons, List.map_nil, rho_const, rho_func]; (repeat (conv in rho _ _ _ _ (Operand.tmp _) => whnf)); (try simp only [hd]); go_simp; (repeat (conv in rho _ _ _ _ (Operand.tmp _) => whnf))
    exact (C1.out _ (HV.out.grows ((G_k11.out).trans (Grows.of_drew hg))) (HPK.out _ ((G_k11.out).trans (Grows.of_drew hg)))).mono fun e w' h => yieldsD h) ?_
  refine free_op (fun v_ _ => v_ = .agg D) rfl (val_mono _) (fun vs wq hg hd => does_load 26 (.tmp 5) ⟨w.heap.size, 0, none⟩ _ rfl (by first | rfl | (conv => lhs; whnf)) (dk_run_load Ds.out.1 ((R_D_k11.out).grows (Grows.of_drew hg))) ⟨Grows.refl _, rfl⟩) ?_
  repeat (apply free_pure rfl; focus (intro vs w hg hd;  (try simp [Region.binds] at hd); simp only [execOp, resolve, Option.map_some, Option.map_none, List.map_toArray, List.map_cons, List.map_nil, rho_const, rho_func]; (repeat (conv in rho _ _ _ _ (Operand.tmp _) => whnf)); (try simp only [hd]); go_simp; (repeat (conv in rho _ _ _ _ (Operand.tmp _) => whnf)); (try simp only [hd]); rfl))
  refine free_op (ADisk dc) rfl (ADisk.mono _) (fun vs wq hg hd => by
    (try simp [Region.binds] at hd); simp only [Does]; simp only [execOp, resolve, Option.map_some, Option.map_none, List.map_toArray, List.map_cons, List.map_nil, rho_const, rho_func]; (repeat (conv in rho _ _ _ _ (Operand.tmp _) => whnf)); (try simp only [hd]); go_simp; (repeat (conv in rho _ _ _ _ (Operand.tmp _) => whnf))
    exact (C2.out _ (HV.out.grows ((G_k11.out).trans (Grows.of_drew hg))) (HPK.out _ ((G_k11.out).trans (Grows.of_drew hg)))).mono fun e w' h => yieldsD h) ?_
  refine free_op (fun v_ _ => v_ = .bool true) rfl (val_mono _) (fun vs wq hg hd => by
    (try simp [Region.binds] at hd); simp only [Does]; simp only [execOp, resolve, Option.map_some, Option.map_none, List.map_toArray, List.map_cons, List.map_nil, rho_const, rho_func]; (repeat (conv in rho _ _ _ _ (Operand.tmp _) => whnf)); (try simp only [hd]); go_simp; (repeat (conv in rho _ _ _ _ (Operand.tmp _) => whnf))
    exact same_true hd.1.is hd.2.is) ?_
  repeat (apply free_pure rfl; focus (intro vs w hg hd;  (try simp [Region.binds] at hd); simp only [execOp, resolve, Option.map_some, Option.map_none, List.map_toArray, List.map_cons, List.map_nil, rho_const, rho_func]; (repeat (conv in rho _ _ _ _ (Operand.tmp _) => whnf)); (try simp only [hd]); go_simp; (repeat (conv in rho _ _ _ _ (Operand.tmp _) => whnf)); (try simp only [hd]); rfl))
  refine free_guarded (fun v_ _ => v_ = .agg D) (val_mono _) (fun vs wq hg hd => by
    simp [Region.binds] at hd
    refine ⟨?_, ?_⟩
    · simp [Region.wanted, yieldR]
      (repeat (conv in rho _ _ _ _ (Operand.tmp _) => whnf))
      simp [hd]
    · exact does_load 26 (.tmp 5) ⟨w.heap.size, 0, none⟩ _ rfl (by first | rfl | (conv => lhs; whnf)) (dk_run_load Ds.out.1 ((R_D_k11.out).grows (Grows.of_drew hg))) ⟨Grows.refl _, rfl⟩) ?_
  refine free_guarded (ADisk dd) (ADisk.mono _) (fun vs wq hg hd => by
    simp [Region.binds] at hd
    refine ⟨?_, ?_⟩
    · simp [Region.wanted, yieldR]
      (repeat (conv in rho _ _ _ _ (Operand.tmp _) => whnf))
      simp [hd]
    · simp only [Does]
      simp only [execOp, resolve, Option.map_some, Option.map_none, List.map_toArray, List.map_cons, List.map_nil, rho_const, rho_func]
      (repeat (conv in rho _ _ _ _ (Operand.tmp _) => whnf))
      (try simp only [hd])
      go_simp
      (repeat (conv in rho _ _ _ _ (Operand.tmp _) => whnf))
      exact (D1.out _ (HV.out.grows ((G_k11.out).trans (Grows.of_drew hg)))).mono fun e w' h => yieldsD h) ?_
  refine free_guarded (fun v_ _ => v_ = .agg D) (val_mono _) (fun vs wq hg hd => by
    simp [Region.binds] at hd
    refine ⟨?_, ?_⟩
    · simp [Region.wanted, yieldR]
      (repeat (conv in rho _ _ _ _ (Operand.tmp _) => whnf))
      simp [hd]
    · exact does_load 26 (.tmp 5) ⟨w.heap.size, 0, none⟩ _ rfl (by first | rfl | (conv => lhs; whnf)) (dk_run_load Ds.out.1 ((R_D_k11.out).grows (Grows.of_drew hg))) ⟨Grows.refl _, rfl⟩) ?_
  refine free_guarded (ADisk dd) (ADisk.mono _) (fun vs wq hg hd => by
    simp [Region.binds] at hd
    refine ⟨?_, ?_⟩
    · simp [Region.wanted, yieldR]
      (repeat (conv in rho _ _ _ _ (Operand.tmp _) => whnf))
      simp [hd]
    · simp only [Does]
      simp only [execOp, resolve, Option.map_some, Option.map_none, List.map_toArray, List.map_cons, List.map_nil, rho_const, rho_func]
      (repeat (conv in rho _ _ _ _ (Operand.tmp _) => whnf))
      (try simp only [hd])
      go_simp
      (repeat (conv in rho _ _ _ _ (Operand.tmp _) => whnf))
      exact (D2.out _ (HV.out.grows ((G_k11.out).trans (Grows.of_drew hg)))).mono fun e w' h => yieldsD h) ?_
  refine free_guarded (fun v_ _ => v_ = .bool true) (val_mono _) (fun vs wq hg hd => by
    simp [Region.binds] at hd
    refine ⟨?_, ?_⟩
    · simp [Region.wanted, yieldR]
      (repeat (conv in rho _ _ _ _ (Operand.tmp _) => whnf))
      simp [hd]
    · simp only [Does]
      simp only [execOp, resolve, Option.map_some, Option.map_none, List.map_toArray, List.map_cons, List.map_nil, rho_const, rho_func]
      (repeat (conv in rho _ _ _ _ (Operand.tmp _) => whnf))
      (try simp only [hd])
      go_simp
      (repeat (conv in rho _ _ _ _ (Operand.tmp _) => whnf))
      exact same_true hd.1.is hd.2.1.is) ?_
  repeat (apply free_pure rfl; focus (intro vs w hg hd;  (try simp [Region.binds] at hd); simp only [execOp, resolve, Option.map_some, Option.map_none, List.map_toArray, List.map_cons, List.map_nil, rho_const, rho_func]; (repeat (conv in rho _ _ _ _ (Operand.tmp _) => whnf)); (try simp only [hd]); go_simp; (repeat (conv in rho _ _ _ _ (Operand.tmp _) => whnf)); (try simp only [hd]); rfl))
  refine free_guarded (fun v_ _ => v_ = .agg D) (val_mono _) (fun vs wq hg hd => by
    simp [Region.binds] at hd
    refine ⟨?_, ?_⟩
    · simp [Region.wanted, yieldR]
      (repeat (conv in rho _ _ _ _ (Operand.tmp _) => whnf))
      simp [hd]
    · exact does_load 26 (.tmp 5) ⟨w.heap.size, 0, none⟩ _ rfl (by first | rfl | (conv => lhs; whnf)) (dk_run_load Ds.out.1 ((R_D_k11.out).grows (Grows.of_drew hg))) ⟨Grows.refl _, rfl⟩) ?_
  refine free_guarded (ADisk da) (ADisk.mono _) (fun vs wq hg hd => by
    simp [Region.binds] at hd
    refine ⟨?_, ?_⟩
    · simp [Region.wanted, yieldR]
      (repeat (conv in rho _ _ _ _ (Operand.tmp _) => whnf))
      simp [hd]
    · simp only [Does]
      simp only [execOp, resolve, Option.map_some, Option.map_none, List.map_toArray, List.map_cons, List.map_nil, rho_const, rho_func]
      (repeat (conv in rho _ _ _ _ (Operand.tmp _) => whnf))
      (try simp only [hd])
      go_simp
      (repeat (conv in rho _ _ _ _ (Operand.tmp _) => whnf))
      exact (A1.out _ (HV.out.grows ((G_k11.out).trans (Grows.of_drew hg)))).mono fun e w' h => yieldsD h) ?_
  refine free_guarded (fun v_ _ => v_ = .agg D) (val_mono _) (fun vs wq hg hd => by
    simp [Region.binds] at hd
    refine ⟨?_, ?_⟩
    · simp [Region.wanted, yieldR]
      (repeat (conv in rho _ _ _ _ (Operand.tmp _) => whnf))
      simp [hd]
    · exact does_load 26 (.tmp 5) ⟨w.heap.size, 0, none⟩ _ rfl (by first | rfl | (conv => lhs; whnf)) (dk_run_load Ds.out.1 ((R_D_k11.out).grows (Grows.of_drew hg))) ⟨Grows.refl _, rfl⟩) ?_
  refine free_guarded (ADisk da) (ADisk.mono _) (fun vs wq hg hd => by
    simp [Region.binds] at hd
    refine ⟨?_, ?_⟩
    · simp [Region.wanted, yieldR]
      (repeat (conv in rho _ _ _ _ (Operand.tmp _) => whnf))
      simp [hd]
    · simp only [Does]
      simp only [execOp, resolve, Option.map_some, Option.map_none, List.map_toArray, List.map_cons, List.map_nil, rho_const, rho_func]
      (repeat (conv in rho _ _ _ _ (Operand.tmp _) => whnf))
      (try simp only [hd])
      go_simp
      (repeat (conv in rho _ _ _ _ (Operand.tmp _) => whnf))
      exact (A2.out _ (HV.out.grows ((G_k11.out).trans (Grows.of_drew hg)))).mono fun e w' h => yieldsD h) ?_
  refine free_guarded (fun v_ _ => v_ = .bool true) (val_mono _) (fun vs wq hg hd => by
    simp [Region.binds] at hd
    refine ⟨?_, ?_⟩
    · simp [Region.wanted, yieldR]
      (repeat (conv in rho _ _ _ _ (Operand.tmp _) => whnf))
      simp [hd]
    · simp only [Does]
      simp only [execOp, resolve, Option.map_some, Option.map_none, List.map_toArray, List.map_cons, List.map_nil, rho_const, rho_func]
      (repeat (conv in rho _ _ _ _ (Operand.tmp _) => whnf))
      (try simp only [hd])
      go_simp
      (repeat (conv in rho _ _ _ _ (Operand.tmp _) => whnf))
      exact same_true hd.1.is hd.2.1.is) ?_
  repeat (apply free_pure rfl; focus (intro vs w hg hd;  (try simp [Region.binds] at hd); simp only [execOp, resolve, Option.map_some, Option.map_none, List.map_toArray, List.map_cons, List.map_nil, rho_const, rho_func]; (repeat (conv in rho _ _ _ _ (Operand.tmp _) => whnf)); (try simp only [hd]); go_simp; (repeat (conv in rho _ _ _ _ (Operand.tmp _) => whnf)); (try simp only [hd]); rfl))
  refine free_guarded (fun v_ _ => v_ = .agg D) (val_mono _) (fun vs wq hg hd => by
    simp [Region.binds] at hd
    refine ⟨?_, ?_⟩
    · simp [Region.wanted, yieldR]
      (repeat (conv in rho _ _ _ _ (Operand.tmp _) => whnf))
      simp [hd]
    · exact does_load 26 (.tmp 5) ⟨w.heap.size, 0, none⟩ _ rfl (by first | rfl | (conv => lhs; whnf)) (dk_run_load Ds.out.1 ((R_D_k11.out).grows (Grows.of_drew hg))) ⟨Grows.refl _, rfl⟩) ?_
  refine free_guarded (ADisk d) (ADisk.mono _) (fun vs wq hg hd => by
    simp [Region.binds] at hd
    refine ⟨?_, ?_⟩
    · simp [Region.wanted, yieldR]
      (repeat (conv in rho _ _ _ _ (Operand.tmp _) => whnf))
      simp [hd]
    · simp only [Does]
      simp only [execOp, resolve, Option.map_some, Option.map_none, List.map_toArray, List.map_cons, List.map_nil, rho_const, rho_func]
      (repeat (conv in rho _ _ _ _ (Operand.tmp _) => whnf))
      (try simp only [hd])
      go_simp
      (repeat (conv in rho _ _ _ _ (Operand.tmp _) => whnf))
      exact (O1.out _ (HV.out.grows ((G_k11.out).trans (Grows.of_drew hg)))).mono fun e w' h => yieldsD h) ?_
  refine free_guarded (fun v_ _ => v_ = .agg D) (val_mono _) (fun vs wq hg hd => by
    simp [Region.binds] at hd
    refine ⟨?_, ?_⟩
    · simp [Region.wanted, yieldR]
      (repeat (conv in rho _ _ _ _ (Operand.tmp _) => whnf))
      simp [hd]
    · exact does_load 26 (.tmp 5) ⟨w.heap.size, 0, none⟩ _ rfl (by first | rfl | (conv => lhs; whnf)) (dk_run_load Ds.out.1 ((R_D_k11.out).grows (Grows.of_drew hg))) ⟨Grows.refl _, rfl⟩) ?_
  refine free_guarded (fun v_ _ => v_ = .bool true) (val_mono _) (fun vs wq hg hd => by
    simp [Region.binds] at hd
    refine ⟨?_, ?_⟩
    · simp [Region.wanted, yieldR]
      (repeat (conv in rho _ _ _ _ (Operand.tmp _) => whnf))
      simp [hd]
    · simp only [Does]
      simp only [execOp, resolve, Option.map_some, Option.map_none, List.map_toArray, List.map_cons, List.map_nil, rho_const, rho_func]
      (repeat (conv in rho _ _ _ _ (Operand.tmp _) => whnf))
      (try simp only [hd])
      go_simp
      (repeat (conv in rho _ _ _ _ (Operand.tmp _) => whnf))
      exact same_true hd.1.is (HV.out.grows ((G_k11.out).trans (Grows.of_drew hg)))) ?_
  repeat (apply free_pure rfl; focus (intro vs w hg hd;  (try simp [Region.binds] at hd); simp only [execOp, resolve, Option.map_some, Option.map_none, List.map_toArray, List.map_cons, List.map_nil, rho_const, rho_func]; (repeat (conv in rho _ _ _ _ (Operand.tmp _) => whnf)); (try simp only [hd]); go_simp; (repeat (conv in rho _ _ _ _ (Operand.tmp _) => whnf)); (try simp only [hd]); rfl))
  refine free_guarded (fun v_ _ => v_ = .bool true) (val_mono _) (fun vs wq hg hd => by
    simp [Region.binds] at hd
    refine ⟨?_, ?_⟩
    · simp [Region.wanted, yieldR]
      (repeat (conv in rho _ _ _ _ (Operand.tmp _) => whnf))
      simp [hd]
    · simp only [Does]
      simp only [execOp, resolve, Option.map_some, Option.map_none, List.map_toArray, List.map_cons, List.map_nil, rho_const, rho_func]
      (repeat (conv in rho _ _ _ _ (Operand.tmp _) => whnf))
      (try simp only [hd])
      go_simp
      (repeat (conv in rho _ _ _ _ (Operand.tmp _) => whnf))
      exact wakes4_any _) ?_
  repeat (apply free_pure rfl; focus (intro vs w hg hd;  (try simp [Region.binds] at hd); simp only [execOp, resolve, Option.map_some, Option.map_none, List.map_toArray, List.map_cons, List.map_nil, rho_const, rho_func]; (repeat (conv in rho _ _ _ _ (Operand.tmp _) => whnf)); (try simp only [hd]); go_simp; (repeat (conv in rho _ _ _ _ (Operand.tmp _) => whnf)); (try simp only [hd]); rfl))
  intro vs w' hg hv; have h29 := hv 29 (by omega); simp at h29; simp only [putL, dstAt, List.range, List.range.loop, if_true, List.getElem?_toArray, List.getElem?_cons_zero, List.getElem?_cons_succ, Option.bind_some, Act.put, List.setIfInBounds_toArray, List.set_cons_zero, List.set_cons_succ]
  rw [h29]
  have hgF := Lib.hid ((G_k11.out).trans (Grows.of_drew hg))
  clear hv h29
  generalize vs 0 = z0, vs 1 = z1, vs 2 = z2, vs 3 = z3, vs 4 = z4, vs 5 = z5, vs 6 = z6, vs 7 = z7, vs 8 = z8, vs 9 = z9, vs 10 = z10, vs 11 = z11, vs 12 = z12, vs 13 = z13, vs 14 = z14, vs 15 = z15, vs 16 = z16, vs 17 = z17, vs 18 = z18, vs 19 = z19, vs 20 = z20, vs 21 = z21, vs 22 = z22, vs 23 = z23, vs 24 = z24, vs 25 = z25, vs 26 = z26, vs 27 = z27, vs 28 = z28, vs 29 = z29 at *
  go_wp2
  go_ret
  exact ⟨rfl, hgF.out⟩
end Go.Proofs.Ytiagmlokocpboaa
