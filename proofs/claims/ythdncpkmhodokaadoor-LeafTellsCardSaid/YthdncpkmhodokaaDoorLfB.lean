/- LfRight LfMay LfBytes LfRights LfRightO -/
import Derived.Test.YthdncpkmhodokaaDoorLfA
import Derived.Test.YthdncpkmhodokaaDoorPtRef
import Derived.Test.YthdncpkmhodokaaDoorPtRight
import Derived.Test.YthdncpkmhodokaaDoorStr
import Derived.Test.YthdncpkmhodokaaDoorBaseA
import Derived.Laws.Externs
import Derived.Lib.Bytealg
/- The document's answer for layer 6: may an item be, may items be? -/
namespace Go.Proofs.YthdncpkmhodokaaDoor
open Go.RowKit
set_option linter.unusedVariables false
set_option linter.unusedSimpArgs false
theorem ok_doc (x : It) : LeafM.ok x = ((decide (1 ≤ x.key.length) && decide (x.key.length ≤ 8)) &&
    (if bI x.over.kind = 0 then decide (x.val.length ≤ 16) && decide (x.over = PtM.none) && decide (hI x.size = 0)
     else decide (bI x.over.kind = 3) && decide (x.val.length = 0) && decide (16 < hI x.size) && decide (hI x.size ≤ 600) && PtM.right x.over 256)) := by
  have h0 : bI x.over.kind = 0 ↔ x.over.kind = 0#8 := bI_eq_of (x := x.over.kind) (n := 0) (by decide)
  have h3 : bI x.over.kind = 3 ↔ x.over.kind = 3#8 := bI_eq_of (x := x.over.kind) (n := 3) (by decide)
  have hs : (x.size == 0#16) = decide (hI x.size = 0) := by
    rw [← hI_zero]; rfl
  have hk : (x.over.kind == 3#8) = decide (bI x.over.kind = 3) := by
    rw [Bool.eq_iff_iff]; simp only [beq_iff_eq, decide_eq_true_eq]; exact h3.symm
  unfold LeafM.ok
  rw [hs, hk]
  simp only [h0]
set_option maxHeartbeats 2000000 in
theorem rright6_any {B : Nat} (r : Raw) (x : It) (w : World) (hr : RawIs B w r x) :
    Calls Tryd.prog 31 #[.agg (rawA r)] w fun e w' => e = .returned (.bool (LeafM.ok x)) ∧ Grows w w' := by
  have HX := Lib.hid (Row.new w 45 (rawA r))
  have HG := Lib.hid (Grows.alloc w (.cells (rawA r) 45))
  have HPt : Hid ((w.alloc (.cells (rawA r) 45)).rangeAt w.heap.size 2 (ptE r.over)) := by
    have := (raw_at (rawA_row HX.out)).2.2.2.2
    rwa [Nat.zero_add] at this
  have k1 := hr.1.len
  have k2 := hr.2.1.len
  have k3 := hr.2.2.1
  have k4 := hr.2.2.2
  have HO := ok_doc x
  rw [← k1, ← k2, ← k3, ← k4] at HO
  have HN := Lib.hid (fun W => rright_any r.over 256 W)
  generalize LeafM.ok x = t at *
  clear k1 k2 k3 k4 hr
  by_cases h1 : r.kn < 1
  · obtain rfl : t = false := by rw [HO, decide_eq_false (p := 1 ≤ r.kn) (by omega)]; rfl
    have h1' : (r.kn : Int) < 1 := by omega
    clear HO
    go_enter Tryd.func31, Tryd.ntmps31
    go_wp2
    go_ret
    exact ⟨rfl, HG.out⟩
  have h1' : ¬ (r.kn : Int) < 1 := by omega
  rw [decide_eq_true (p := 1 ≤ r.kn) (by omega), Bool.true_and] at HO
  by_cases h2 : 8 < r.kn
  · obtain rfl : t = false := by rw [HO, decide_eq_false (p := r.kn ≤ 8) (by omega)]; rfl
    have h2' : (8 : Int) < r.kn := by omega
    clear HO
    go_enter Tryd.func31, Tryd.ntmps31
    go_wp2
    go_ret
    exact ⟨rfl, HG.out⟩
  have h2' : ¬ (8 : Int) < r.kn := by omega
  rw [decide_eq_true (p := r.kn ≤ 8) (by omega), Bool.true_and] at HO
  by_cases hk : bI r.over.kind = 0
  · rw [if_pos hk] at HO
    by_cases h3 : r.vn ≤ 16
    · have h3' : (r.vn : Int) ≤ 16 := by omega
      rw [decide_eq_true h3, Bool.true_and] at HO
      by_cases h4 : r.over = PtM.none
      · have h4' : decide (r.over = PtM.none) = true := decide_eq_true h4
        rw [h4', Bool.true_and] at HO
        have HO' := Lib.hid HO
        have H4 := Lib.hid h4'
        clear h4 h4' HO
        go_enter Tryd.func31, Tryd.ntmps31
        go_wp2_with (first
          | ((with_reducible refine wpList_loadG_ptAt (op := ⟨some 23, _, _, _, _, _⟩) ?_ (.tmp 22) ?_ w.heap.size 2 r.over ?_ ?_ ?_); exact rfl; exact rfl; exact rfl; exact HPt.out)
          | ((with_reducible refine wpList_eqlG_ptr (op := ⟨some 25, _, _, _, _, _⟩) ?_ (.tmp 23) (.tmp 24) 43 ?_ r.over PtM.none ?_ ?_ ?_); exact rfl; exact rfl; exact rfl; exact rfl; rw [H4.out]))
        go_ret
        exact ⟨by rw [HO'.out]; rfl, HG.out⟩
      · have h4' : decide (r.over = PtM.none) = false := decide_eq_false h4
        rw [h4', Bool.false_and] at HO
        have HO' := Lib.hid HO
        have H4 := Lib.hid h4'
        clear h4 h4' HO
        go_enter Tryd.func31, Tryd.ntmps31
        go_wp2_with (first
          | ((with_reducible refine wpList_loadG_ptAt (op := ⟨some 23, _, _, _, _, _⟩) ?_ (.tmp 22) ?_ w.heap.size 2 r.over ?_ ?_ ?_); exact rfl; exact rfl; exact rfl; exact HPt.out)
          | ((with_reducible refine wpList_eqlG_ptr (op := ⟨some 25, _, _, _, _, _⟩) ?_ (.tmp 23) (.tmp 24) 43 ?_ r.over PtM.none ?_ ?_ ?_); exact rfl; exact rfl; exact rfl; exact rfl; rw [H4.out]))
        go_ret
        exact ⟨by rw [HO'.out]; rfl, HG.out⟩
    · obtain rfl : t = false := by rw [HO, decide_eq_false h3]; rfl
      have h3' : ¬ (r.vn : Int) ≤ 16 := by omega
      clear HO
      go_enter Tryd.func31, Tryd.ntmps31
      go_wp2
      go_ret
      exact ⟨rfl, HG.out⟩
  rw [if_neg hk] at HO
  by_cases h5 : bI r.over.kind = 3
  case neg =>
    obtain rfl : t = false := by rw [HO, decide_eq_false h5]; rfl
    clear HO
    go_enter Tryd.func31, Tryd.ntmps31
    go_wp2
    go_ret
    exact ⟨rfl, HG.out⟩
  rw [decide_eq_true h5, Bool.true_and] at HO
  by_cases h6 : r.vn = 0
  case neg =>
    obtain rfl : t = false := by rw [HO, decide_eq_false h6]; rfl
    have h6' : ¬ (r.vn : Int) = 0 := by omega
    clear HO
    go_enter Tryd.func31, Tryd.ntmps31
    go_wp2
    go_ret
    exact ⟨rfl, HG.out⟩
  rw [decide_eq_true h6, Bool.true_and] at HO
  have h6' : (r.vn : Int) = 0 := by omega
  by_cases h7 : 16 < hI r.size
  case neg =>
    obtain rfl : t = false := by rw [HO, decide_eq_false h7]; rfl
    clear HO
    go_enter Tryd.func31, Tryd.ntmps31
    go_wp2
    go_ret
    exact ⟨rfl, HG.out⟩
  rw [decide_eq_true h7, Bool.true_and] at HO
  by_cases h8 : hI r.size ≤ 600
  case neg =>
    obtain rfl : t = false := by rw [HO, decide_eq_false h8]; rfl
    clear HO
    go_enter Tryd.func31, Tryd.ntmps31
    go_wp2
    go_ret
    exact ⟨rfl, HG.out⟩
  rw [decide_eq_true h8, Bool.true_and] at HO
  obtain rfl := HO
  go_enter Tryd.func31, Tryd.ntmps31
  go_wp2_with (first
    | ((with_reducible refine wpList_loadG_ptAt (op := ⟨some 54, _, _, _, _, _⟩) ?_ (.tmp 53) ?_ w.heap.size 2 r.over ?_ ?_ ?_); exact rfl; exact rfl; exact rfl; exact HPt.out)
    | (go_at_call 50; (with_reducible refine (HN.out _).mono ?_); rintro e w2 ⟨rfl, hb2⟩; have HG2 := Lib.hid (HG.out.trans hb2); clear hb2))
  go_ret
  exact ⟨rfl, HG2.out⟩
end Go.Proofs.YthdncpkmhodokaaDoor
/- Layer 6's own answer: may an item be? -/
namespace Go.Proofs.YthdncpkmhodokaaDoor
open Go.RowKit
set_option linter.unusedVariables false
set_option linter.unusedSimpArgs false
set_option maxHeartbeats 2000000 in
theorem maybe_any {B : Nat} (r : Raw) (x : It) (w : World) (hr : RawIs B w r x) :
    Calls Tryd.prog 29 #[.agg (rawA r)] w fun e w' => e = .returned (.bool (LeafM.ok x)) ∧ Grows w w' := by
  have HX := Lib.hid (Row.new w 45 (rawA r))
  have HG := Lib.hid (Grows.alloc w (.cells (rawA r) 45))
  have HPt : Hid ((w.alloc (.cells (rawA r) 45)).rangeAt w.heap.size 2 (ptE r.over)) := by
    have := (raw_at (rawA_row HX.out)).2.2.2.2
    rwa [Nat.zero_add] at this
  have k1 := hr.1.len
  have k2 := hr.2.1.len
  have k3 := hr.2.2.1
  have k4 := hr.2.2.2
  have HO := ok_doc x
  rw [← k1, ← k2, ← k3, ← k4] at HO
  have HN := Lib.hid (fun W => right_any r.over 256 W)
  have HNn := Lib.hid (fun W => none_any r.over W)
  generalize LeafM.ok x = t at *
  clear k1 k2 k3 k4 hr
  by_cases h1 : r.kn < 1
  · obtain rfl : t = false := by rw [HO, decide_eq_false (p := 1 ≤ r.kn) (by omega)]; rfl
    have h1' : (r.kn : Int) < 1 := by omega
    clear HO
    go_enter Tryd.func29, Tryd.ntmps29
    go_wp2
    go_ret
    exact ⟨rfl, HG.out⟩
  have h1' : ¬ (r.kn : Int) < 1 := by omega
  rw [decide_eq_true (p := 1 ≤ r.kn) (by omega), Bool.true_and] at HO
  by_cases h2 : 8 < r.kn
  · obtain rfl : t = false := by rw [HO, decide_eq_false (p := r.kn ≤ 8) (by omega)]; rfl
    have h2' : (8 : Int) < r.kn := by omega
    clear HO
    go_enter Tryd.func29, Tryd.ntmps29
    go_wp2
    go_ret
    exact ⟨rfl, HG.out⟩
  have h2' : ¬ (8 : Int) < r.kn := by omega
  rw [decide_eq_true (p := r.kn ≤ 8) (by omega), Bool.true_and] at HO
  by_cases hk : bI r.over.kind = 0
  · rw [if_pos hk] at HO
    by_cases h3 : r.vn ≤ 16
    · have h3' : (r.vn : Int) ≤ 16 := by omega
      rw [decide_eq_true h3, Bool.true_and] at HO
      obtain ⟨t0, ht0⟩ : ∃ t0 : Bool, t0 = decide (r.over = PtM.none) := ⟨_, rfl⟩
      rw [← ht0] at HO HNn
      clear ht0
      cases t0
      · obtain rfl : t = false := by rw [HO]; rfl
        clear HO
        go_enter Tryd.func29, Tryd.ntmps29
        go_wp2_with (first
          | ((with_reducible refine wpList_loadG_ptAt (op := ⟨some 24, _, _, _, _, _⟩) ?_ (.tmp 23) ?_ w.heap.size 2 r.over ?_ ?_ ?_); exact rfl; exact rfl; exact rfl; exact HPt.out)
          | (go_at_call 36; (with_reducible refine (HNn.out _).mono ?_); rintro e w2 ⟨rfl, hb2⟩; have HG2 := Lib.hid (HG.out.trans hb2); have c7 := ((Row.grows HX.out hb2).cell 7).trans (rawA_7 r); clear hb2))
        go_ret
        exact ⟨rfl, HG2.out⟩
      · rw [Bool.true_and] at HO
        have HO' := Lib.hid HO
        clear HO
        go_enter Tryd.func29, Tryd.ntmps29
        go_wp2_with (first
          | ((with_reducible refine wpList_loadG_ptAt (op := ⟨some 24, _, _, _, _, _⟩) ?_ (.tmp 23) ?_ w.heap.size 2 r.over ?_ ?_ ?_); exact rfl; exact rfl; exact rfl; exact HPt.out)
          | (go_at_call 36; (with_reducible refine (HNn.out _).mono ?_); rintro e w2 ⟨rfl, hb2⟩; have HG2 := Lib.hid (HG.out.trans hb2); have c7 := ((Row.grows HX.out hb2).cell 7).trans (rawA_7 r); clear hb2))
        go_ret
        exact ⟨by rw [HO'.out]; rfl, HG2.out⟩
    · obtain rfl : t = false := by rw [HO, decide_eq_false h3]; rfl
      have h3' : ¬ (r.vn : Int) ≤ 16 := by omega
      clear HO
      go_enter Tryd.func29, Tryd.ntmps29
      go_wp2
      go_ret
      exact ⟨rfl, HG.out⟩
  rw [if_neg hk] at HO
  by_cases h5 : bI r.over.kind = 3
  case neg =>
    obtain rfl : t = false := by rw [HO, decide_eq_false h5]; rfl
    clear HO
    go_enter Tryd.func29, Tryd.ntmps29
    go_wp2
    go_ret
    exact ⟨rfl, HG.out⟩
  rw [decide_eq_true h5, Bool.true_and] at HO
  by_cases h6 : r.vn = 0
  case neg =>
    obtain rfl : t = false := by rw [HO, decide_eq_false h6]; rfl
    have h6' : ¬ (r.vn : Int) = 0 := by omega
    clear HO
    go_enter Tryd.func29, Tryd.ntmps29
    go_wp2
    go_ret
    exact ⟨rfl, HG.out⟩
  rw [decide_eq_true h6, Bool.true_and] at HO
  have h6' : (r.vn : Int) = 0 := by omega
  by_cases h7 : 16 < hI r.size
  case neg =>
    obtain rfl : t = false := by rw [HO, decide_eq_false h7]; rfl
    clear HO
    go_enter Tryd.func29, Tryd.ntmps29
    go_wp2
    go_ret
    exact ⟨rfl, HG.out⟩
  rw [decide_eq_true h7, Bool.true_and] at HO
  by_cases h8 : hI r.size ≤ 600
  case neg =>
    obtain rfl : t = false := by rw [HO, decide_eq_false h8]; rfl
    clear HO
    go_enter Tryd.func29, Tryd.ntmps29
    go_wp2
    go_ret
    exact ⟨rfl, HG.out⟩
  rw [decide_eq_true h8, Bool.true_and] at HO
  obtain rfl := HO
  go_enter Tryd.func29, Tryd.ntmps29
  go_wp2_with (first
    | ((with_reducible refine wpList_loadG_ptAt (op := ⟨some 50, _, _, _, _, _⟩) ?_ (.tmp 49) ?_ w.heap.size 2 r.over ?_ ?_ ?_); exact rfl; exact rfl; exact rfl; exact HPt.out)
    | (go_at_call 48; (with_reducible refine (HN.out _).mono ?_); rintro e w2 ⟨rfl, hb2⟩; have HG2 := Lib.hid (HG.out.trans hb2); clear hb2))
  go_ret
  exact ⟨rfl, HG2.out⟩
end Go.Proofs.YthdncpkmhodokaaDoor
/- Two rows of bytes, as the library compares them. -/
namespace Go.Proofs.YthdncpkmhodokaaDoor
open Go.RowKit
set_option linter.unusedVariables false
set_option linter.unusedSimpArgs false
def chrs (l : List (BitVec 8)) : List UInt8 := (l.map bI).map fun n => UInt8.ofNat n.toNat
theorem loadBytes_run {P : Program} {w : World} (b : Nat) : ∀ (l : List (BitVec 8)) (o : Nat) (acc : List UInt8), (∀ j x, l[j]? = some x → w.cell? ⟨b, o + j, none⟩ = some (byteV x)) →
    (Extern.Bytes.loadBytes ⟨b, o, none⟩ l.length ⟨acc.toArray⟩).run P w = .ok ⟨(acc ++ chrs l).toArray⟩ w
  | [], o, acc, _ => by
    simp [Extern.Bytes.loadBytes, chrs, Sem.run_pure]
  | x :: l, o, acc, h => by
    have h0 := h 0 x rfl
    rw [Nat.add_zero] at h0
    have ih := loadBytes_run (P := P) (w := w) b l (o + 1) (acc ++ [UInt8.ofNat (bI x).toNat]) (fun j y hy => by
      have := h (j + 1) y (by simpa using hy)
      rwa [show o + (j + 1) = o + 1 + j from by omega] at this)
    rw [List.length_cons, Extern.Bytes.loadBytes, Sem.run_bind, run_load, h0]
    simp only [Result.andThen, byteV, Addr.add_lit]
    rw [show (⟨acc.toArray⟩ : ByteArray).push (bI x).toNat.toUInt8 = ⟨(acc ++ [UInt8.ofNat (bI x).toNat]).toArray⟩ from by simp [ByteArray.push], ih]
    simp [chrs]
theorem bytesOf_run {P : Program} {B : Nat} {w : World} {v : Value} {l : List (BitVec 8)} (h : Bytes B w v l) : (Extern.Bytes.bytesOf v).run P w = .ok (str l) w := by
  have hs : str l = ⟨(chrs l).toArray⟩ := by
    have := strOfNums_data (l.map bI)
    unfold str chrs
    rw [← this]
  obtain ⟨A, cap, rfl, h1, h2, h3⟩ := h
  simp only [List.length_map] at h1 h3 ⊢
  rw [hs]
  by_cases hl : 0 < l.length
  · obtain ⟨b, o, rfl, _, hc⟩ := h3 hl
    have := loadBytes_run (P := P) (w := w) b l o [] (fun j x hx => hc j (byteV x) (by rw [List.getElem?_map, hx]; rfl))
    rw [List.nil_append] at this
    exact this
  · obtain rfl : l = [] := List.length_eq_zero_iff.1 (by omega)
    cases A with
    | none => rfl
    | some a => rfl
/-- How the library compares them. -/
def cmpI (a b : List (BitVec 8)) : Int := Lib.compareBytes (str a).toList (str b).toList
theorem compare_less : ∀ a b : List UInt8, decide (0 ≤ Lib.compareBytes a b) = !Op.bytesLess a b
  | [], [] => rfl
  | [], _ :: _ => rfl
  | _ :: _, [] => rfl
  | x :: a, y :: b => by
    have ih := compare_less a b
    unfold Lib.compareBytes Op.bytesLess
    by_cases h1 : x < y
    · simp [h1]
    · by_cases h2 : y < x
      · have hne : (x == y) = false := by
          rw [beq_eq_false_iff_ne]
          intro e
          rw [e] at h2
          exact UInt8.lt_irrefl _ h2
        simp [h1, h2, hne]
      · have he : x = y := UInt8.le_antisymm (UInt8.not_lt.1 h2) (UInt8.not_lt.1 h1)
        subst he
        simp only [h1, if_false, ih, decide_false, Bool.false_or, BEq.rfl, Bool.true_and]
theorem cmpI_lt (a b : List (BitVec 8)) : decide (0 ≤ cmpI a b) = !LeafM.lt a b := compare_less _ _
theorem bcompare_any (u v : Value) (a b : List (BitVec 8)) (w : World) (hu : Bytes w.heap.size w u a) (hv : Bytes w.heap.size w v b) :
    Calls Tryd.prog 30 #[u, v] w fun e w' => e = .returned (.int .i64 (cmpI a b)) ∧ Grows w w' := by
  have hc : (callFunc 49 #[u, v]).run Tryd.prog w = .ok (.value (.int .i64 (cmpI a b))) w := by
    rw [run_callFunc_extern (fn := Tryd.f49) Tryd.func49 (by kernel_rfl) (by kernel_rfl) (by kernel_rfl) (e := Extern.BytealgCompare.compare) (by kernel_rfl)]
    change (Sem.run Tryd.prog (do pure (goInt (Extern.BytealgCompare.cmp (← Extern.Bytes.bytesOf u) (← Extern.Bytes.bytesOf v)))) w).andThen _ = _
    simp only [Sem.run_bind, Sem.run_pure, Result.andThen, bytesOf_run hu, bytesOf_run hv]
    rw [Lib.cmp_eq]
    unfold cmpI
    rw [ByteArray.toList_eq, ByteArray.toList_eq]
    rfl
  obtain ⟨A, cap, rfl, _⟩ := hu
  obtain ⟨A', cap', rfl, _⟩ := hv
  simp only [List.length_map] at hc ⊢
  generalize a.length = n at *
  generalize b.length = m at *
  go_enter Tryd.func30, Tryd.ntmps30
  go_wp2
  go_ret
  exact ⟨rfl, Grows.refl _⟩
theorem bequal_any (u v : Value) (a b : List (BitVec 8)) (w : World) (hu : Bytes w.heap.size w u a) (hv : Bytes w.heap.size w v b) :
    Calls Tryd.prog 51 #[u, v] w fun e w' => e = .returned (.bool (decide (a = b))) ∧ Grows w w' := by
  have e1 := run_str (P := Tryd.prog) hu 37 5 9 Tryd.underlying37 Tryd.underlying5 Tryd.underlying9
  have e2 := run_str (P := Tryd.prog) hv 37 5 9 Tryd.underlying37 Tryd.underlying5 Tryd.underlying9
  have he : ((str a).toList == (str b).toList) = decide (a = b) := by
    rw [str_beq_toList, Bool.eq_iff_iff]; simp
  have HE := Lib.hid he
  clear he
  obtain ⟨A, cap, rfl, _⟩ := hu
  obtain ⟨A', cap', rfl, _⟩ := hv
  simp only [List.length_map] at e1 e2 ⊢
  generalize a.length = n at *
  generalize b.length = m at *
  go_enter Tryd.func51, Tryd.ntmps51
  go_wp2
  go_ret
  exact ⟨by rw [← HE.out]; rfl, Grows.refl _⟩
end Go.Proofs.YthdncpkmhodokaaDoor
/- The document's Right for layer 6: may items be? -/
namespace Go.Proofs.YthdncpkmhodokaaDoor
open Go.RowKit
set_option linter.unusedVariables false
set_option linter.unusedSimpArgs false
set_option maxRecDepth 20000 in
set_option maxHeartbeats 4000000 in
theorem rrights6_any (v : Value) (l : List It) (w : World) (hv : Its w.heap.size w v l) :
    Calls Tryd.prog 16 #[v] w fun e w' => e = .returned (.bool (LeafM.right l)) ∧ Grows w w' := by
  have HV := Lib.hid hv
  obtain ⟨A, cap, rfl, q1, q2, q3⟩ := hv.form
  have HQ := Lib.hid q3
  clear q3 hv
  unfold maxLen at q2
  go_enter Tryd.func16, Tryd.ntmps16
  go_wp2
  go_loopw [3] (fun i wr => ∃ k : Nat, k ≤ l.length ∧ i = .int .i64 k ∧ (List.range k).all (LeafM.okAt l) = true ∧ Grows w wr) (fun i _ => l.length - (intOf i).toNat)
  case atStart => exact ⟨0, Nat.zero_le _, rfl, rfl, Grows.refl _⟩
  case round =>
    obtain ⟨k, hk, rfl, hg, hb⟩ := hrel
    have HGr := Lib.hid hg; have HB := Lib.hid hb
    clear hg hb
    by_cases hlt : k < l.length
    · obtain ⟨g1, o1, rfl, hg1, hcA⟩ := HQ.out (by omega)
      have e1 : l[k]? = some l[k] := List.getElem?_eq_getElem hlt
      obtain ⟨r, hr, hc⟩ := hcA k _ e1
      have HC := Lib.hid (rangeAt_keep hc (fun a ha => Below.cell HB.out (by omega)))
      have HR := Lib.hid (hr.grows HB.out)
      have hx0 := (raw_at HC.out).1
      have HK := Lib.hid HR.out.1
      have HRT := Lib.hid (fun W (h : RawIs (World.heap W).size W r l[k]) => rright6_any r l[k] W h)
      have HNo := Lib.hid (fun h => LeafM.right_false (k := k) hlt h)
      have HYes := Lib.hid (fun h => LeafM.all_step (k := k) HGr.out h)
      obtain ⟨oa, hoa⟩ : ∃ oa, oa = LeafM.okAt l k := ⟨_, rfl⟩
      rw [← hoa] at HNo HYes
      by_cases hz : k = 0
      · subst hz
        rw [LeafM.okAt_zero e1] at hoa
        rw [hoa] at HNo HYes
        clear hoa hc hcA hr e1
        generalize l[0] = x at *
        generalize LeafM.ok x = t at *
        cases t
        · go_wp2
          refine wp_region_free 26 39 (by kernel_rfl) (by kernel_rfl) rfl (by kernel_rfl) ?_; simp only [List.take_succ_cons, List.take_zero, List.drop_succ_cons, List.drop_zero]
          repeat (apply free_pure rfl; focus (intro vs w hg hd;  (try simp [Region.binds] at hd); simp only [execOp, resolve, Option.map_some, Option.map_none, List.map_toArray, List.map_cons, List.map_nil, rho_const, rho_func]; (repeat (conv in rho _ _ _ _ (Operand.tmp _) => whnf)); (try simp only [hd]); go_simp; (repeat (conv in rho _ _ _ _ (Operand.tmp _) => whnf)); (try simp only [hd]);  rfl))
          refine free_op (fun v_ _ => v_ = .agg (rawA r)) rfl (dk_mono _) (fun vs wq hg hd => by
            (try simp [Region.binds] at hd)
            refine dk_load 45 (.tmp 12) ⟨g1, o1 + 0 * 8, none⟩ _ rfl ?_ (item_run_load (range_grows HC.out (Grows.of_drew hg))) ⟨Grows.refl _, rfl⟩
            (conv in rho _ _ _ _ (Operand.tmp _) => whnf)
            simp [hd]) ?_
          refine free_op (fun v_ _ => v_ = .bool false) rfl (dk_mono _) (fun vs wq hg hd => by
            (try simp [Region.binds] at hd); simp only [Does]; simp only [execOp, resolve, Option.map_some, Option.map_none, List.map_toArray, List.map_cons, List.map_nil, rho_const, rho_func]; (repeat (conv in rho _ _ _ _ (Operand.tmp _) => whnf)); (try simp only [hd]); go_simp; (repeat (conv in rho _ _ _ _ (Operand.tmp _) => whnf))
            exact HRT.out _ (HR.out.grows (Grows.of_drew hg))) ?_
          repeat (apply free_pure rfl; focus (intro vs w hg hd;  (try simp [Region.binds] at hd); simp only [execOp, resolve, Option.map_some, Option.map_none, List.map_toArray, List.map_cons, List.map_nil, rho_const, rho_func]; (repeat (conv in rho _ _ _ _ (Operand.tmp _) => whnf)); (try simp only [hd]); go_simp; (repeat (conv in rho _ _ _ _ (Operand.tmp _) => whnf)); (try simp only [hd]);  rfl))
          repeat (refine free_passed (fun vs wq hg hd => ?_) ?_; focus ((try simp [Region.binds] at hd); (first | (simp [Region.wanted, yieldR]; (repeat (conv in rho _ _ _ _ (Operand.tmp _) => whnf)); simp [hd]; done) | (simp [Region.wanted, yieldR]; (repeat (conv in rho _ _ _ _ (Operand.tmp _) => whnf)); simp [hd, undef]; done) | (simp [Region.wanted, yieldR]; (repeat (conv in rho _ _ _ _ (Operand.tmp _) => whnf)); (try simp [hd]); simp [*]))))
          repeat (apply free_pure rfl; focus (intro vs w hg hd;  (try simp [Region.binds] at hd); simp only [execOp, resolve, Option.map_some, Option.map_none, List.map_toArray, List.map_cons, List.map_nil, rho_const, rho_func]; (repeat (conv in rho _ _ _ _ (Operand.tmp _) => whnf)); (try simp only [hd]); go_simp; (repeat (conv in rho _ _ _ _ (Operand.tmp _) => whnf)); (try simp only [hd]);  rfl))
          intro vs w' hg hv; have h25 := hv 25 (by omega); simp at h25; simp only [putL, dstAt, List.range, List.range.loop, if_true, List.getElem?_toArray, List.getElem?_cons_zero, List.getElem?_cons_succ, Option.bind_some, Act.put, List.setIfInBounds_toArray, List.set_cons_zero, List.set_cons_succ]
          rw [h25]
          have hgW := Lib.hid (HB.out.trans (Grows.of_drew hg))
          clear hv h25 hg
          generalize vs 0 = z0, vs 1 = z1, vs 2 = z2, vs 3 = z3, vs 4 = z4, vs 5 = z5, vs 6 = z6, vs 7 = z7, vs 8 = z8, vs 9 = z9, vs 10 = z10, vs 11 = z11, vs 12 = z12, vs 13 = z13, vs 14 = z14, vs 15 = z15, vs 16 = z16, vs 17 = z17, vs 18 = z18, vs 19 = z19, vs 20 = z20, vs 21 = z21, vs 22 = z22, vs 23 = z23, vs 24 = z24, vs 25 = z25 at *
          go_wp2
          go_ret
          exact ⟨by rw [HNo.out (by trivial)]; rfl, hgW.out⟩
        · go_wp2
          refine wp_region_free 26 39 (by kernel_rfl) (by kernel_rfl) rfl (by kernel_rfl) ?_; simp only [List.take_succ_cons, List.take_zero, List.drop_succ_cons, List.drop_zero]
          repeat (apply free_pure rfl; focus (intro vs w hg hd;  (try simp [Region.binds] at hd); simp only [execOp, resolve, Option.map_some, Option.map_none, List.map_toArray, List.map_cons, List.map_nil, rho_const, rho_func]; (repeat (conv in rho _ _ _ _ (Operand.tmp _) => whnf)); (try simp only [hd]); go_simp; (repeat (conv in rho _ _ _ _ (Operand.tmp _) => whnf)); (try simp only [hd]);  rfl))
          refine free_op (fun v_ _ => v_ = .agg (rawA r)) rfl (dk_mono _) (fun vs wq hg hd => by
            (try simp [Region.binds] at hd)
            refine dk_load 45 (.tmp 12) ⟨g1, o1 + 0 * 8, none⟩ _ rfl ?_ (item_run_load (range_grows HC.out (Grows.of_drew hg))) ⟨Grows.refl _, rfl⟩
            (conv in rho _ _ _ _ (Operand.tmp _) => whnf)
            simp [hd]) ?_
          refine free_op (fun v_ _ => v_ = .bool true) rfl (dk_mono _) (fun vs wq hg hd => by
            (try simp [Region.binds] at hd); simp only [Does]; simp only [execOp, resolve, Option.map_some, Option.map_none, List.map_toArray, List.map_cons, List.map_nil, rho_const, rho_func]; (repeat (conv in rho _ _ _ _ (Operand.tmp _) => whnf)); (try simp only [hd]); go_simp; (repeat (conv in rho _ _ _ _ (Operand.tmp _) => whnf))
            exact HRT.out _ (HR.out.grows (Grows.of_drew hg))) ?_
          repeat (apply free_pure rfl; focus (intro vs w hg hd;  (try simp [Region.binds] at hd); simp only [execOp, resolve, Option.map_some, Option.map_none, List.map_toArray, List.map_cons, List.map_nil, rho_const, rho_func]; (repeat (conv in rho _ _ _ _ (Operand.tmp _) => whnf)); (try simp only [hd]); go_simp; (repeat (conv in rho _ _ _ _ (Operand.tmp _) => whnf)); (try simp only [hd]);  rfl))
          repeat (first | (apply free_pure rfl; focus (intro vs w hg hd;  (try simp [Region.binds] at hd); simp only [execOp, resolve, Option.map_some, Option.map_none, List.map_toArray, List.map_cons, List.map_nil, rho_const, rho_func]; (repeat (conv in rho _ _ _ _ (Operand.tmp _) => whnf)); (try simp only [hd]); go_simp; (repeat (conv in rho _ _ _ _ (Operand.tmp _) => whnf)); (try simp only [hd]);  rfl)) | (apply free_gpure; (focus (intro vs w hg hd; (try simp [Region.binds] at hd); (first | (simp [Region.wanted, yieldR]; (repeat (conv in rho _ _ _ _ (Operand.tmp _) => whnf)); simp [hd]; done) | (simp [Region.wanted, yieldR]; (repeat (conv in rho _ _ _ _ (Operand.tmp _) => whnf)); simp [hd, undef]; done) | (simp [Region.wanted, yieldR]; (repeat (conv in rho _ _ _ _ (Operand.tmp _) => whnf)); (try simp [hd]); simp [*])))); focus (intro vs w hg hd;  (try simp [Region.binds] at hd); simp only [execOp, resolve, Option.map_some, Option.map_none, List.map_toArray, List.map_cons, List.map_nil, rho_const, rho_func]; (repeat (conv in rho _ _ _ _ (Operand.tmp _) => whnf)); (try simp only [hd]); go_simp; (repeat (conv in rho _ _ _ _ (Operand.tmp _) => whnf)); (try simp only [hd]);  rfl)))
          repeat (refine free_passed (fun vs wq hg hd => ?_) ?_; focus ((try simp [Region.binds] at hd); (first | (simp [Region.wanted, yieldR]; (repeat (conv in rho _ _ _ _ (Operand.tmp _) => whnf)); simp [hd]; done) | (simp [Region.wanted, yieldR]; (repeat (conv in rho _ _ _ _ (Operand.tmp _) => whnf)); simp [hd, undef]; done) | (simp [Region.wanted, yieldR]; (repeat (conv in rho _ _ _ _ (Operand.tmp _) => whnf)); (try simp [hd]); simp [*]))))
          repeat (first | (apply free_pure rfl; focus (intro vs w hg hd;  (try simp [Region.binds] at hd); simp only [execOp, resolve, Option.map_some, Option.map_none, List.map_toArray, List.map_cons, List.map_nil, rho_const, rho_func]; (repeat (conv in rho _ _ _ _ (Operand.tmp _) => whnf)); (try simp only [hd]); go_simp; (repeat (conv in rho _ _ _ _ (Operand.tmp _) => whnf)); (try simp only [hd]);  rfl)) | (apply free_gpure; (focus (intro vs w hg hd; (try simp [Region.binds] at hd); (first | (simp [Region.wanted, yieldR]; (repeat (conv in rho _ _ _ _ (Operand.tmp _) => whnf)); simp [hd]; done) | (simp [Region.wanted, yieldR]; (repeat (conv in rho _ _ _ _ (Operand.tmp _) => whnf)); simp [hd, undef]; done) | (simp [Region.wanted, yieldR]; (repeat (conv in rho _ _ _ _ (Operand.tmp _) => whnf)); (try simp [hd]); simp [*])))); focus (intro vs w hg hd;  (try simp [Region.binds] at hd); simp only [execOp, resolve, Option.map_some, Option.map_none, List.map_toArray, List.map_cons, List.map_nil, rho_const, rho_func]; (repeat (conv in rho _ _ _ _ (Operand.tmp _) => whnf)); (try simp only [hd]); go_simp; (repeat (conv in rho _ _ _ _ (Operand.tmp _) => whnf)); (try simp only [hd]);  rfl)))
          intro vs w' hg hv; have h25 := hv 25 (by omega); simp at h25; simp only [putL, dstAt, List.range, List.range.loop, if_true, List.getElem?_toArray, List.getElem?_cons_zero, List.getElem?_cons_succ, Option.bind_some, Act.put, List.setIfInBounds_toArray, List.set_cons_zero, List.set_cons_succ]
          rw [h25]
          have hgW := Lib.hid (HB.out.trans (Grows.of_drew hg))
          clear hv h25 hg
          generalize vs 0 = z0, vs 1 = z1, vs 2 = z2, vs 3 = z3, vs 4 = z4, vs 5 = z5, vs 6 = z6, vs 7 = z7, vs 8 = z8, vs 9 = z9, vs 10 = z10, vs 11 = z11, vs 12 = z12, vs 13 = z13, vs 14 = z14, vs 15 = z15, vs 16 = z16, vs 17 = z17, vs 18 = z18, vs 19 = z19, vs 20 = z20, vs 21 = z21, vs 22 = z22, vs 23 = z23, vs 24 = z24, vs 25 = z25 at *
          go_wp2
          go_roundw
          case rel => exact ⟨0 + 1, by omega, by go_num, HYes.out (by trivial), hgW.out⟩
          case measure => simp [intOf]; omega
      · obtain ⟨m, hm⟩ : ∃ m, m + 1 = k := ⟨k - 1, by omega⟩
        have e2 : l[m]? = some (l[m]'(by omega)) := List.getElem?_eq_getElem (by omega)
        obtain ⟨r2, hr2, hc2⟩ := hcA m _ e2
        have HC2 := Lib.hid (rangeAt_keep hc2 (fun a ha => Below.cell HB.out (by omega)))
        have hy0 := (raw_at HC2.out).1
        have HK2 := Lib.hid (hr2.grows HB.out).1
        have hos := LeafM.okAt_succ (l := l) (k := m) (x := l[k]) (y := l[m]'(by omega)) (by rw [hm]; exact e1) e2
        rw [hm, ← hoa] at hos
        rw [hos] at HNo HYes
        have u1 : IntKind.i64.wrap ((k : Int) - 1) = m := by rw [IntWalk.i64_in _ (by omega)]; omega
        have u2 : (0 : Int) < k := by omega
        have u3 : (m : Int) < l.length := by omega
        have u4 : decide ((0 : Int) < k) = true := decide_eq_true u2
        have u5 : decide (0 < k) = true := decide_eq_true (by omega)
        have HLT : Hid (LeafM.lt (l[m]'(by omega)).key l[k].key = Op.bytesLess (str (l[m]'(by omega)).key).toList (str l[k].key).toList) := rfl
        generalize l[m]'(by omega) = y at *
        generalize l[k] = x at *
        clear hos hoa hc hcA hr e1 e2 hc2 hr2 hm hz
        generalize LeafM.ok x = t at *
        generalize hlt' : LeafM.lt y.key x.key = tl at *
        have hLT : Op.bytesLess (str y.key).toList (str x.key).toList = tl := HLT.out.symm
        clear HLT hlt'
        cases t
        · go_wp2
          refine wp_region_free 26 39 (by kernel_rfl) (by kernel_rfl) rfl (by kernel_rfl) ?_; simp only [List.take_succ_cons, List.take_zero, List.drop_succ_cons, List.drop_zero]
          repeat (apply free_pure rfl; focus (intro vs w hg hd;  (try simp [Region.binds] at hd); simp only [execOp, resolve, Option.map_some, Option.map_none, List.map_toArray, List.map_cons, List.map_nil, rho_const, rho_func]; (repeat (conv in rho _ _ _ _ (Operand.tmp _) => whnf)); (try simp only [hd]); go_simp; (repeat (conv in rho _ _ _ _ (Operand.tmp _) => whnf)); (try simp only [hd]);  rfl))
          refine free_op (fun v_ _ => v_ = .agg (rawA r)) rfl (dk_mono _) (fun vs wq hg hd => by
            (try simp [Region.binds] at hd)
            refine dk_load 45 (.tmp 12) ⟨g1, o1 + k * 8, none⟩ _ rfl ?_ (item_run_load (range_grows HC.out (Grows.of_drew hg))) ⟨Grows.refl _, rfl⟩
            (conv in rho _ _ _ _ (Operand.tmp _) => whnf)
            simp [hd]) ?_
          refine free_op (fun v_ _ => v_ = .bool false) rfl (dk_mono _) (fun vs wq hg hd => by
            (try simp [Region.binds] at hd); simp only [Does]; simp only [execOp, resolve, Option.map_some, Option.map_none, List.map_toArray, List.map_cons, List.map_nil, rho_const, rho_func]; (repeat (conv in rho _ _ _ _ (Operand.tmp _) => whnf)); (try simp only [hd]); go_simp; (repeat (conv in rho _ _ _ _ (Operand.tmp _) => whnf))
            exact HRT.out _ (HR.out.grows (Grows.of_drew hg))) ?_
          repeat (apply free_pure rfl; focus (intro vs w hg hd;  (try simp [Region.binds] at hd); simp only [execOp, resolve, Option.map_some, Option.map_none, List.map_toArray, List.map_cons, List.map_nil, rho_const, rho_func]; (repeat (conv in rho _ _ _ _ (Operand.tmp _) => whnf)); (try simp only [hd]); go_simp; (repeat (conv in rho _ _ _ _ (Operand.tmp _) => whnf)); (try simp only [hd]);  rfl))
          repeat (refine free_passed (fun vs wq hg hd => ?_) ?_; focus ((try simp [Region.binds] at hd); (first | (simp [Region.wanted, yieldR]; (repeat (conv in rho _ _ _ _ (Operand.tmp _) => whnf)); simp [hd]; done) | (simp [Region.wanted, yieldR]; (repeat (conv in rho _ _ _ _ (Operand.tmp _) => whnf)); simp [hd, undef]; done) | (simp [Region.wanted, yieldR]; (repeat (conv in rho _ _ _ _ (Operand.tmp _) => whnf)); (try simp [hd]); simp [*]))))
          repeat (apply free_pure rfl; focus (intro vs w hg hd;  (try simp [Region.binds] at hd); simp only [execOp, resolve, Option.map_some, Option.map_none, List.map_toArray, List.map_cons, List.map_nil, rho_const, rho_func]; (repeat (conv in rho _ _ _ _ (Operand.tmp _) => whnf)); (try simp only [hd]); go_simp; (repeat (conv in rho _ _ _ _ (Operand.tmp _) => whnf)); (try simp only [hd]);  rfl))
          intro vs w' hg hv; have h25 := hv 25 (by omega); simp at h25; simp only [putL, dstAt, List.range, List.range.loop, if_true, List.getElem?_toArray, List.getElem?_cons_zero, List.getElem?_cons_succ, Option.bind_some, Act.put, List.setIfInBounds_toArray, List.set_cons_zero, List.set_cons_succ]
          rw [h25]
          have hgW := Lib.hid (HB.out.trans (Grows.of_drew hg))
          clear hv h25 hg
          generalize vs 0 = z0, vs 1 = z1, vs 2 = z2, vs 3 = z3, vs 4 = z4, vs 5 = z5, vs 6 = z6, vs 7 = z7, vs 8 = z8, vs 9 = z9, vs 10 = z10, vs 11 = z11, vs 12 = z12, vs 13 = z13, vs 14 = z14, vs 15 = z15, vs 16 = z16, vs 17 = z17, vs 18 = z18, vs 19 = z19, vs 20 = z20, vs 21 = z21, vs 22 = z22, vs 23 = z23, vs 24 = z24, vs 25 = z25 at *
          go_wp2
          go_ret
          exact ⟨by rw [HNo.out (by trivial)]; rfl, hgW.out⟩
        · cases tl
          · go_wp2
            refine wp_region_free 26 39 (by kernel_rfl) (by kernel_rfl) rfl (by kernel_rfl) ?_; simp only [List.take_succ_cons, List.take_zero, List.drop_succ_cons, List.drop_zero]
            repeat (apply free_pure rfl; focus (intro vs w hg hd;  (try simp [Region.binds] at hd); simp only [execOp, resolve, Option.map_some, Option.map_none, List.map_toArray, List.map_cons, List.map_nil, rho_const, rho_func]; (repeat (conv in rho _ _ _ _ (Operand.tmp _) => whnf)); (try simp only [hd]); go_simp; (repeat (conv in rho _ _ _ _ (Operand.tmp _) => whnf)); (try simp only [hd]);  rfl))
            refine free_op (fun v_ _ => v_ = .agg (rawA r)) rfl (dk_mono _) (fun vs wq hg hd => by
              (try simp [Region.binds] at hd)
              refine dk_load 45 (.tmp 12) ⟨g1, o1 + k * 8, none⟩ _ rfl ?_ (item_run_load (range_grows HC.out (Grows.of_drew hg))) ⟨Grows.refl _, rfl⟩
              (conv in rho _ _ _ _ (Operand.tmp _) => whnf)
              simp [hd]) ?_
            refine free_op (fun v_ _ => v_ = .bool true) rfl (dk_mono _) (fun vs wq hg hd => by
              (try simp [Region.binds] at hd); simp only [Does]; simp only [execOp, resolve, Option.map_some, Option.map_none, List.map_toArray, List.map_cons, List.map_nil, rho_const, rho_func]; (repeat (conv in rho _ _ _ _ (Operand.tmp _) => whnf)); (try simp only [hd]); go_simp; (repeat (conv in rho _ _ _ _ (Operand.tmp _) => whnf))
              exact HRT.out _ (HR.out.grows (Grows.of_drew hg))) ?_
            repeat (apply free_pure rfl; focus (intro vs w hg hd;  (try simp [Region.binds] at hd); simp only [execOp, resolve, Option.map_some, Option.map_none, List.map_toArray, List.map_cons, List.map_nil, rho_const, rho_func]; (repeat (conv in rho _ _ _ _ (Operand.tmp _) => whnf)); (try simp only [hd]); go_simp; (repeat (conv in rho _ _ _ _ (Operand.tmp _) => whnf)); (try simp only [hd]);  rfl))
            repeat (first | (apply free_pure rfl; focus (intro vs w hg hd; have q0 := hg.cell hy0; (try simp [Region.binds] at hd); simp only [execOp, resolve, Option.map_some, Option.map_none, List.map_toArray, List.map_cons, List.map_nil, rho_const, rho_func]; (repeat (conv in rho _ _ _ _ (Operand.tmp _) => whnf)); (try simp only [hd]); go_simp; (repeat (conv in rho _ _ _ _ (Operand.tmp _) => whnf)); (try simp only [hd]); (try simp only [u4, u5]); rfl)) | (apply free_gpure; (focus (intro vs w hg hd; (try simp [Region.binds] at hd); (first | (simp [Region.wanted, yieldR]; (repeat (conv in rho _ _ _ _ (Operand.tmp _) => whnf)); simp [hd]; done) | (simp [Region.wanted, yieldR]; (repeat (conv in rho _ _ _ _ (Operand.tmp _) => whnf)); simp [hd, undef]; done) | (simp [Region.wanted, yieldR]; (repeat (conv in rho _ _ _ _ (Operand.tmp _) => whnf)); (try simp [hd]); simp [*])))); focus (intro vs w hg hd; have q0 := hg.cell hy0; (try simp [Region.binds] at hd); simp only [execOp, resolve, Option.map_some, Option.map_none, List.map_toArray, List.map_cons, List.map_nil, rho_const, rho_func]; (repeat (conv in rho _ _ _ _ (Operand.tmp _) => whnf)); (try simp only [hd]); go_simp; (repeat (conv in rho _ _ _ _ (Operand.tmp _) => whnf)); (try simp only [hd]); (try simp only [u4, u5]); rfl)))
            refine free_guarded (fun v_ _ => v_ = .string (str (y.key))) (dk_mono _) (fun vs wq hg hd => by ((try simp [Region.binds] at hd); refine ⟨?_, ?_⟩; (focus (first | (simp [Region.wanted, yieldR]; (repeat (conv in rho _ _ _ _ (Operand.tmp _) => whnf)); simp [hd]; done) | (simp [Region.wanted, yieldR]; (repeat (conv in rho _ _ _ _ (Operand.tmp _) => whnf)); simp [hd, undef]; done) | (simp [Region.wanted, yieldR]; (repeat (conv in rho _ _ _ _ (Operand.tmp _) => whnf)); (try simp [hd]); simp [*]))); (focus (have e1 := run_str (P := Tryd.prog) (Sl.below HK2.out (Grows.of_drew hg)) 37 5 9 Tryd.underlying37 Tryd.underlying5 Tryd.underlying9; simp only [Does]; simp only [execOp, resolve, Option.map_some, Option.map_none, List.map_toArray, List.map_cons, List.map_nil, rho_const, rho_func]; (repeat (conv in rho _ _ _ _ (Operand.tmp _) => whnf)); (try simp only [hd]); go_simp; (repeat (conv in rho _ _ _ _ (Operand.tmp _) => whnf)); exact Grows.refl _)))) ?_
            repeat (first | (apply free_pure rfl; focus (intro vs w hg hd; have q0 := hg.cell hx0; (try simp [Region.binds] at hd); simp only [execOp, resolve, Option.map_some, Option.map_none, List.map_toArray, List.map_cons, List.map_nil, rho_const, rho_func]; (repeat (conv in rho _ _ _ _ (Operand.tmp _) => whnf)); (try simp only [hd]); go_simp; (repeat (conv in rho _ _ _ _ (Operand.tmp _) => whnf)); (try simp only [hd]);  rfl)) | (apply free_gpure; (focus (intro vs w hg hd; (try simp [Region.binds] at hd); (first | (simp [Region.wanted, yieldR]; (repeat (conv in rho _ _ _ _ (Operand.tmp _) => whnf)); simp [hd]; done) | (simp [Region.wanted, yieldR]; (repeat (conv in rho _ _ _ _ (Operand.tmp _) => whnf)); simp [hd, undef]; done) | (simp [Region.wanted, yieldR]; (repeat (conv in rho _ _ _ _ (Operand.tmp _) => whnf)); (try simp [hd]); simp [*])))); focus (intro vs w hg hd; have q0 := hg.cell hx0; (try simp [Region.binds] at hd); simp only [execOp, resolve, Option.map_some, Option.map_none, List.map_toArray, List.map_cons, List.map_nil, rho_const, rho_func]; (repeat (conv in rho _ _ _ _ (Operand.tmp _) => whnf)); (try simp only [hd]); go_simp; (repeat (conv in rho _ _ _ _ (Operand.tmp _) => whnf)); (try simp only [hd]);  rfl)))
            refine free_guarded (fun v_ _ => v_ = .string (str (x.key))) (dk_mono _) (fun vs wq hg hd => by ((try simp [Region.binds] at hd); refine ⟨?_, ?_⟩; (focus (first | (simp [Region.wanted, yieldR]; (repeat (conv in rho _ _ _ _ (Operand.tmp _) => whnf)); simp [hd]; done) | (simp [Region.wanted, yieldR]; (repeat (conv in rho _ _ _ _ (Operand.tmp _) => whnf)); simp [hd, undef]; done) | (simp [Region.wanted, yieldR]; (repeat (conv in rho _ _ _ _ (Operand.tmp _) => whnf)); (try simp [hd]); simp [*]))); (focus (have e1 := run_str (P := Tryd.prog) (Sl.below HK.out (Grows.of_drew hg)) 37 5 9 Tryd.underlying37 Tryd.underlying5 Tryd.underlying9; simp only [Does]; simp only [execOp, resolve, Option.map_some, Option.map_none, List.map_toArray, List.map_cons, List.map_nil, rho_const, rho_func]; (repeat (conv in rho _ _ _ _ (Operand.tmp _) => whnf)); (try simp only [hd]); go_simp; (repeat (conv in rho _ _ _ _ (Operand.tmp _) => whnf)); exact Grows.refl _)))) ?_
            repeat (first | (apply free_pure rfl; focus (intro vs w hg hd;  (try simp [Region.binds] at hd); simp only [execOp, resolve, Option.map_some, Option.map_none, List.map_toArray, List.map_cons, List.map_nil, rho_const, rho_func]; (repeat (conv in rho _ _ _ _ (Operand.tmp _) => whnf)); (try simp only [hd]); go_simp; (repeat (conv in rho _ _ _ _ (Operand.tmp _) => whnf)); (try simp only [hd]); (try simp only [hLT]); rfl)) | (apply free_gpure; (focus (intro vs w hg hd; (try simp [Region.binds] at hd); (first | (simp [Region.wanted, yieldR]; (repeat (conv in rho _ _ _ _ (Operand.tmp _) => whnf)); simp [hd]; done) | (simp [Region.wanted, yieldR]; (repeat (conv in rho _ _ _ _ (Operand.tmp _) => whnf)); simp [hd, undef]; done) | (simp [Region.wanted, yieldR]; (repeat (conv in rho _ _ _ _ (Operand.tmp _) => whnf)); (try simp [hd]); simp [*])))); focus (intro vs w hg hd;  (try simp [Region.binds] at hd); simp only [execOp, resolve, Option.map_some, Option.map_none, List.map_toArray, List.map_cons, List.map_nil, rho_const, rho_func]; (repeat (conv in rho _ _ _ _ (Operand.tmp _) => whnf)); (try simp only [hd]); go_simp; (repeat (conv in rho _ _ _ _ (Operand.tmp _) => whnf)); (try simp only [hd]); (try simp only [hLT]); rfl)))
            intro vs w' hg hv; have h25 := hv 25 (by omega); simp at h25; simp only [putL, dstAt, List.range, List.range.loop, if_true, List.getElem?_toArray, List.getElem?_cons_zero, List.getElem?_cons_succ, Option.bind_some, Act.put, List.setIfInBounds_toArray, List.set_cons_zero, List.set_cons_succ]
            rw [h25]
            have hgW := Lib.hid (HB.out.trans (Grows.of_drew hg))
            clear hv h25 hg
            generalize vs 0 = z0, vs 1 = z1, vs 2 = z2, vs 3 = z3, vs 4 = z4, vs 5 = z5, vs 6 = z6, vs 7 = z7, vs 8 = z8, vs 9 = z9, vs 10 = z10, vs 11 = z11, vs 12 = z12, vs 13 = z13, vs 14 = z14, vs 15 = z15, vs 16 = z16, vs 17 = z17, vs 18 = z18, vs 19 = z19, vs 20 = z20, vs 21 = z21, vs 22 = z22, vs 23 = z23, vs 24 = z24, vs 25 = z25 at *
            go_wp2
            go_ret
            exact ⟨by rw [HNo.out (by trivial)]; rfl, hgW.out⟩
          · go_wp2
            refine wp_region_free 26 39 (by kernel_rfl) (by kernel_rfl) rfl (by kernel_rfl) ?_; simp only [List.take_succ_cons, List.take_zero, List.drop_succ_cons, List.drop_zero]
            repeat (apply free_pure rfl; focus (intro vs w hg hd;  (try simp [Region.binds] at hd); simp only [execOp, resolve, Option.map_some, Option.map_none, List.map_toArray, List.map_cons, List.map_nil, rho_const, rho_func]; (repeat (conv in rho _ _ _ _ (Operand.tmp _) => whnf)); (try simp only [hd]); go_simp; (repeat (conv in rho _ _ _ _ (Operand.tmp _) => whnf)); (try simp only [hd]);  rfl))
            refine free_op (fun v_ _ => v_ = .agg (rawA r)) rfl (dk_mono _) (fun vs wq hg hd => by
              (try simp [Region.binds] at hd)
              refine dk_load 45 (.tmp 12) ⟨g1, o1 + k * 8, none⟩ _ rfl ?_ (item_run_load (range_grows HC.out (Grows.of_drew hg))) ⟨Grows.refl _, rfl⟩
              (conv in rho _ _ _ _ (Operand.tmp _) => whnf)
              simp [hd]) ?_
            refine free_op (fun v_ _ => v_ = .bool true) rfl (dk_mono _) (fun vs wq hg hd => by
              (try simp [Region.binds] at hd); simp only [Does]; simp only [execOp, resolve, Option.map_some, Option.map_none, List.map_toArray, List.map_cons, List.map_nil, rho_const, rho_func]; (repeat (conv in rho _ _ _ _ (Operand.tmp _) => whnf)); (try simp only [hd]); go_simp; (repeat (conv in rho _ _ _ _ (Operand.tmp _) => whnf))
              exact HRT.out _ (HR.out.grows (Grows.of_drew hg))) ?_
            repeat (apply free_pure rfl; focus (intro vs w hg hd;  (try simp [Region.binds] at hd); simp only [execOp, resolve, Option.map_some, Option.map_none, List.map_toArray, List.map_cons, List.map_nil, rho_const, rho_func]; (repeat (conv in rho _ _ _ _ (Operand.tmp _) => whnf)); (try simp only [hd]); go_simp; (repeat (conv in rho _ _ _ _ (Operand.tmp _) => whnf)); (try simp only [hd]);  rfl))
            repeat (first | (apply free_pure rfl; focus (intro vs w hg hd; have q0 := hg.cell hy0; (try simp [Region.binds] at hd); simp only [execOp, resolve, Option.map_some, Option.map_none, List.map_toArray, List.map_cons, List.map_nil, rho_const, rho_func]; (repeat (conv in rho _ _ _ _ (Operand.tmp _) => whnf)); (try simp only [hd]); go_simp; (repeat (conv in rho _ _ _ _ (Operand.tmp _) => whnf)); (try simp only [hd]); (try simp only [u4, u5]); rfl)) | (apply free_gpure; (focus (intro vs w hg hd; (try simp [Region.binds] at hd); (first | (simp [Region.wanted, yieldR]; (repeat (conv in rho _ _ _ _ (Operand.tmp _) => whnf)); simp [hd]; done) | (simp [Region.wanted, yieldR]; (repeat (conv in rho _ _ _ _ (Operand.tmp _) => whnf)); simp [hd, undef]; done) | (simp [Region.wanted, yieldR]; (repeat (conv in rho _ _ _ _ (Operand.tmp _) => whnf)); (try simp [hd]); simp [*])))); focus (intro vs w hg hd; have q0 := hg.cell hy0; (try simp [Region.binds] at hd); simp only [execOp, resolve, Option.map_some, Option.map_none, List.map_toArray, List.map_cons, List.map_nil, rho_const, rho_func]; (repeat (conv in rho _ _ _ _ (Operand.tmp _) => whnf)); (try simp only [hd]); go_simp; (repeat (conv in rho _ _ _ _ (Operand.tmp _) => whnf)); (try simp only [hd]); (try simp only [u4, u5]); rfl)))
            refine free_guarded (fun v_ _ => v_ = .string (str (y.key))) (dk_mono _) (fun vs wq hg hd => by ((try simp [Region.binds] at hd); refine ⟨?_, ?_⟩; (focus (first | (simp [Region.wanted, yieldR]; (repeat (conv in rho _ _ _ _ (Operand.tmp _) => whnf)); simp [hd]; done) | (simp [Region.wanted, yieldR]; (repeat (conv in rho _ _ _ _ (Operand.tmp _) => whnf)); simp [hd, undef]; done) | (simp [Region.wanted, yieldR]; (repeat (conv in rho _ _ _ _ (Operand.tmp _) => whnf)); (try simp [hd]); simp [*]))); (focus (have e1 := run_str (P := Tryd.prog) (Sl.below HK2.out (Grows.of_drew hg)) 37 5 9 Tryd.underlying37 Tryd.underlying5 Tryd.underlying9; simp only [Does]; simp only [execOp, resolve, Option.map_some, Option.map_none, List.map_toArray, List.map_cons, List.map_nil, rho_const, rho_func]; (repeat (conv in rho _ _ _ _ (Operand.tmp _) => whnf)); (try simp only [hd]); go_simp; (repeat (conv in rho _ _ _ _ (Operand.tmp _) => whnf)); exact Grows.refl _)))) ?_
            repeat (first | (apply free_pure rfl; focus (intro vs w hg hd; have q0 := hg.cell hx0; (try simp [Region.binds] at hd); simp only [execOp, resolve, Option.map_some, Option.map_none, List.map_toArray, List.map_cons, List.map_nil, rho_const, rho_func]; (repeat (conv in rho _ _ _ _ (Operand.tmp _) => whnf)); (try simp only [hd]); go_simp; (repeat (conv in rho _ _ _ _ (Operand.tmp _) => whnf)); (try simp only [hd]);  rfl)) | (apply free_gpure; (focus (intro vs w hg hd; (try simp [Region.binds] at hd); (first | (simp [Region.wanted, yieldR]; (repeat (conv in rho _ _ _ _ (Operand.tmp _) => whnf)); simp [hd]; done) | (simp [Region.wanted, yieldR]; (repeat (conv in rho _ _ _ _ (Operand.tmp _) => whnf)); simp [hd, undef]; done) | (simp [Region.wanted, yieldR]; (repeat (conv in rho _ _ _ _ (Operand.tmp _) => whnf)); (try simp [hd]); simp [*])))); focus (intro vs w hg hd; have q0 := hg.cell hx0; (try simp [Region.binds] at hd); simp only [execOp, resolve, Option.map_some, Option.map_none, List.map_toArray, List.map_cons, List.map_nil, rho_const, rho_func]; (repeat (conv in rho _ _ _ _ (Operand.tmp _) => whnf)); (try simp only [hd]); go_simp; (repeat (conv in rho _ _ _ _ (Operand.tmp _) => whnf)); (try simp only [hd]);  rfl)))
            refine free_guarded (fun v_ _ => v_ = .string (str (x.key))) (dk_mono _) (fun vs wq hg hd => by ((try simp [Region.binds] at hd); refine ⟨?_, ?_⟩; (focus (first | (simp [Region.wanted, yieldR]; (repeat (conv in rho _ _ _ _ (Operand.tmp _) => whnf)); simp [hd]; done) | (simp [Region.wanted, yieldR]; (repeat (conv in rho _ _ _ _ (Operand.tmp _) => whnf)); simp [hd, undef]; done) | (simp [Region.wanted, yieldR]; (repeat (conv in rho _ _ _ _ (Operand.tmp _) => whnf)); (try simp [hd]); simp [*]))); (focus (have e1 := run_str (P := Tryd.prog) (Sl.below HK.out (Grows.of_drew hg)) 37 5 9 Tryd.underlying37 Tryd.underlying5 Tryd.underlying9; simp only [Does]; simp only [execOp, resolve, Option.map_some, Option.map_none, List.map_toArray, List.map_cons, List.map_nil, rho_const, rho_func]; (repeat (conv in rho _ _ _ _ (Operand.tmp _) => whnf)); (try simp only [hd]); go_simp; (repeat (conv in rho _ _ _ _ (Operand.tmp _) => whnf)); exact Grows.refl _)))) ?_
            repeat (first | (apply free_pure rfl; focus (intro vs w hg hd;  (try simp [Region.binds] at hd); simp only [execOp, resolve, Option.map_some, Option.map_none, List.map_toArray, List.map_cons, List.map_nil, rho_const, rho_func]; (repeat (conv in rho _ _ _ _ (Operand.tmp _) => whnf)); (try simp only [hd]); go_simp; (repeat (conv in rho _ _ _ _ (Operand.tmp _) => whnf)); (try simp only [hd]); (try simp only [hLT]); rfl)) | (apply free_gpure; (focus (intro vs w hg hd; (try simp [Region.binds] at hd); (first | (simp [Region.wanted, yieldR]; (repeat (conv in rho _ _ _ _ (Operand.tmp _) => whnf)); simp [hd]; done) | (simp [Region.wanted, yieldR]; (repeat (conv in rho _ _ _ _ (Operand.tmp _) => whnf)); simp [hd, undef]; done) | (simp [Region.wanted, yieldR]; (repeat (conv in rho _ _ _ _ (Operand.tmp _) => whnf)); (try simp [hd]); simp [*])))); focus (intro vs w hg hd;  (try simp [Region.binds] at hd); simp only [execOp, resolve, Option.map_some, Option.map_none, List.map_toArray, List.map_cons, List.map_nil, rho_const, rho_func]; (repeat (conv in rho _ _ _ _ (Operand.tmp _) => whnf)); (try simp only [hd]); go_simp; (repeat (conv in rho _ _ _ _ (Operand.tmp _) => whnf)); (try simp only [hd]); (try simp only [hLT]); rfl)))
            intro vs w' hg hv; have h25 := hv 25 (by omega); simp at h25; simp only [putL, dstAt, List.range, List.range.loop, if_true, List.getElem?_toArray, List.getElem?_cons_zero, List.getElem?_cons_succ, Option.bind_some, Act.put, List.setIfInBounds_toArray, List.set_cons_zero, List.set_cons_succ]
            rw [h25]
            have hgW := Lib.hid (HB.out.trans (Grows.of_drew hg))
            clear hv h25 hg
            generalize vs 0 = z0, vs 1 = z1, vs 2 = z2, vs 3 = z3, vs 4 = z4, vs 5 = z5, vs 6 = z6, vs 7 = z7, vs 8 = z8, vs 9 = z9, vs 10 = z10, vs 11 = z11, vs 12 = z12, vs 13 = z13, vs 14 = z14, vs 15 = z15, vs 16 = z16, vs 17 = z17, vs 18 = z18, vs 19 = z19, vs 20 = z20, vs 21 = z21, vs 22 = z22, vs 23 = z23, vs 24 = z24, vs 25 = z25 at *
            go_wp2
            go_roundw
            case rel => exact ⟨k + 1, by omega, by go_num, HYes.out (by trivial), hgW.out⟩
            case measure => simp [intOf]; omega
    · obtain rfl : k = l.length := by omega
      have HE := Lib.hid (LeafM.right_end HGr.out)
      by_cases hgt : l.length ≤ 6
      · have hgt' : (l.length : Int) ≤ 6 := by omega
        have HT : Hid (decide (l.length ≤ 6) = true) := decide_eq_true hgt
        go_wp2
        go_ret
        exact ⟨by rw [HE.out, HT.out]; rfl, HB.out⟩
      · have hgt' : ¬ (l.length : Int) ≤ 6 := by omega
        have HT : Hid (decide (l.length ≤ 6) = false) := decide_eq_false hgt
        go_wp2
        go_ret
        exact ⟨by rw [HE.out, HT.out]; rfl, HB.out⟩
end Go.Proofs.YthdncpkmhodokaaDoor
/- Layer 6's own answer: may items be? -/
namespace Go.Proofs.YthdncpkmhodokaaDoor
open Go.RowKit
set_option linter.unusedVariables false
set_option linter.unusedSimpArgs false
theorem LeafM.right_long {l : List It} (h : 6 < l.length) : LeafM.right l = false := by
  unfold LeafM.right
  rw [decide_eq_false (p := l.length ≤ 6) (by omega), Bool.and_false]
theorem LeafM.right_short {l : List It} (h : (List.range l.length).all (LeafM.okAt l) = true) (hl : l.length ≤ 6) : LeafM.right l = true := by
  rw [LeafM.right_end h]; exact decide_eq_true hl
set_option maxRecDepth 20000 in
set_option maxHeartbeats 4000000 in
theorem right6_any (v : Value) (l : List It) (w : World) (hv : Its w.heap.size w v l) :
    Calls Tryd.prog 15 #[v] w fun e w' => e = .returned (.bool (LeafM.right l)) ∧ Grows w w' := by
  obtain ⟨A, cap, rfl, q1, q2, q3⟩ := hv.form
  have HQ := Lib.hid q3
  clear q3 hv
  unfold maxLen at q2
  by_cases hgt : 6 < l.length
  · have hgt' : (6 : Int) < l.length := by omega
    have HE := Lib.hid (LeafM.right_long hgt)
    go_enter Tryd.func15, Tryd.ntmps15
    go_wp2
    go_ret
    exact ⟨by rw [HE.out]; rfl, Grows.refl _⟩
  have hgt' : ¬ (6 : Int) < l.length := by omega
  have hle : l.length ≤ 6 := by omega
  go_enter Tryd.func15, Tryd.ntmps15
  go_wp2
  go_loopw [3, 4, 10] (fun _ _ i wr => ∃ k : Nat, k ≤ l.length ∧ i = .int .i64 k ∧ (List.range k).all (LeafM.okAt l) = true ∧ Grows w wr) (fun _ _ i _ => l.length - (intOf i).toNat)
  case atStart => exact ⟨0, Nat.zero_le _, rfl, rfl, Grows.refl _⟩
  case round =>
    obtain ⟨k, hk, rfl, hg, hb⟩ := hrel
    have HGr := Lib.hid hg; have HB := Lib.hid hb
    clear hg hb
    by_cases hlt : k < l.length
    · obtain ⟨g1, o1, rfl, hg1, hcA⟩ := HQ.out (by omega)
      have e1 : l[k]? = some l[k] := List.getElem?_eq_getElem hlt
      obtain ⟨r, hr, hc⟩ := hcA k _ e1
      have HC := Lib.hid (rangeAt_keep hc (fun a ha => Below.cell HB.out (by omega)))
      have HRw := Lib.hid hr
      have HRT := Lib.hid (fun W (h : RawIs (World.heap W).size W r l[k]) => maybe_any r l[k] W h)
      have HNo := Lib.hid (fun h => LeafM.right_false (k := k) hlt h)
      have HYes := Lib.hid (fun h => LeafM.all_step (k := k) HGr.out h)
      have HZ := Lib.hid (Row.new wr 45 #[.slice none 0 0, .slice none 0 0, .int .u8 0, .int .u16 0, .int .u16 0, .int .u32 0, .int .u64 0, .int .u16 0])
      obtain ⟨oa, hoa⟩ : ∃ oa, oa = LeafM.okAt l k := ⟨_, rfl⟩
      rw [← hoa] at HNo HYes
      by_cases hz : k = 0
      · subst hz
        rw [LeafM.okAt_zero e1] at hoa
        rw [hoa] at HNo HYes
        clear hoa hc hcA hr e1
        generalize l[0] = x at *
        generalize LeafM.ok x = t at *
        cases t
        · go_wp2_with (first
            | ((with_reducible refine wpList_load_itAt (op := ⟨some 14, _, _, _, _, _⟩) ?_ (.tmp 13) ?_ g1 (o1 + 0 * 8) r ?_ ?_ ?_); exact rfl; exact rfl; exact rfl; exact HC.out)
            | ((with_reducible refine wpList_store_it ?_ (.tmp 4) (.tmp 14) ?_ wr.heap.size r #[.slice none 0 0, .slice none 0 0, .int .u8 0, .int .u16 0, .int .u16 0, .int .u32 0, .int .u64 0, .int .u16 0] ?_ ?_ ?_ ?_ ?_); exact rfl; exact rfl; exact rfl; exact rfl; exact rfl; exact HZ.out; intro w1 hp hg; have P1 := Lib.hid (rawA_row hp); have G1 := Lib.hid (HB.out.trans (grown_fresh (W := wr) (W' := w1) rfl hg)); clear hp hg))
          refine wp_region_free 19 35 (by kernel_rfl) (by kernel_rfl) rfl (by kernel_rfl) ?_; simp only [List.take_succ_cons, List.take_zero, List.drop_succ_cons, List.drop_zero]
          refine free_op (fun v_ _ => v_ = .agg (rawA r)) rfl (dk_mono _) (fun vs wq hg hd => by
            (try simp [Region.binds] at hd)
            refine dk_load 45 (.tmp 4) ⟨wr.heap.size, 0, none⟩ _ rfl ?_ (item_run_load (range_grows P1.out (Grows.of_drew hg))) ⟨Grows.refl _, rfl⟩
            (conv in rho _ _ _ _ (Operand.tmp _) => whnf)
            (try simp [hd])) ?_
          refine free_op (fun v_ _ => v_ = .bool false) rfl (dk_mono _) (fun vs wq hg hd => by
            (try simp [Region.binds] at hd); simp only [Does]; simp only [execOp, resolve, Option.map_some, Option.map_none, List.map_toArray, List.map_cons, List.map_nil, rho_const, rho_func]; (repeat (conv in rho _ _ _ _ (Operand.tmp _) => whnf)); (try simp only [hd]); go_simp; (repeat (conv in rho _ _ _ _ (Operand.tmp _) => whnf))
            exact HRT.out _ (HRw.out.grows (G1.out.trans (Grows.of_drew hg)))) ?_
          repeat (apply free_pure rfl; focus (intro vs w hg hd;  (try simp [Region.binds] at hd); simp only [execOp, resolve, Option.map_some, Option.map_none, List.map_toArray, List.map_cons, List.map_nil, rho_const, rho_func]; (repeat (conv in rho _ _ _ _ (Operand.tmp _) => whnf)); (try simp only [hd]); go_simp; (repeat (conv in rho _ _ _ _ (Operand.tmp _) => whnf)); (try simp only [hd]);  rfl))
          repeat (refine free_passed (fun vs wq hg hd => ?_) ?_; focus ((try simp [Region.binds] at hd); (first | (simp [Region.wanted, yieldR]; (repeat (conv in rho _ _ _ _ (Operand.tmp _) => whnf)); simp [hd]; done) | (simp [Region.wanted, yieldR]; (repeat (conv in rho _ _ _ _ (Operand.tmp _) => whnf)); simp [hd, undef]; done) | (simp [Region.wanted, yieldR]; (repeat (conv in rho _ _ _ _ (Operand.tmp _) => whnf)); (try simp [hd]); simp [*]))))
          repeat (first | (apply free_pure rfl; focus (intro vs w hg hd;  (try simp [Region.binds] at hd); simp only [execOp, resolve, Option.map_some, Option.map_none, List.map_toArray, List.map_cons, List.map_nil, rho_const, rho_func]; (repeat (conv in rho _ _ _ _ (Operand.tmp _) => whnf)); (try simp only [hd]); go_simp; (repeat (conv in rho _ _ _ _ (Operand.tmp _) => whnf)); (try simp only [hd]);  rfl)) | (apply free_gpure; (focus (intro vs w hg hd; (try simp [Region.binds] at hd); (first | (simp [Region.wanted, yieldR]; (repeat (conv in rho _ _ _ _ (Operand.tmp _) => whnf)); simp [hd]; done) | (simp [Region.wanted, yieldR]; (repeat (conv in rho _ _ _ _ (Operand.tmp _) => whnf)); simp [hd, undef]; done) | (simp [Region.wanted, yieldR]; (repeat (conv in rho _ _ _ _ (Operand.tmp _) => whnf)); (try simp [hd]); simp [*])))); focus (intro vs w hg hd;  (try simp [Region.binds] at hd); simp only [execOp, resolve, Option.map_some, Option.map_none, List.map_toArray, List.map_cons, List.map_nil, rho_const, rho_func]; (repeat (conv in rho _ _ _ _ (Operand.tmp _) => whnf)); (try simp only [hd]); go_simp; (repeat (conv in rho _ _ _ _ (Operand.tmp _) => whnf)); (try simp only [hd]);  rfl)))
          intro vs w' hg hv; have h18 := hv 18 (by omega); simp at h18; simp only [putL, dstAt, List.range, List.range.loop, if_true, List.getElem?_toArray, List.getElem?_cons_zero, List.getElem?_cons_succ, Option.bind_some, Act.put, List.setIfInBounds_toArray, List.set_cons_zero, List.set_cons_succ]
          rw [h18]
          have hgW := Lib.hid (G1.out.trans (Grows.of_drew hg))
          clear hv h18 hg
          generalize vs 0 = z0, vs 1 = z1, vs 2 = z2, vs 3 = z3, vs 4 = z4, vs 5 = z5, vs 6 = z6, vs 7 = z7, vs 8 = z8, vs 9 = z9, vs 10 = z10, vs 11 = z11, vs 12 = z12, vs 13 = z13, vs 14 = z14, vs 15 = z15, vs 16 = z16, vs 17 = z17, vs 18 = z18 at *
          go_wp2
          go_ret
          exact ⟨by rw [HNo.out (by trivial)]; rfl, hgW.out⟩
        · go_wp2_with (first
            | ((with_reducible refine wpList_load_itAt (op := ⟨some 14, _, _, _, _, _⟩) ?_ (.tmp 13) ?_ g1 (o1 + 0 * 8) r ?_ ?_ ?_); exact rfl; exact rfl; exact rfl; exact HC.out)
            | ((with_reducible refine wpList_store_it ?_ (.tmp 4) (.tmp 14) ?_ wr.heap.size r #[.slice none 0 0, .slice none 0 0, .int .u8 0, .int .u16 0, .int .u16 0, .int .u32 0, .int .u64 0, .int .u16 0] ?_ ?_ ?_ ?_ ?_); exact rfl; exact rfl; exact rfl; exact rfl; exact rfl; exact HZ.out; intro w1 hp hg; have P1 := Lib.hid (rawA_row hp); have G1 := Lib.hid (HB.out.trans (grown_fresh (W := wr) (W' := w1) rfl hg)); clear hp hg))
          refine wp_region_free 19 35 (by kernel_rfl) (by kernel_rfl) rfl (by kernel_rfl) ?_; simp only [List.take_succ_cons, List.take_zero, List.drop_succ_cons, List.drop_zero]
          refine free_op (fun v_ _ => v_ = .agg (rawA r)) rfl (dk_mono _) (fun vs wq hg hd => by
            (try simp [Region.binds] at hd)
            refine dk_load 45 (.tmp 4) ⟨wr.heap.size, 0, none⟩ _ rfl ?_ (item_run_load (range_grows P1.out (Grows.of_drew hg))) ⟨Grows.refl _, rfl⟩
            (conv in rho _ _ _ _ (Operand.tmp _) => whnf)
            (try simp [hd])) ?_
          refine free_op (fun v_ _ => v_ = .bool true) rfl (dk_mono _) (fun vs wq hg hd => by
            (try simp [Region.binds] at hd); simp only [Does]; simp only [execOp, resolve, Option.map_some, Option.map_none, List.map_toArray, List.map_cons, List.map_nil, rho_const, rho_func]; (repeat (conv in rho _ _ _ _ (Operand.tmp _) => whnf)); (try simp only [hd]); go_simp; (repeat (conv in rho _ _ _ _ (Operand.tmp _) => whnf))
            exact HRT.out _ (HRw.out.grows (G1.out.trans (Grows.of_drew hg)))) ?_
          repeat (apply free_pure rfl; focus (intro vs w hg hd;  (try simp [Region.binds] at hd); simp only [execOp, resolve, Option.map_some, Option.map_none, List.map_toArray, List.map_cons, List.map_nil, rho_const, rho_func]; (repeat (conv in rho _ _ _ _ (Operand.tmp _) => whnf)); (try simp only [hd]); go_simp; (repeat (conv in rho _ _ _ _ (Operand.tmp _) => whnf)); (try simp only [hd]);  rfl))
          repeat (first | (apply free_pure rfl; focus (intro vs w hg hd;  (try simp [Region.binds] at hd); simp only [execOp, resolve, Option.map_some, Option.map_none, List.map_toArray, List.map_cons, List.map_nil, rho_const, rho_func]; (repeat (conv in rho _ _ _ _ (Operand.tmp _) => whnf)); (try simp only [hd]); go_simp; (repeat (conv in rho _ _ _ _ (Operand.tmp _) => whnf)); (try simp only [hd]);  rfl)) | (apply free_gpure; (focus (intro vs w hg hd; (try simp [Region.binds] at hd); (first | (simp [Region.wanted, yieldR]; (repeat (conv in rho _ _ _ _ (Operand.tmp _) => whnf)); simp [hd]; done) | (simp [Region.wanted, yieldR]; (repeat (conv in rho _ _ _ _ (Operand.tmp _) => whnf)); simp [hd, undef]; done) | (simp [Region.wanted, yieldR]; (repeat (conv in rho _ _ _ _ (Operand.tmp _) => whnf)); (try simp [hd]); simp [*])))); focus (intro vs w hg hd;  (try simp [Region.binds] at hd); simp only [execOp, resolve, Option.map_some, Option.map_none, List.map_toArray, List.map_cons, List.map_nil, rho_const, rho_func]; (repeat (conv in rho _ _ _ _ (Operand.tmp _) => whnf)); (try simp only [hd]); go_simp; (repeat (conv in rho _ _ _ _ (Operand.tmp _) => whnf)); (try simp only [hd]);  rfl)))
          repeat (refine free_passed (fun vs wq hg hd => ?_) ?_; focus ((try simp [Region.binds] at hd); (first | (simp [Region.wanted, yieldR]; (repeat (conv in rho _ _ _ _ (Operand.tmp _) => whnf)); simp [hd]; done) | (simp [Region.wanted, yieldR]; (repeat (conv in rho _ _ _ _ (Operand.tmp _) => whnf)); simp [hd, undef]; done) | (simp [Region.wanted, yieldR]; (repeat (conv in rho _ _ _ _ (Operand.tmp _) => whnf)); (try simp [hd]); simp [*]))))
          repeat (first | (apply free_pure rfl; focus (intro vs w hg hd;  (try simp [Region.binds] at hd); simp only [execOp, resolve, Option.map_some, Option.map_none, List.map_toArray, List.map_cons, List.map_nil, rho_const, rho_func]; (repeat (conv in rho _ _ _ _ (Operand.tmp _) => whnf)); (try simp only [hd]); go_simp; (repeat (conv in rho _ _ _ _ (Operand.tmp _) => whnf)); (try simp only [hd]);  rfl)) | (apply free_gpure; (focus (intro vs w hg hd; (try simp [Region.binds] at hd); (first | (simp [Region.wanted, yieldR]; (repeat (conv in rho _ _ _ _ (Operand.tmp _) => whnf)); simp [hd]; done) | (simp [Region.wanted, yieldR]; (repeat (conv in rho _ _ _ _ (Operand.tmp _) => whnf)); simp [hd, undef]; done) | (simp [Region.wanted, yieldR]; (repeat (conv in rho _ _ _ _ (Operand.tmp _) => whnf)); (try simp [hd]); simp [*])))); focus (intro vs w hg hd;  (try simp [Region.binds] at hd); simp only [execOp, resolve, Option.map_some, Option.map_none, List.map_toArray, List.map_cons, List.map_nil, rho_const, rho_func]; (repeat (conv in rho _ _ _ _ (Operand.tmp _) => whnf)); (try simp only [hd]); go_simp; (repeat (conv in rho _ _ _ _ (Operand.tmp _) => whnf)); (try simp only [hd]);  rfl)))
          intro vs w' hg hv; have h18 := hv 18 (by omega); simp at h18; simp only [putL, dstAt, List.range, List.range.loop, if_true, List.getElem?_toArray, List.getElem?_cons_zero, List.getElem?_cons_succ, Option.bind_some, Act.put, List.setIfInBounds_toArray, List.set_cons_zero, List.set_cons_succ]
          rw [h18]
          have hgW := Lib.hid (G1.out.trans (Grows.of_drew hg))
          clear hv h18 hg
          generalize vs 0 = z0, vs 1 = z1, vs 2 = z2, vs 3 = z3, vs 4 = z4, vs 5 = z5, vs 6 = z6, vs 7 = z7, vs 8 = z8, vs 9 = z9, vs 10 = z10, vs 11 = z11, vs 12 = z12, vs 13 = z13, vs 14 = z14, vs 15 = z15, vs 16 = z16, vs 17 = z17, vs 18 = z18 at *
          go_wp2
          go_roundw
          case rel => exact ⟨0 + 1, by omega, by go_num, HYes.out (by trivial), hgW.out⟩
          case measure => simp [intOf]; omega
      · obtain ⟨m, hm⟩ : ∃ m, m + 1 = k := ⟨k - 1, by omega⟩
        have e2 : l[m]? = some (l[m]'(by omega)) := List.getElem?_eq_getElem (by omega)
        obtain ⟨r2, hr2, hc2⟩ := hcA m _ e2
        have HC2 := Lib.hid (fun W (h : Grows w W) => (raw_at (rangeAt_keep hc2 (fun a ha => Below.cell h (by omega)))).1)
        have HK2 := Lib.hid hr2
        have hos := LeafM.okAt_succ (l := l) (k := m) (x := l[k]) (y := l[m]'(by omega)) (by rw [hm]; exact e1) e2
        rw [hm, ← hoa] at hos
        rw [hos] at HNo HYes
        have u1 : IntKind.i64.wrap ((k : Int) - 1) = m := by rw [IntWalk.i64_in _ (by omega)]; omega
        have u2 : (0 : Int) < k := by omega
        have u3 : (m : Int) < l.length := by omega
        have u4 : decide ((0 : Int) < k) = true := decide_eq_true u2
        have u5 : decide (0 < k) = true := decide_eq_true (by omega)
        generalize l[m]'(by omega) = y at *
        generalize l[k] = x at *
        clear hos hoa hc hcA hr e1 e2 hc2 hr2 hm hz
        have hcl := cmpI_lt y.key x.key
        have HBC := Lib.hid (fun W h1 h2 => bcompare_any (.slice r2.ka r2.kn r2.kc) (.slice r.ka r.kn r.kc) y.key x.key W h1 h2)
        generalize cmpI y.key x.key = ci at *
        generalize LeafM.ok x = t at *
        generalize LeafM.lt y.key x.key = tl at *
        cases t
        · go_wp2_with (first
            | ((with_reducible refine wpList_load_itAt (op := ⟨some 14, _, _, _, _, _⟩) ?_ (.tmp 13) ?_ g1 (o1 + k * 8) r ?_ ?_ ?_); exact rfl; exact rfl; exact rfl; exact HC.out)
            | ((with_reducible refine wpList_store_it ?_ (.tmp 4) (.tmp 14) ?_ wr.heap.size r #[.slice none 0 0, .slice none 0 0, .int .u8 0, .int .u16 0, .int .u16 0, .int .u32 0, .int .u64 0, .int .u16 0] ?_ ?_ ?_ ?_ ?_); exact rfl; exact rfl; exact rfl; exact rfl; exact rfl; exact HZ.out; intro w1 hp hg; have P1 := Lib.hid (rawA_row hp); have G1 := Lib.hid (HB.out.trans (grown_fresh (W := wr) (W' := w1) rfl hg)); clear hp hg))
          refine wp_region_free 19 35 (by kernel_rfl) (by kernel_rfl) rfl (by kernel_rfl) ?_; simp only [List.take_succ_cons, List.take_zero, List.drop_succ_cons, List.drop_zero]
          refine free_op (fun v_ _ => v_ = .agg (rawA r)) rfl (dk_mono _) (fun vs wq hg hd => by
            (try simp [Region.binds] at hd)
            refine dk_load 45 (.tmp 4) ⟨wr.heap.size, 0, none⟩ _ rfl ?_ (item_run_load (range_grows P1.out (Grows.of_drew hg))) ⟨Grows.refl _, rfl⟩
            (conv in rho _ _ _ _ (Operand.tmp _) => whnf)
            (try simp [hd])) ?_
          refine free_op (fun v_ _ => v_ = .bool false) rfl (dk_mono _) (fun vs wq hg hd => by
            (try simp [Region.binds] at hd); simp only [Does]; simp only [execOp, resolve, Option.map_some, Option.map_none, List.map_toArray, List.map_cons, List.map_nil, rho_const, rho_func]; (repeat (conv in rho _ _ _ _ (Operand.tmp _) => whnf)); (try simp only [hd]); go_simp; (repeat (conv in rho _ _ _ _ (Operand.tmp _) => whnf))
            exact HRT.out _ (HRw.out.grows (G1.out.trans (Grows.of_drew hg)))) ?_
          have hcl := Lib.hid hcl
          repeat (apply free_pure rfl; focus (intro vs w hg hd;  (try simp [Region.binds] at hd); simp only [execOp, resolve, Option.map_some, Option.map_none, List.map_toArray, List.map_cons, List.map_nil, rho_const, rho_func]; (repeat (conv in rho _ _ _ _ (Operand.tmp _) => whnf)); (try simp only [hd]); go_simp; (repeat (conv in rho _ _ _ _ (Operand.tmp _) => whnf)); (try simp only [hd]);  rfl))
          repeat (refine free_passed (fun vs wq hg hd => ?_) ?_; focus ((try simp [Region.binds] at hd); (first | (simp [Region.wanted, yieldR]; (repeat (conv in rho _ _ _ _ (Operand.tmp _) => whnf)); simp [hd]; done) | (simp [Region.wanted, yieldR]; (repeat (conv in rho _ _ _ _ (Operand.tmp _) => whnf)); simp [hd, undef]; done) | (simp [Region.wanted, yieldR]; (repeat (conv in rho _ _ _ _ (Operand.tmp _) => whnf)); (try simp [hd]); simp [*]))))
          repeat (first | (apply free_pure rfl; focus (intro vs w hg hd;  (try simp [Region.binds] at hd); simp only [execOp, resolve, Option.map_some, Option.map_none, List.map_toArray, List.map_cons, List.map_nil, rho_const, rho_func]; (repeat (conv in rho _ _ _ _ (Operand.tmp _) => whnf)); (try simp only [hd]); go_simp; (repeat (conv in rho _ _ _ _ (Operand.tmp _) => whnf)); (try simp only [hd]);  rfl)) | (apply free_gpure; (focus (intro vs w hg hd; (try simp [Region.binds] at hd); (first | (simp [Region.wanted, yieldR]; (repeat (conv in rho _ _ _ _ (Operand.tmp _) => whnf)); simp [hd]; done) | (simp [Region.wanted, yieldR]; (repeat (conv in rho _ _ _ _ (Operand.tmp _) => whnf)); simp [hd, undef]; done) | (simp [Region.wanted, yieldR]; (repeat (conv in rho _ _ _ _ (Operand.tmp _) => whnf)); (try simp [hd]); simp [*])))); focus (intro vs w hg hd;  (try simp [Region.binds] at hd); simp only [execOp, resolve, Option.map_some, Option.map_none, List.map_toArray, List.map_cons, List.map_nil, rho_const, rho_func]; (repeat (conv in rho _ _ _ _ (Operand.tmp _) => whnf)); (try simp only [hd]); go_simp; (repeat (conv in rho _ _ _ _ (Operand.tmp _) => whnf)); (try simp only [hd]);  rfl)))
          intro vs w' hg hv; have h18 := hv 18 (by omega); simp at h18; simp only [putL, dstAt, List.range, List.range.loop, if_true, List.getElem?_toArray, List.getElem?_cons_zero, List.getElem?_cons_succ, Option.bind_some, Act.put, List.setIfInBounds_toArray, List.set_cons_zero, List.set_cons_succ]
          rw [h18]
          have hgW := Lib.hid (G1.out.trans (Grows.of_drew hg))
          clear hv h18 hg
          generalize vs 0 = z0, vs 1 = z1, vs 2 = z2, vs 3 = z3, vs 4 = z4, vs 5 = z5, vs 6 = z6, vs 7 = z7, vs 8 = z8, vs 9 = z9, vs 10 = z10, vs 11 = z11, vs 12 = z12, vs 13 = z13, vs 14 = z14, vs 15 = z15, vs 16 = z16, vs 17 = z17, vs 18 = z18 at *
          go_wp2
          go_ret
          exact ⟨by rw [HNo.out (by trivial)]; rfl, hgW.out⟩
        · cases tl
          · have hcl : decide (0 ≤ ci) = true := hcl
            go_wp2_with (first
              | ((with_reducible refine wpList_load_itAt (op := ⟨some 14, _, _, _, _, _⟩) ?_ (.tmp 13) ?_ g1 (o1 + k * 8) r ?_ ?_ ?_); exact rfl; exact rfl; exact rfl; exact HC.out)
              | ((with_reducible refine wpList_store_it ?_ (.tmp 4) (.tmp 14) ?_ wr.heap.size r #[.slice none 0 0, .slice none 0 0, .int .u8 0, .int .u16 0, .int .u16 0, .int .u32 0, .int .u64 0, .int .u16 0] ?_ ?_ ?_ ?_ ?_); exact rfl; exact rfl; exact rfl; exact rfl; exact rfl; exact HZ.out; intro w1 hp hg; have P1 := Lib.hid (rawA_row hp); have G1 := Lib.hid (HB.out.trans (grown_fresh (W := wr) (W' := w1) rfl hg)); clear hp hg))
            have hy0 := HC2.out _ G1.out
            have x0 := (raw_at P1.out).1
            refine wp_region_free 19 35 (by kernel_rfl) (by kernel_rfl) rfl (by kernel_rfl) ?_; simp only [List.take_succ_cons, List.take_zero, List.drop_succ_cons, List.drop_zero]
            refine free_op (fun v_ _ => v_ = .agg (rawA r)) rfl (dk_mono _) (fun vs wq hg hd => by
              (try simp [Region.binds] at hd)
              refine dk_load 45 (.tmp 4) ⟨wr.heap.size, 0, none⟩ _ rfl ?_ (item_run_load (range_grows P1.out (Grows.of_drew hg))) ⟨Grows.refl _, rfl⟩
              (conv in rho _ _ _ _ (Operand.tmp _) => whnf)
              (try simp [hd])) ?_
            refine free_op (fun v_ _ => v_ = .bool true) rfl (dk_mono _) (fun vs wq hg hd => by
              (try simp [Region.binds] at hd); simp only [Does]; simp only [execOp, resolve, Option.map_some, Option.map_none, List.map_toArray, List.map_cons, List.map_nil, rho_const, rho_func]; (repeat (conv in rho _ _ _ _ (Operand.tmp _) => whnf)); (try simp only [hd]); go_simp; (repeat (conv in rho _ _ _ _ (Operand.tmp _) => whnf))
              exact HRT.out _ (HRw.out.grows (G1.out.trans (Grows.of_drew hg)))) ?_
            repeat (apply free_pure rfl; focus (intro vs w hg hd;  (try simp [Region.binds] at hd); simp only [execOp, resolve, Option.map_some, Option.map_none, List.map_toArray, List.map_cons, List.map_nil, rho_const, rho_func]; (repeat (conv in rho _ _ _ _ (Operand.tmp _) => whnf)); (try simp only [hd]); go_simp; (repeat (conv in rho _ _ _ _ (Operand.tmp _) => whnf)); (try simp only [hd]);  rfl))
            repeat (first | (apply free_pure rfl; focus (intro vs w hg hd; have q0 := hg.cell hy0; have q1 := hg.cell x0; (try simp [Region.binds] at hd); simp only [execOp, resolve, Option.map_some, Option.map_none, List.map_toArray, List.map_cons, List.map_nil, rho_const, rho_func]; (repeat (conv in rho _ _ _ _ (Operand.tmp _) => whnf)); (try simp only [hd]); go_simp; (repeat (conv in rho _ _ _ _ (Operand.tmp _) => whnf)); (try simp only [hd]); (try simp only [u4, u5]); rfl)) | (apply free_gpure; (focus (intro vs w hg hd; (try simp [Region.binds] at hd); (first | (simp [Region.wanted, yieldR]; (repeat (conv in rho _ _ _ _ (Operand.tmp _) => whnf)); simp [hd]; done) | (simp [Region.wanted, yieldR]; (repeat (conv in rho _ _ _ _ (Operand.tmp _) => whnf)); simp [hd, undef]; done) | (simp [Region.wanted, yieldR]; (repeat (conv in rho _ _ _ _ (Operand.tmp _) => whnf)); (try simp [hd]); simp [*])))); focus (intro vs w hg hd; have q0 := hg.cell hy0; have q1 := hg.cell x0; (try simp [Region.binds] at hd); simp only [execOp, resolve, Option.map_some, Option.map_none, List.map_toArray, List.map_cons, List.map_nil, rho_const, rho_func]; (repeat (conv in rho _ _ _ _ (Operand.tmp _) => whnf)); (try simp only [hd]); go_simp; (repeat (conv in rho _ _ _ _ (Operand.tmp _) => whnf)); (try simp only [hd]); (try simp only [u4, u5]); rfl)))
            refine free_guarded (fun v_ _ => v_ = .int .i64 ci) (dk_mono _) (fun vs wq hg hd => by
              (try simp [Region.binds] at hd)
              refine ⟨?_, ?_⟩
              · (first | (simp [Region.wanted, yieldR]; (repeat (conv in rho _ _ _ _ (Operand.tmp _) => whnf)); simp [hd]; done) | (simp [Region.wanted, yieldR]; (repeat (conv in rho _ _ _ _ (Operand.tmp _) => whnf)); simp [hd, undef]; done) | (simp [Region.wanted, yieldR]; (repeat (conv in rho _ _ _ _ (Operand.tmp _) => whnf)); (try simp [hd]); simp [*]))
              · have hbc := HBC.out _ (HK2.out.grows (G1.out.trans (Grows.of_drew hg))).1 (HRw.out.grows (G1.out.trans (Grows.of_drew hg))).1
                (try simp [Region.binds] at hd); simp only [Does]; simp only [execOp, resolve, Option.map_some, Option.map_none, List.map_toArray, List.map_cons, List.map_nil, rho_const, rho_func]; (repeat (conv in rho _ _ _ _ (Operand.tmp _) => whnf)); (try simp only [hd]); go_simp; (repeat (conv in rho _ _ _ _ (Operand.tmp _) => whnf))
                all_goals exact hbc) ?_
            repeat (first | (apply free_pure rfl; focus (intro vs w hg hd;  (try simp [Region.binds] at hd); simp only [execOp, resolve, Option.map_some, Option.map_none, List.map_toArray, List.map_cons, List.map_nil, rho_const, rho_func]; (repeat (conv in rho _ _ _ _ (Operand.tmp _) => whnf)); (try simp only [hd]); go_simp; (repeat (conv in rho _ _ _ _ (Operand.tmp _) => whnf)); (try simp only [hd]); (try simp only [hcl]); rfl)) | (apply free_gpure; (focus (intro vs w hg hd; (try simp [Region.binds] at hd); (first | (simp [Region.wanted, yieldR]; (repeat (conv in rho _ _ _ _ (Operand.tmp _) => whnf)); simp [hd]; done) | (simp [Region.wanted, yieldR]; (repeat (conv in rho _ _ _ _ (Operand.tmp _) => whnf)); simp [hd, undef]; done) | (simp [Region.wanted, yieldR]; (repeat (conv in rho _ _ _ _ (Operand.tmp _) => whnf)); (try simp [hd]); simp [*])))); focus (intro vs w hg hd;  (try simp [Region.binds] at hd); simp only [execOp, resolve, Option.map_some, Option.map_none, List.map_toArray, List.map_cons, List.map_nil, rho_const, rho_func]; (repeat (conv in rho _ _ _ _ (Operand.tmp _) => whnf)); (try simp only [hd]); go_simp; (repeat (conv in rho _ _ _ _ (Operand.tmp _) => whnf)); (try simp only [hd]); (try simp only [hcl]); rfl)))
            intro vs w' hg hv; have h18 := hv 18 (by omega); simp at h18; simp only [putL, dstAt, List.range, List.range.loop, if_true, List.getElem?_toArray, List.getElem?_cons_zero, List.getElem?_cons_succ, Option.bind_some, Act.put, List.setIfInBounds_toArray, List.set_cons_zero, List.set_cons_succ]
            rw [h18]
            have hgW := Lib.hid (G1.out.trans (Grows.of_drew hg))
            clear hv h18 hg
            generalize vs 0 = z0, vs 1 = z1, vs 2 = z2, vs 3 = z3, vs 4 = z4, vs 5 = z5, vs 6 = z6, vs 7 = z7, vs 8 = z8, vs 9 = z9, vs 10 = z10, vs 11 = z11, vs 12 = z12, vs 13 = z13, vs 14 = z14, vs 15 = z15, vs 16 = z16, vs 17 = z17, vs 18 = z18 at *
            go_wp2
            go_ret
            exact ⟨by rw [HNo.out (by trivial)]; rfl, hgW.out⟩
          · have hcl : decide (0 ≤ ci) = false := hcl
            go_wp2_with (first
              | ((with_reducible refine wpList_load_itAt (op := ⟨some 14, _, _, _, _, _⟩) ?_ (.tmp 13) ?_ g1 (o1 + k * 8) r ?_ ?_ ?_); exact rfl; exact rfl; exact rfl; exact HC.out)
              | ((with_reducible refine wpList_store_it ?_ (.tmp 4) (.tmp 14) ?_ wr.heap.size r #[.slice none 0 0, .slice none 0 0, .int .u8 0, .int .u16 0, .int .u16 0, .int .u32 0, .int .u64 0, .int .u16 0] ?_ ?_ ?_ ?_ ?_); exact rfl; exact rfl; exact rfl; exact rfl; exact rfl; exact HZ.out; intro w1 hp hg; have P1 := Lib.hid (rawA_row hp); have G1 := Lib.hid (HB.out.trans (grown_fresh (W := wr) (W' := w1) rfl hg)); clear hp hg))
            have hy0 := HC2.out _ G1.out
            have x0 := (raw_at P1.out).1
            refine wp_region_free 19 35 (by kernel_rfl) (by kernel_rfl) rfl (by kernel_rfl) ?_; simp only [List.take_succ_cons, List.take_zero, List.drop_succ_cons, List.drop_zero]
            refine free_op (fun v_ _ => v_ = .agg (rawA r)) rfl (dk_mono _) (fun vs wq hg hd => by
              (try simp [Region.binds] at hd)
              refine dk_load 45 (.tmp 4) ⟨wr.heap.size, 0, none⟩ _ rfl ?_ (item_run_load (range_grows P1.out (Grows.of_drew hg))) ⟨Grows.refl _, rfl⟩
              (conv in rho _ _ _ _ (Operand.tmp _) => whnf)
              (try simp [hd])) ?_
            refine free_op (fun v_ _ => v_ = .bool true) rfl (dk_mono _) (fun vs wq hg hd => by
              (try simp [Region.binds] at hd); simp only [Does]; simp only [execOp, resolve, Option.map_some, Option.map_none, List.map_toArray, List.map_cons, List.map_nil, rho_const, rho_func]; (repeat (conv in rho _ _ _ _ (Operand.tmp _) => whnf)); (try simp only [hd]); go_simp; (repeat (conv in rho _ _ _ _ (Operand.tmp _) => whnf))
              exact HRT.out _ (HRw.out.grows (G1.out.trans (Grows.of_drew hg)))) ?_
            repeat (apply free_pure rfl; focus (intro vs w hg hd;  (try simp [Region.binds] at hd); simp only [execOp, resolve, Option.map_some, Option.map_none, List.map_toArray, List.map_cons, List.map_nil, rho_const, rho_func]; (repeat (conv in rho _ _ _ _ (Operand.tmp _) => whnf)); (try simp only [hd]); go_simp; (repeat (conv in rho _ _ _ _ (Operand.tmp _) => whnf)); (try simp only [hd]);  rfl))
            repeat (first | (apply free_pure rfl; focus (intro vs w hg hd; have q0 := hg.cell hy0; have q1 := hg.cell x0; (try simp [Region.binds] at hd); simp only [execOp, resolve, Option.map_some, Option.map_none, List.map_toArray, List.map_cons, List.map_nil, rho_const, rho_func]; (repeat (conv in rho _ _ _ _ (Operand.tmp _) => whnf)); (try simp only [hd]); go_simp; (repeat (conv in rho _ _ _ _ (Operand.tmp _) => whnf)); (try simp only [hd]); (try simp only [u4, u5]); rfl)) | (apply free_gpure; (focus (intro vs w hg hd; (try simp [Region.binds] at hd); (first | (simp [Region.wanted, yieldR]; (repeat (conv in rho _ _ _ _ (Operand.tmp _) => whnf)); simp [hd]; done) | (simp [Region.wanted, yieldR]; (repeat (conv in rho _ _ _ _ (Operand.tmp _) => whnf)); simp [hd, undef]; done) | (simp [Region.wanted, yieldR]; (repeat (conv in rho _ _ _ _ (Operand.tmp _) => whnf)); (try simp [hd]); simp [*])))); focus (intro vs w hg hd; have q0 := hg.cell hy0; have q1 := hg.cell x0; (try simp [Region.binds] at hd); simp only [execOp, resolve, Option.map_some, Option.map_none, List.map_toArray, List.map_cons, List.map_nil, rho_const, rho_func]; (repeat (conv in rho _ _ _ _ (Operand.tmp _) => whnf)); (try simp only [hd]); go_simp; (repeat (conv in rho _ _ _ _ (Operand.tmp _) => whnf)); (try simp only [hd]); (try simp only [u4, u5]); rfl)))
            refine free_guarded (fun v_ _ => v_ = .int .i64 ci) (dk_mono _) (fun vs wq hg hd => by
              (try simp [Region.binds] at hd)
              refine ⟨?_, ?_⟩
              · (first | (simp [Region.wanted, yieldR]; (repeat (conv in rho _ _ _ _ (Operand.tmp _) => whnf)); simp [hd]; done) | (simp [Region.wanted, yieldR]; (repeat (conv in rho _ _ _ _ (Operand.tmp _) => whnf)); simp [hd, undef]; done) | (simp [Region.wanted, yieldR]; (repeat (conv in rho _ _ _ _ (Operand.tmp _) => whnf)); (try simp [hd]); simp [*]))
              · have hbc := HBC.out _ (HK2.out.grows (G1.out.trans (Grows.of_drew hg))).1 (HRw.out.grows (G1.out.trans (Grows.of_drew hg))).1
                (try simp [Region.binds] at hd); simp only [Does]; simp only [execOp, resolve, Option.map_some, Option.map_none, List.map_toArray, List.map_cons, List.map_nil, rho_const, rho_func]; (repeat (conv in rho _ _ _ _ (Operand.tmp _) => whnf)); (try simp only [hd]); go_simp; (repeat (conv in rho _ _ _ _ (Operand.tmp _) => whnf))
                all_goals exact hbc) ?_
            repeat (first | (apply free_pure rfl; focus (intro vs w hg hd;  (try simp [Region.binds] at hd); simp only [execOp, resolve, Option.map_some, Option.map_none, List.map_toArray, List.map_cons, List.map_nil, rho_const, rho_func]; (repeat (conv in rho _ _ _ _ (Operand.tmp _) => whnf)); (try simp only [hd]); go_simp; (repeat (conv in rho _ _ _ _ (Operand.tmp _) => whnf)); (try simp only [hd]); (try simp only [hcl]); rfl)) | (apply free_gpure; (focus (intro vs w hg hd; (try simp [Region.binds] at hd); (first | (simp [Region.wanted, yieldR]; (repeat (conv in rho _ _ _ _ (Operand.tmp _) => whnf)); simp [hd]; done) | (simp [Region.wanted, yieldR]; (repeat (conv in rho _ _ _ _ (Operand.tmp _) => whnf)); simp [hd, undef]; done) | (simp [Region.wanted, yieldR]; (repeat (conv in rho _ _ _ _ (Operand.tmp _) => whnf)); (try simp [hd]); simp [*])))); focus (intro vs w hg hd;  (try simp [Region.binds] at hd); simp only [execOp, resolve, Option.map_some, Option.map_none, List.map_toArray, List.map_cons, List.map_nil, rho_const, rho_func]; (repeat (conv in rho _ _ _ _ (Operand.tmp _) => whnf)); (try simp only [hd]); go_simp; (repeat (conv in rho _ _ _ _ (Operand.tmp _) => whnf)); (try simp only [hd]); (try simp only [hcl]); rfl)))
            intro vs w' hg hv; have h18 := hv 18 (by omega); simp at h18; simp only [putL, dstAt, List.range, List.range.loop, if_true, List.getElem?_toArray, List.getElem?_cons_zero, List.getElem?_cons_succ, Option.bind_some, Act.put, List.setIfInBounds_toArray, List.set_cons_zero, List.set_cons_succ]
            rw [h18]
            have hgW := Lib.hid (G1.out.trans (Grows.of_drew hg))
            clear hv h18 hg
            generalize vs 0 = z0, vs 1 = z1, vs 2 = z2, vs 3 = z3, vs 4 = z4, vs 5 = z5, vs 6 = z6, vs 7 = z7, vs 8 = z8, vs 9 = z9, vs 10 = z10, vs 11 = z11, vs 12 = z12, vs 13 = z13, vs 14 = z14, vs 15 = z15, vs 16 = z16, vs 17 = z17, vs 18 = z18 at *
            go_wp2
            go_roundw
            case rel => exact ⟨k + 1, by omega, by go_num, HYes.out (by trivial), hgW.out⟩
            case measure => simp [intOf]; omega
    · obtain rfl : k = l.length := by omega
      have HE := Lib.hid (LeafM.right_short HGr.out hle)
      go_wp2
      go_ret
      exact ⟨by rw [HE.out]; rfl, HB.out⟩
end Go.Proofs.YthdncpkmhodokaaDoor
