/- BrGreat BrBirthO BrLawM -/
import Derived.Test.YtjcommodiihcdaaDoorBrA
import Derived.Test.YtjcommodiihcdaaDoorPage
/- The document's Great and Birth for layer 7: kids too many or too long to be asked; the greatest birth. -/
namespace Go.Proofs.YtjcommodiihcdaaDoor
open Go.RowKit
set_option linter.unusedVariables false
set_option linter.unusedSimpArgs false
theorem wI_bound (x : BitVec 32) : 0 ≤ wI x ∧ wI x < 4294967296 := by
  have := x.isLt
  unfold wI
  omega
theorem birth_bound {l : List Kd} : 0 ≤ BrM.birth l ∧ BrM.birth l < 4294967296 := by
  unfold BrM.birth
  have : ∀ (l : List Kd) (n : Int), 0 ≤ n ∧ n < 4294967296 → 0 ≤ l.foldl (fun n x => max n (wI x.ptr.birth)) n ∧ l.foldl (fun n x => max n (wI x.ptr.birth)) n < 4294967296 := by
    intro l
    induction l with
    | nil => intro n h; exact h
    | cons x l ih =>
      intro n h
      rw [List.foldl_cons]
      have := wI_bound x.ptr.birth
      exact ih _ ⟨by omega, by omega⟩
  exact this l 0 (by omega)
set_option maxHeartbeats 1000000 in
theorem rgreat7_any (v : Value) (l : List Kd) (w : World) (hv : Kds w.heap.size w v l) :
    Calls Tryd.prog 8 #[v] w fun e w' => e = .returned (.bool (BrM.great l)) ∧ Grows w w' := by
  obtain ⟨A, cap, rfl, q1, q2, q3⟩ := hv.form
  have HQ := Lib.hid q3
  clear q3 hv
  unfold maxLen at q2
  go_enter Tryd.func8, Tryd.ntmps8
  go_wp2
  go_loopw [3] (fun i wr => ∃ k : Nat, k ≤ l.length ∧ k ≤ 21 ∧ i = .int .i64 k ∧ (l.take k).any BrM.big = false ∧ Grows w wr) (fun i _ => l.length - (intOf i).toNat)
  case atStart => exact ⟨0, Nat.zero_le _, by omega, rfl, rfl, Grows.refl _⟩
  case round =>
    obtain ⟨k, hk, hk2, rfl, hg, hb⟩ := hrel
    have HGr := Lib.hid hg; have HB := Lib.hid hb
    clear hg hb
    by_cases hlt : k < l.length
    · by_cases h20 : k ≤ 20
      · have h20' : (k : Int) ≤ 20 := by omega
        obtain ⟨g1, o1, rfl, hg1, hcA⟩ := HQ.out (by omega)
        have e1 : l[k]? = some l[k] := List.getElem?_eq_getElem hlt
        obtain ⟨r, hr, hc⟩ := hcA k _ e1
        obtain ⟨z0, _⟩ := kd_at hc
        have hc0 := (Below.cell HB.out (p := ⟨g1, o1 + k * 6, none⟩) hg1).trans z0
        have k1 := hr.1.len
        have HS := Lib.hid (BrM.any_step HGr.out e1)
        have HT := Lib.hid (BrM.great_true e1 h20)
        have HD : Hid (BrM.big l[k] = decide (40 < r.kn)) := by unfold Hid; rw [k1]; rfl
        clear e1 hcA hc z0 hr k1
        generalize l[k] = x at *
        generalize r.kn = n1 at *
        generalize BrM.big x = t at *
        by_cases a1 : 40 < n1
        · have a1' : (40 : Int) < n1 := by omega
          have HTt : Hid (t = true) := by unfold Hid; rw [HD.out, decide_eq_true a1]
          go_wp2
          go_ret
          exact ⟨by rw [HT.out HTt.out]; rfl, HB.out⟩
        have a1' : ¬ (40 : Int) < n1 := by omega
        have HF : Hid (t = false) := by unfold Hid; rw [HD.out, decide_eq_false a1]
        go_wp2
        go_roundw
        case rel => exact ⟨k + 1, by omega, by omega, by go_num, by rw [HS.out, HF.out], HB.out⟩
        case measure => simp [intOf]; omega
      · obtain rfl : k = 21 := by omega
        have HE := Lib.hid (BrM.great_end HGr.out (by omega) (.inr rfl))
        have hgt : (20 : Int) < l.length := by omega
        have HT : Hid (decide (20 < l.length) = true) := decide_eq_true (by omega)
        go_wp2
        go_ret
        exact ⟨by rw [HE.out, HT.out]; rfl, HB.out⟩
    · have HE := Lib.hid (BrM.great_end HGr.out hk2 (.inl (by omega)))
      by_cases hgt : 20 < l.length
      · have hgt' : (20 : Int) < l.length := by omega
        have HT : Hid (decide (20 < l.length) = true) := decide_eq_true (by omega)
        go_wp2
        go_ret
        exact ⟨by rw [HE.out, HT.out]; rfl, HB.out⟩
      · have hgt' : ¬ (20 : Int) < l.length := by omega
        have HT : Hid (decide (20 < l.length) = false) := decide_eq_false (by omega)
        go_wp2
        go_ret
        exact ⟨by rw [HE.out, HT.out]; rfl, HB.out⟩
set_option maxHeartbeats 1000000 in
theorem rbirth7_any (v : Value) (l : List Kd) (w : World) (hv : Kds w.heap.size w v l) :
    Calls Tryd.prog 20 #[v] w fun e w' => e = .returned (.int .u32 (BrM.birth l)) ∧ Grows w w' := by
  obtain ⟨A, cap, rfl, q1, q2, q3⟩ := hv.form
  have HQ := Lib.hid q3
  clear q3 hv
  unfold maxLen at q2
  go_enter Tryd.func20, Tryd.ntmps20
  go_wp2
  go_loopw [3, 4] (fun n i wr => ∃ k : Nat, k ≤ l.length ∧ n = .int .u32 (BrM.birth (l.take k)) ∧ i = .int .i64 k ∧ Grows w wr) (fun _ i _ => l.length - (intOf i).toNat)
  case atStart => exact ⟨0, Nat.zero_le _, rfl, rfl, Grows.refl _⟩
  case round =>
    obtain ⟨k, hk, rfl, rfl, hb⟩ := hrel
    have HB := Lib.hid hb
    clear hb
    by_cases hlt : k < l.length
    · obtain ⟨g1, o1, rfl, hg1, hcA⟩ := HQ.out (by omega)
      have e1 : l[k]? = some l[k] := List.getElem?_eq_getElem hlt
      obtain ⟨r, hr, hc⟩ := hcA k _ e1
      obtain ⟨_, _, z4, _⟩ := kd_at hc
      have hc4 := (Below.cell HB.out (p := ⟨g1, o1 + k * 6 + 4, none⟩) hg1).trans z4
      have HS := Lib.hid (BrM.birth_step e1)
      rw [hr.2] at hc4
      have b1 := wI_bound l[k].ptr.birth
      clear e1 hcA hc z4 hr
      generalize l[k] = x at *
      have b2 := birth_bound (l := l.take k)
      generalize BrM.birth (l.take k) = n at *
      generalize wI x.ptr.birth = m at *
      go_wp2
      go_roundw
      case rel => exact ⟨k + 1, by omega, by rw [HS.out], by go_num, HB.out⟩
      case measure => simp [intOf]; omega
    · obtain rfl : k = l.length := by omega
      have HT : Hid (l.take l.length = l) := List.take_length
      go_wp2
      go_ret
      exact ⟨by rw [HT.out]; rfl, HB.out⟩
end Go.Proofs.YtjcommodiihcdaaDoor
/- Layer 7's own Birth: the greatest birth. (Made for a stand-in: the code that lands may differ.) -/
namespace Go.Proofs.YtjcommodiihcdaaDoor
open Go.RowKit
set_option linter.unusedVariables false
set_option linter.unusedSimpArgs false
set_option maxHeartbeats 2000000 in
theorem birth7_any (v : Value) (l : List Kd) (w : World) (hv : Kds w.heap.size w v l) :
    Calls Tryd.prog 19 #[v] w fun e w' => e = .returned (.int .u32 (BrM.birth l)) ∧ Grows w w' := by
  obtain ⟨A, cap, rfl, q1, q2, q3⟩ := hv.form
  have HQ := Lib.hid q3
  clear q3 hv
  unfold maxLen at q2
  go_enter Tryd.func19, Tryd.ntmps19
  go_wp2
  go_loopw [3, 8] (fun n i wr => ∃ k : Nat, k ≤ l.length ∧ n = .int .u32 (BrM.birth (l.take k)) ∧ i = .int .i64 k ∧ Grows w wr) (fun _ i _ => l.length - (intOf i).toNat)
  case atStart => exact ⟨0, Nat.zero_le _, rfl, rfl, Grows.refl _⟩
  case round =>
    obtain ⟨k, hk, rfl, rfl, hb⟩ := hrel
    have HB := Lib.hid hb
    clear hb
    by_cases hlt : k < l.length
    · obtain ⟨g1, o1, rfl, hg1, hcA⟩ := HQ.out (by omega)
      have hlt' : (k : Int) < l.length := by omega
      have e1 : l[k]? = some l[k] := List.getElem?_eq_getElem hlt
      obtain ⟨r, hr, hc⟩ := hcA k _ e1
      have HC := Lib.hid (rangeAt_keep hc (fun a ha => Below.cell HB.out (by omega)))
      have HS := Lib.hid (BrM.birth_step e1)
      rw [← hr.2] at HS
      have b1 := wI_bound r.ptr.birth
      clear e1 hcA hc hr
      have b2 := birth_bound (l := l.take k)
      generalize BrM.birth (l.take k) = n at *
      generalize hm : wI r.ptr.birth = m at *
      have Z := Lib.hid (Row.new wr 47 #[.slice none 0 0, .int .u8 0, .int .u16 0, .int .u16 0, .int .u32 0, .int .u64 0])
      have GA := Lib.hid (Grows.alloc wr (.cells #[.slice none 0 0, .int .u8 0, .int .u16 0, .int .u16 0, .int .u32 0, .int .u64 0] 47))
      go_wp2_with (first
        | ((with_reducible refine wpList_load_kid (op := ⟨some 11, _, _, _, _, _⟩) ?_ (.tmp 10) ?_ g1 (o1 + k * 6) r ?_ ?_ ?_); exact rfl; exact rfl; exact rfl; exact HC.out)
        | ((with_reducible refine wpList_store_kid ?_ (.tmp 5) (.tmp 11) ?_ wr.heap.size r #[.slice none 0 0, .int .u8 0, .int .u16 0, .int .u16 0, .int .u32 0, .int .u64 0] ?_ ?_ ?_ ?_ ?_); exact rfl; exact rfl; exact rfl; exact rfl; exact rfl; exact Z.out; intro w1 hp hg; have G1 := Lib.hid (HB.out.trans (grown_fresh (W := wr) (W' := w1) rfl hg)); have d4 := (hp.cell 4).trans (kdA_4 r); rw [hm] at d4; clear hp hg))
      go_roundw
      case rel => exact ⟨k + 1, by omega, by rw [HS.out], by go_num, G1.out⟩
      case measure => simp [intOf]; omega
    · obtain rfl : k = l.length := by omega
      have HT : Hid (l.take l.length = l) := List.take_length
      go_wp2
      go_ret
      exact ⟨by rw [HT.out]; rfl, HB.out⟩
end Go.Proofs.YtjcommodiihcdaaDoor
/- What the statements of layer 7 reckon: two kids, the greatest birth, rows told backwards. Plain mathematics. -/
namespace Go.Proofs.YtjcommodiihcdaaDoor
namespace BrM
/-- The kid that the statements' kid tells. -/
def kidOf (key : List (BitVec 8)) (a b : BitVec 16) (z : BitVec 32) : Kd := ⟨key, ⟨1#8, a, b, z, 0#64⟩⟩
def two : List Kd := [kidOf [] 4#16 5#16 1#32, kidOf [97#8] 6#16 7#16 7#32]
theorem right_one : right [kidOf [] 4#16 5#16 1#32] = false := right_few (by decide)
theorem right_two : right two = true := by kernel_rfl
theorem birth_two : birth two = 7 := by decide
theorem two_first : (encP two)[0]? = some 2#8 ∧ (encP two)[1]? = some 2#8 := by
  rw [(enc_right right_two).2]
  exact ⟨rfl, rfl⟩
theorem dec_two : decE (encP two) = 0 ∧ decL (encP two) = two := dec_some (dec_enc right_two)
theorem dec_noughts : decE noughts = 50 ∧ decL noughts = [] := dec_first (by decide)
-- the greatest birth
theorem fold_ge : ∀ (l : List Kd) (n : Int), n ≤ l.foldl (fun n x => max n (wI x.ptr.birth)) n ∧ ∀ x ∈ l, wI x.ptr.birth ≤ l.foldl (fun n x => max n (wI x.ptr.birth)) n
  | [], n => ⟨by simp, fun x h => by simp at h⟩
  | y :: l, n => by
    obtain ⟨h1, h2⟩ := fold_ge l (max n (wI y.ptr.birth))
    rw [List.foldl_cons]
    refine ⟨by omega, fun x hx => ?_⟩
    rcases List.mem_cons.1 hx with rfl | hx
    · omega
    · exact h2 x hx
theorem fold_mem : ∀ (l : List Kd) (n : Int), l.foldl (fun n x => max n (wI x.ptr.birth)) n = n ∨ ∃ x ∈ l, wI x.ptr.birth = l.foldl (fun n x => max n (wI x.ptr.birth)) n
  | [], n => .inl rfl
  | y :: l, n => by
    rw [List.foldl_cons]
    rcases fold_mem l (max n (wI y.ptr.birth)) with h | ⟨x, hx, h⟩
    · by_cases hm : n ≤ wI y.ptr.birth
      · exact .inr ⟨y, by simp, by rw [h]; omega⟩
      · exact .inl (by rw [h]; omega)
    · exact .inr ⟨x, by simp [hx], h⟩
theorem birth_ge {l : List Kd} {x : Kd} (h : x ∈ l) : wI x.ptr.birth ≤ birth l := (fold_ge l 0).2 x h
theorem birth_at {l : List Kd} {k : Nat} {x : Kd} (h : l[k]? = some x) : wI x.ptr.birth ≤ birth l := birth_ge (List.mem_of_getElem? h)
theorem birth_is {l : List Kd} (h : l ≠ []) : ∃ x ∈ l, wI x.ptr.birth = birth l := by
  rcases fold_mem l 0 with h0 | h1
  · obtain ⟨x, l', rfl⟩ := List.exists_cons_of_ne_nil h
    refine ⟨x, by simp, ?_⟩
    have h2 := (fold_ge (x :: l') 0).2 x (by simp)
    have h3 := (wI_bound x.ptr.birth).1
    unfold birth
    omega
  · exact h1
theorem birth_le {l : List Kd} {n : Int} (h0 : 0 ≤ n) (h : ∀ x ∈ l, wI x.ptr.birth ≤ n) : birth l ≤ n := by
  rcases fold_mem l 0 with h1 | ⟨x, hx, h1⟩
  · unfold birth; omega
  · have := h x hx; unfold birth; omega
theorem birth_back (l : List Kd) : birth l.reverse = birth l := by
  have h1 : birth l.reverse ≤ birth l := birth_le birth_bound.1 fun x hx => birth_ge (by simpa using hx)
  have h2 : birth l ≤ birth l.reverse := birth_le birth_bound.1 fun x hx => birth_ge (by simpa using hx)
  omega
/-- Is one of the first so many the greatest? -/
def isK (l : List Kd) (k : Nat) : Bool := (decide (l.length = 0) && decide (birth l = 0)) || (l.take k).any fun x => decide (wI x.ptr.birth = birth l)
theorem isK_zero (l : List Kd) : isK l 0 = (decide (l.length = 0) && decide (birth l = 0)) := by unfold isK; simp
theorem isK_succ {l : List Kd} {k : Nat} {x : Kd} (h : l[k]? = some x) : isK l (k + 1) = (isK l k || decide (wI x.ptr.birth = birth l)) := by
  unfold isK
  rw [List.take_add_one, h, List.any_append, ← Bool.or_assoc]
  simp
theorem isK_all (l : List Kd) : isK l l.length = true := by
  unfold isK
  rw [List.take_length]
  cases l with
  | nil => decide
  | cons y l =>
    obtain ⟨x, hx, h⟩ := birth_is (l := y :: l) (by simp)
    rw [Bool.or_eq_true]
    exact .inr (List.any_eq_true.2 ⟨x, hx, decide_eq_true h⟩)
theorem back_succ {l : List Kd} {k m : Nat} {x : Kd} (hm : m + 1 + k = l.length) (h : l[m]? = some x) : l.reverse.take (k + 1) = l.reverse.take k ++ [x] := by
  have : l.reverse[k]? = some x := by
    rw [List.getElem?_reverse (by omega)]
    rw [show l.length - 1 - k = m by omega]
    exact h
  rw [List.take_add_one, this]
  rfl
theorem back_all (l : List Kd) : l.reverse.take l.length = l.reverse := by
  rw [← List.length_reverse, List.take_length]
-- decoding
/-- What is decoded has just this page. -/
theorem dec_just {p : List (BitVec 8)} (h : decE p = 0) : right (decL p) = true ∧ encE (decL p) = 0 ∧ encP (decL p) = p ∧ LeafM.many p = (decL p).length := by
  unfold decE at h
  cases hd : dec p with
  | none => rw [hd] at h; exact absurd h (by decide)
  | some l =>
    obtain ⟨h1, h2, h3⟩ := dec_page hd
    have : decL p = l := by unfold decL; rw [hd]; rfl
    rw [this]
    exact ⟨encE_right.1 h1, h1, h2, h3⟩
theorem dec_else {p : List (BitVec 8)} (h : ¬ decE p = 0) : decE p = 50 ∧ decL p = [] := by
  cases hd : dec p with
  | none => exact dec_none hd
  | some l => exact absurd (dec_some hd).1 h
/-- Another page is not decoded so. -/
theorem dec_other {l : List Kd} {q : List (BitVec 8)} (hq : q ≠ encP l) : ¬ (decE q = 0 ∧ decL q = l) := by
  rintro ⟨h1, h2⟩
  obtain ⟨_, _, h3, _⟩ := dec_just h1
  rw [h2] at h3
  exact hq h3.symm
end BrM
end Go.Proofs.YtjcommodiihcdaaDoor
