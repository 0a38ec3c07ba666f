/- BranchM BrColl Branch BrBack -/
import Derived.Test.YtjcommodiihcdaaDoorLfA
import Derived.Test.YtjcommodiihcdaaDoorPtA
import Derived.Test.YtjcommodiihcdaaDoorPage
import Derived.Test.YtjcommodiihcdaaDoorVdA
import Derived.Great.Walk
/- What layer 7 reckons: kids, a branch's page, plain mathematics. No function of the program. -/
namespace Go.Proofs.YtjcommodiihcdaaDoor
open Go.RowKit
structure Kd where
  key : List (BitVec 8)
  ptr : Pt
theorem Kd.eq_iff (x y : Kd) : (x.key = y.key ∧ x.ptr = y.ptr) ↔ x = y := by
  cases x; cases y; simp
instance : DecidableEq Kd := fun x y => decidable_of_iff _ (Kd.eq_iff x y)
namespace BrM
/-- The kind of the first one's pointer. -/
def kind0 (l : List Kd) : BitVec 8 := match l[0]? with | some x => x.ptr.kind | none => 0#8
/-- May the kid at a place stand there? -/
def ptOk (k : BitVec 8) (x : Kd) : Bool := PtM.node x.ptr && PtM.right x.ptr 256 && (x.ptr.kind == k)
def keyOk (y x : Kd) : Bool := decide (1 ≤ x.key.length) && decide (x.key.length ≤ 8) && LeafM.lt y.key x.key
def okAt (l : List Kd) (i : Nat) : Bool := match l[i]? with
  | none => true
  | some x => ptOk (kind0 l) x && (i == 0 || match l[i - 1]? with | some y => keyOk y x | none => true)
def head (l : List Kd) : Bool := match l[0]? with | some x => decide (x.key.length = 0) | none => true
def right (l : List Kd) : Bool := (decide (2 ≤ l.length) && decide (l.length ≤ 6) && head l) && (List.range l.length).all (okAt l)
def step (b : List (BitVec 8)) (x : Kd) : List (BitVec 8) := PtM.put (PackM.putBytes b x.key) x.ptr
def encB (l : List Kd) : List (BitVec 8) := l.foldl step [2#8, BitVec.ofNat 8 l.length]
def encP (l : List Kd) : List (BitVec 8) := if right l = true then (if 256 < (encB l).length then LeafM.blank else PackM.fill (encB l)) else LeafM.blank
def encE (l : List Kd) : Int := if right l = true then (if 256 < (encB l).length then 2 else 0) else 2
/-- The kid ahead in these bytes, and what is behind it. -/
def kid (b : List (BitVec 8)) : Option (Kd × List (BitVec 8)) :=
  if PackM.tbE b 8 = 0 ∧ PtM.takeE (PackM.tbR b 8) = 0 then some (⟨PackM.tbS b 8, PtM.takeP (PackM.tbR b 8)⟩, PtM.takeR (PackM.tbR b 8)) else none
def kids : Nat → List (BitVec 8) → Option (List Kd × List (BitVec 8))
  | 0, b => some ([], b)
  | n + 1, b => match kids n b with
    | none => none
    | some (l, r) => match kid r with
      | none => none
      | some (x, r') => some (l ++ [x], r')
def dec (p : List (BitVec 8)) : Option (List Kd) :=
  if LeafM.first p ≠ 2 ∨ 6 < LeafM.many p then none
  else match kids (LeafM.many p) (p.drop 2) with
    | none => none
    | some (l, _) => if encE l = 0 ∧ encP l = p then some l else none
def decE (p : List (BitVec 8)) : Int := if (dec p).isSome then 0 else 50
def decL (p : List (BitVec 8)) : List Kd := (dec p).getD []
/-- The greatest birth. -/
def birth (l : List Kd) : Int := l.foldl (fun n x => max n (wI x.ptr.birth)) 0
theorem dec_page {p : List (BitVec 8)} {l : List Kd} (h : dec p = some l) : encE l = 0 ∧ encP l = p ∧ LeafM.many p = l.length := by
  have len : ∀ (n : Nat) (b : List (BitVec 8)) (l : List Kd) (r : List (BitVec 8)), kids n b = some (l, r) → l.length = n := by
    intro n
    induction n with
    | zero => intro b l r h; cases h; rfl
    | succ n ih =>
      intro b l r h
      unfold kids at h
      split at h
      · cases h
      · rename_i l1 r1 h1
        split at h
        · cases h
        · cases h
          rw [List.length_append, ih b l1 r1 h1]
          rfl
  unfold dec at h
  split at h
  · cases h
  · split at h
    · cases h
    · rename_i l1 r1 hi
      split at h
      · rename_i h2
        cases h
        exact ⟨h2.1, h2.2, (len _ _ _ _ hi).symm⟩
      · cases h
def own (x : Kd) : List (BitVec 8) := BitVec.ofNat 8 x.key.length :: (x.key ++ PtM.bytes x.ptr)
theorem step_own (b : List (BitVec 8)) (x : Kd) (h : x.key.length ≤ 8) : step b x = b ++ own x := by
  unfold step own
  rw [LeafM.putBytes_short _ _ (by omega)]
  unfold PtM.put
  simp only [List.append_assoc, List.cons_append]
theorem own_len {x : Kd} (h : x.key.length ≤ 8) : (own x).length ≤ 26 := by
  unfold own
  simp only [List.length_cons, List.length_append, PtM.bytes_length]
  omega
theorem kid_own (x : Kd) (rest : List (BitVec 8)) (h : x.key.length ≤ 8) : kid (own x ++ rest) = some (x, rest) := by
  unfold own kid
  rw [List.cons_append, List.append_assoc]
  obtain ⟨e1, e2, e3⟩ := LeafM.tb_own x.key (PtM.bytes x.ptr ++ rest) 8 (by omega) (by omega)
  obtain ⟨k1, k2, k3⟩ := PtM.take_put x.ptr rest
  rw [e1, e2, e3, k1, k2, k3, if_pos ⟨rfl, rfl⟩]
theorem kids_succ_eq (n : Nat) (b : List (BitVec 8)) : kids (n + 1) b = match kids n b with
    | none => none
    | some (l, r) => match kid r with
      | none => none
      | some (x, r') => some (l ++ [x], r') := rfl
theorem kids_own : ∀ (l : List Kd) (rest : List (BitVec 8)), (∀ x ∈ l, x.key.length ≤ 8) → kids l.length (l.flatMap own ++ rest) = some (l, rest) := by
  intro l
  have key : ∀ (m : List Kd) (rest : List (BitVec 8)), (∀ x ∈ m.reverse, x.key.length ≤ 8) → kids m.reverse.length (m.reverse.flatMap own ++ rest) = some (m.reverse, rest) := by
    intro m
    induction m with
    | nil => intro rest _; rfl
    | cons x m ih =>
      intro rest h
      rw [List.reverse_cons] at h ⊢
      rw [List.length_append, List.length_singleton, kids_succ_eq, List.flatMap_append, List.append_assoc, ih _ (fun y hy => h y (by simp at hy; simp [hy]))]
      simp only [List.flatMap_cons, List.flatMap_nil, List.append_nil]
      rw [kid_own x rest (h x (by simp))]
  have := key l.reverse
  rwa [List.reverse_reverse] at this
theorem right_ok {l : List Kd} (h : right l = true) : 2 ≤ l.length ∧ l.length ≤ 6 ∧ (∀ x ∈ l, x.key.length ≤ 8 ∧ ptOk (kind0 l) x = true) := by
  unfold right at h
  simp only [Bool.and_eq_true, decide_eq_true_eq, List.all_eq_true, List.mem_range] at h
  refine ⟨h.1.1.1, h.1.1.2, fun x hx => ?_⟩
  obtain ⟨i, hi, rfl⟩ := List.mem_iff_getElem.1 hx
  have h2 := h.2 i hi
  have h3 := h.1.2
  unfold okAt at h2
  rw [List.getElem?_eq_getElem hi] at h2
  simp only [Bool.and_eq_true, Bool.or_eq_true] at h2
  refine ⟨?_, h2.1⟩
  rcases h2.2 with h4 | h4
  · have h0 : i = 0 := by simpa using h4
    subst h0
    unfold head at h3
    rw [List.getElem?_eq_getElem hi] at h3
    simp only [decide_eq_true_eq] at h3
    omega
  · by_cases hz : i = 0
    · subst hz
      unfold head at h3
      rw [List.getElem?_eq_getElem hi] at h3
      simp only [decide_eq_true_eq] at h3
      omega
    · rw [List.getElem?_eq_getElem (show i - 1 < l.length by omega)] at h4
      unfold keyOk at h4
      simp only [Bool.and_eq_true, decide_eq_true_eq] at h4
      exact h4.1.2
theorem foldl_own : ∀ (l : List Kd) (b : List (BitVec 8)), (∀ x ∈ l, x.key.length ≤ 8) → l.foldl step b = b ++ l.flatMap own
  | [], b, _ => by simp
  | x :: l, b, h => by
    rw [List.foldl_cons, step_own b x (h x (by simp)), foldl_own l _ (fun y hy => h y (by simp [hy])), List.flatMap_cons, List.append_assoc]
theorem flat_len : ∀ l : List Kd, (∀ x ∈ l, x.key.length ≤ 8) → (l.flatMap own).length ≤ 26 * l.length
  | [], _ => by simp
  | x :: l, h => by
    have h1 := own_len (h x (by simp))
    have h2 := flat_len l (fun y hy => h y (by simp [hy]))
    rw [List.flatMap_cons, List.length_append, List.length_cons]
    omega
theorem encB_right {l : List Kd} (h : right l = true) : encB l = [2#8, BitVec.ofNat 8 l.length] ++ l.flatMap own ∧ (encB l).length ≤ 256 := by
  obtain ⟨_, h1, h2⟩ := right_ok h
  have e : encB l = [2#8, BitVec.ofNat 8 l.length] ++ l.flatMap own := foldl_own l _ (fun x hx => (h2 x hx).1)
  have h3 := flat_len l (fun x hx => (h2 x hx).1)
  refine ⟨e, ?_⟩
  rw [e, List.length_append]
  simp only [List.length_cons, List.length_nil]
  omega
theorem enc_fill {l : List Kd} (h : right l = true) : encP l = PackM.fill (encB l) ∧ encE l = 0 ∧ PackM.fillE (encB l) = 0 ∧ (encB l).length ≤ 256 := by
  obtain ⟨_, hl⟩ := encB_right h
  unfold encE encP PackM.fillE
  rw [if_pos h, if_pos h, if_neg (by omega), if_neg (by omega), if_neg (by omega)]
  exact ⟨rfl, rfl, rfl, hl⟩
theorem enc_right {l : List Kd} (h : right l = true) : encE l = 0 ∧ encP l = [2#8, BitVec.ofNat 8 l.length] ++ l.flatMap own ++ List.replicate (256 - (encB l).length) 0#8 := by
  obtain ⟨e, hl⟩ := encB_right h
  obtain ⟨h1, h2, _, _⟩ := enc_fill h
  refine ⟨h2, ?_⟩
  rw [h1]
  unfold PackM.fill
  rw [if_neg (by omega), e]
theorem enc_not {l : List Kd} (h : right l = false) : encE l = 2 ∧ encP l = LeafM.blank := by
  unfold encE encP
  rw [if_neg (by simp [h]), if_neg (by simp [h])]
  exact ⟨rfl, rfl⟩
theorem encE_right {l : List Kd} : encE l = 0 ↔ right l = true := by
  constructor
  · intro h
    unfold encE at h
    split at h
    · assumption
    · exact absurd h (by decide)
  · intro h
    exact (enc_right h).1
theorem encP_len (l : List Kd) : (encP l).length = 256 := by
  unfold encP
  split
  · split
    · exact List.length_replicate
    · exact PackM.fill_length _
  · exact List.length_replicate
/-- A page's kids are decoded as they are. -/
theorem dec_enc {l : List Kd} (h : right l = true) : dec (encP l) = some l := by
  obtain ⟨_, h1, h2⟩ := right_ok h
  obtain ⟨e1, e2⟩ := enc_right h
  have hm : LeafM.many (encP l) = l.length := by
    unfold LeafM.many
    rw [e2]
    simp only [List.append_assoc, List.cons_append, List.getElem?_cons_succ, List.getElem?_cons_zero, Option.getD_some, BitVec.toNat_ofNat]
    omega
  have hf : LeafM.first (encP l) = 2 := by
    unfold LeafM.first
    rw [e2]
    rfl
  have hd : (encP l).drop 2 = l.flatMap own ++ List.replicate (256 - (encB l).length) 0#8 := by
    rw [e2]
    simp only [List.cons_append, List.nil_append, List.drop_succ_cons, List.drop_zero]
  unfold dec
  rw [hm, hf, if_neg (by omega), hd, kids_own l _ (fun x hx => (h2 x hx).1)]
  simp only
  rw [if_pos ⟨e1, trivial⟩]
/-- Kids that are too long, or too many, to be asked. -/
def big (x : Kd) : Bool := decide (40 < x.key.length)
def great (l : List Kd) : Bool := (l.take 21).any big || decide (20 < l.length)
theorem great_false {l : List Kd} (h : great l = false) : l.length ≤ 20 ∧ ∀ x ∈ l, x.key.length ≤ 40 := by
  unfold great at h
  simp only [Bool.or_eq_false_iff, decide_eq_false_iff_not] at h
  have hl : l.length ≤ 20 := by omega
  refine ⟨hl, fun x hx => ?_⟩
  have h1 := h.1
  rw [List.take_of_length_le (by omega), List.any_eq_false] at h1
  have := h1 x hx
  unfold big at this
  simp only [decide_eq_true_eq] at this
  omega
theorem any_step {l : List Kd} {k : Nat} {x : Kd} (h : (l.take k).any big = false) (hx : l[k]? = some x) : (l.take (k + 1)).any big = big x := by
  rw [List.take_add_one, hx, List.any_append, h]
  simp
theorem great_true {l : List Kd} {k : Nat} {x : Kd} (hx : l[k]? = some x) (hk : k ≤ 20) (hb : big x = true) : great l = true := by
  unfold great
  have : (l.take 21).any big = true := List.any_eq_true.2 ⟨x, List.mem_of_getElem? (i := k) (by rw [List.getElem?_take_of_lt (by omega)]; exact hx), hb⟩
  rw [this]; rfl
theorem great_end {l : List Kd} {k : Nat} (h : (l.take k).any big = false) (hk : k ≤ 21) (he : l.length ≤ k ∨ k = 21) : great l = decide (20 < l.length) := by
  unfold great
  have : l.take 21 = l.take k := by
    rcases he with he | he
    · rw [List.take_of_length_le he, List.take_of_length_le (by omega)]
    · rw [he]
  rw [this, h]; rfl
theorem all_step {l : List Kd} {k : Nat} (h : (List.range k).all (okAt l) = true) (hk : okAt l k = true) : (List.range (k + 1)).all (okAt l) = true := by
  rw [List.range_succ, List.all_append, h]
  simp [hk]
theorem right_false {l : List Kd} {k : Nat} (hk : k < l.length) (h : okAt l k = false) : right l = false := by
  unfold right
  rw [show (List.range l.length).all (okAt l) = false from List.all_eq_false.2 ⟨k, List.mem_range.2 hk, by simp [h]⟩, Bool.and_false]
theorem right_end {l : List Kd} (h1 : 2 ≤ l.length) (h2 : l.length ≤ 6) (h3 : head l = true) (h : (List.range l.length).all (okAt l) = true) : right l = true := by
  unfold right; rw [h, h3, decide_eq_true h1, decide_eq_true h2]; rfl
theorem right_few {l : List Kd} (h : l.length < 2) : right l = false := by
  unfold right; rw [decide_eq_false (p := 2 ≤ l.length) (by omega)]; rfl
theorem right_many {l : List Kd} (h : 6 < l.length) : right l = false := by
  unfold right; rw [decide_eq_false (p := l.length ≤ 6) (by omega), Bool.and_false]; rfl
theorem right_head {l : List Kd} (h : head l = false) : right l = false := by
  unfold right; rw [h, Bool.and_false]; rfl
theorem okAt_zero {l : List Kd} {x : Kd} (hx : l[0]? = some x) : okAt l 0 = ptOk (kind0 l) x := by
  unfold okAt; rw [hx]; simp
theorem okAt_succ {l : List Kd} {k : Nat} {x y : Kd} (hx : l[k + 1]? = some x) (hy : l[k]? = some y) : okAt l (k + 1) = (ptOk (kind0 l) x && keyOk y x) := by
  unfold okAt; rw [hx]; simp [hy]
theorem birth_step {l : List Kd} {k : Nat} {x : Kd} (hx : l[k]? = some x) : birth (l.take (k + 1)) = max (birth (l.take k)) (wI x.ptr.birth) := by
  unfold birth
  rw [List.take_add_one, hx, List.foldl_append]
  rfl
end BrM
end Go.Proofs.YtjcommodiihcdaaDoor
/- What is collected of a branch's page, against what is decoded. Plain mathematics. -/
namespace Go.Proofs.YtjcommodiihcdaaDoor
namespace BrM
theorem kids_len : ∀ (n : Nat) (b : List (BitVec 8)) (l : List Kd) (r : List (BitVec 8)), kids n b = some (l, r) → l.length = n
  | 0, b, l, r, h => by
    cases h; rfl
  | n + 1, b, l, r, h => by
    rw [kids_succ_eq] at h
    split at h
    · cases h
    · rename_i l1 r1 h1
      split at h
      · cases h
      · cases h
        rw [List.length_append, kids_len n b l1 r1 h1]
        rfl
theorem kids_stop {k : Nat} {b : List (BitVec 8)} {l : List Kd} {r : List (BitVec 8)} (h : kids k b = some (l, r)) (hr : kid r = none) : ∀ d, kids (k + 1 + d) b = none
  | 0 => by
    rw [Nat.add_zero, kids_succ_eq, h]
    simp only [hr]
  | d + 1 => by
    rw [← Nat.add_assoc, kids_succ_eq, kids_stop h hr d]
theorem kids_next {k : Nat} {b : List (BitVec 8)} {l : List Kd} {r : List (BitVec 8)} {x : Kd} {q : List (BitVec 8)} (h : kids k b = some (l, r)) (hr : kid r = some (x, q)) : kids (k + 1) b = some (l ++ [x], q) := by
  rw [kids_succ_eq, h]
  simp only [hr]
theorem enc_head {l : List Kd} {p : List (BitVec 8)} (h1 : encE l = 0) (h2 : encP l = p) : LeafM.first p = 2 ∧ LeafM.many p = l.length ∧ l.length ≤ 6 := by
  have hr := encE_right.1 h1
  obtain ⟨_, h3, _⟩ := right_ok hr
  obtain ⟨_, e2⟩ := enc_right hr
  rw [h2] at e2
  refine ⟨?_, ?_, h3⟩
  · unfold LeafM.first; rw [e2]; rfl
  · unfold LeafM.many
    rw [e2]
    simp only [List.append_assoc, List.cons_append, List.getElem?_cons_succ, List.getElem?_cons_zero, Option.getD_some, BitVec.toNat_ofNat]
    omega
/-- These kids were taken, one behind the other: all of them, or until none could be. -/
def Coll (n : Nat) (b : List (BitVec 8)) (l : List Kd) : Prop := ∃ r, kids l.length b = some (l, r) ∧ l.length ≤ n ∧ (l.length = n ∨ kid r = none)
/-- What is decoded is what could be taken, where its own page is this one. -/
theorem dec_coll {p : List (BitVec 8)} {l : List Kd} (h : Coll (LeafM.many p) (p.drop 2) l) : dec p = if encE l = 0 ∧ encP l = p then some l else none := by
  obtain ⟨r, h1, h2, h3⟩ := h
  by_cases hc : encE l = 0 ∧ encP l = p
  · rw [if_pos hc]
    obtain ⟨g1, g2, g3⟩ := enc_head hc.1 hc.2
    unfold dec
    rw [g1, g2, if_neg (by omega), h1]
    simp only
    rw [if_pos hc]
  · rw [if_neg hc]
    cases hd : dec p with
    | none => rfl
    | some l' =>
      exfalso
      have hp := dec_page hd
      unfold dec at hd
      split at hd
      · cases hd
      · split at hd
        · cases hd
        · rename_i l2 r2 hi
          split at hd
          · cases hd
            rcases h3 with h3 | h3
            · rw [h3, hi] at h1
              cases h1
              exact hc ⟨hp.1, hp.2.1⟩
            · by_cases he : l.length = LeafM.many p
              · rw [he, hi] at h1
                cases h1
                exact hc ⟨hp.1, hp.2.1⟩
              · obtain ⟨d, hd⟩ : ∃ d, LeafM.many p = l.length + 1 + d := ⟨LeafM.many p - (l.length + 1), by omega⟩
                rw [hd, kids_stop h1 h3 d] at hi
                cases hi
          · cases hd
theorem dec_none {p : List (BitVec 8)} (h : dec p = none) : decE p = 50 ∧ decL p = [] := by
  unfold decE decL
  rw [h]
  exact ⟨rfl, rfl⟩
theorem dec_some {p : List (BitVec 8)} {l : List Kd} (h : dec p = some l) : decE p = 0 ∧ decL p = l := by
  unfold decE decL
  rw [h]
  exact ⟨rfl, rfl⟩
theorem dec_first {p : List (BitVec 8)} (h : ¬ LeafM.first p = 2) : decE p = 50 ∧ decL p = [] := dec_none (by unfold dec; rw [if_pos (Or.inl h)])
theorem dec_many {p : List (BitVec 8)} (h : 6 < LeafM.many p) : decE p = 50 ∧ decL p = [] := dec_none (by unfold dec; rw [if_pos (Or.inr h)])
theorem dec_lost {p : List (BitVec 8)} {k : Nat} {l : List Kd} {r : List (BitVec 8)} (hk : k < LeafM.many p) (h : kids k (p.drop 2) = some (l, r)) (hr : kid r = none) : decE p = 50 ∧ decL p = [] := by
  have hi : kids (LeafM.many p) (p.drop 2) = none := by
    obtain ⟨d, hd⟩ : ∃ d, LeafM.many p = k + 1 + d := ⟨LeafM.many p - (k + 1), by omega⟩
    rw [hd]
    exact kids_stop h hr d
  refine dec_none ?_
  unfold dec
  split
  · rfl
  · rw [hi]
theorem dec_got {p : List (BitVec 8)} {l : List Kd} {r : List (BitVec 8)} (h1 : LeafM.first p = 2) (h6 : ¬ 6 < LeafM.many p) (h : kids (LeafM.many p) (p.drop 2) = some (l, r)) :
    ((encE l = 0 ∧ encP l = p) → decE p = 0 ∧ decL p = l) ∧ (¬ (encE l = 0 ∧ encP l = p) → decE p = 50 ∧ decL p = []) := by
  have hd : dec p = if encE l = 0 ∧ encP l = p then some l else none := by
    unfold dec
    rw [if_neg (by omega), h]
  exact ⟨fun h => dec_some (by rw [hd, if_pos h]), fun h => dec_none (by rw [hd, if_neg h])⟩
theorem tbR_len7 (b : List (BitVec 8)) (m : Int) : (PackM.tbR b m).length ≤ b.length := by
  unfold PackM.tbR; split
  · rw [List.length_drop]; omega
  · exact Nat.le_refl _
theorem ptR_len7 (b : List (BitVec 8)) : (PtM.takeR b).length ≤ b.length := by
  unfold PtM.takeR; split
  · exact Nat.le_refl _
  · rw [List.length_drop]; omega
theorem kid_no {b : List (BitVec 8)} (h : ¬ (PackM.tbE b 8 = 0 ∧ PtM.takeE (PackM.tbR b 8) = 0)) : kid b = none := by unfold kid; rw [if_neg h]
theorem kid_yes {b : List (BitVec 8)} (h1 : PackM.tbE b 8 = 0) (h2 : PtM.takeE (PackM.tbR b 8) = 0) : kid b = some (⟨PackM.tbS b 8, PtM.takeP (PackM.tbR b 8)⟩, PtM.takeR (PackM.tbR b 8)) := by unfold kid; rw [if_pos ⟨h1, h2⟩]
end BrM
end Go.Proofs.YtjcommodiihcdaaDoor
/- Kids as values: how a law's stand in the heap, rows of kids of a call's own. No function of the program. -/
namespace Go.Proofs.YtjcommodiihcdaaDoor
open Go.ChangeShapes Go.WideShapes Go.ChangeAt Go.RowKit Go.Deep Go.Joins
set_option linter.unusedVariables false
set_option linter.unusedSimpArgs false
/-- A kid's cells: where its key lies, its pointer. -/
structure KRaw where
  ka : Option Addr
  kn : Nat
  kc : Nat
  ptr : Pt
instance : Inhabited KRaw := ⟨⟨none, 0, 0, PtM.none⟩⟩
def kdE (x : KRaw) : List Value := [.slice x.ka x.kn x.kc, .int .u8 (bI x.ptr.kind), .int .u16 (hI x.ptr.a), .int .u16 (hI x.ptr.b), .int .u32 (wI x.ptr.birth), .int .u64 (uI x.ptr.sum)]
theorem kdE_len (x : KRaw) : (kdE x).length = 6 := rfl
theorem kdE_one : ∀ x : KRaw, ∀ u ∈ kdE x, u.oneCell' = true := fun x u hu => by
  simp only [kdE, List.mem_cons, List.not_mem_nil, or_false] at hu
  rcases hu with rfl | rfl | rfl | rfl | rfl | rfl <;> rfl
def kdA (x : KRaw) : Array Value := (kdE x).toArray
/-- These cells are this kid's, read below B. -/
def KdIs (B : Nat) (W : World) (r : KRaw) (x : Kd) : Prop := Bytes B W (.slice r.ka r.kn r.kc) x.key ∧ r.ptr = x.ptr
theorem KdIs.below {B : Nat} {W W' : World} {r : KRaw} {x : Kd} (h : KdIs B W r x) (hb : Below B W W') : KdIs B W' r x := ⟨h.1.below hb, h.2⟩
theorem KdIs.more {B B' : Nat} {W : World} {r : KRaw} {x : Kd} (h : KdIs B W r x) (hb : B ≤ B') : KdIs B' W r x := ⟨h.1.more hb, h.2⟩
theorem KdIs.grows {W W' : World} {r : KRaw} {x : Kd} (h : KdIs W.heap.size W r x) (hg : Grows W W') : KdIs W'.heap.size W' r x := (h.below hg).more (Below.size hg)
/-- The slice v holds these kids. -/
def Kds (B : Nat) (W : World) (v : Value) (l : List Kd) : Prop :=
  ∃ rs : List KRaw, Els 6 kdE B W v rs ∧ rs.length = l.length ∧ ∀ (j : Nat) (r : KRaw) (x : Kd), rs[j]? = some r → l[j]? = some x → KdIs B W r x
theorem Kds.below {B : Nat} {W W' : World} {v : Value} {l : List Kd} (h : Kds B W v l) (hb : Below B W W') : Kds B W' v l := by
  obtain ⟨rs, h1, h2, h3⟩ := h
  exact ⟨rs, h1.below hb, h2, fun j r x hr hx => (h3 j r x hr hx).below hb⟩
theorem Kds.more {B B' : Nat} {W : World} {v : Value} {l : List Kd} (h : Kds B W v l) (hb : B ≤ B') : Kds B' W v l := by
  obtain ⟨rs, h1, h2, h3⟩ := h
  exact ⟨rs, h1.more hb, h2, fun j r x hr hx => (h3 j r x hr hx).more hb⟩
theorem Kds.grows {W W' : World} {v : Value} {l : List Kd} (h : Kds W.heap.size W v l) (hg : Grows W W') : Kds W'.heap.size W' v l := (h.below hg).more (Below.size hg)
theorem Kds.nil (B : Nat) (W : World) : Kds B W (.slice none 0 0) [] := ⟨[], Els.nil _ _, rfl, fun j r x h => by simp at h⟩
/-- The cells of the kid at a place. -/
theorem Kds.form {B : Nat} {W : World} {v : Value} {l : List Kd} (h : Kds B W v l) : ∃ A cap, v = .slice A l.length cap ∧ l.length ≤ cap ∧ cap ≤ maxLen ∧ (0 < l.length → ∃ b o, A = some ⟨b, o, none⟩ ∧ b < B ∧ ∀ j x, l[j]? = some x → ∃ r, KdIs B W r x ∧ W.rangeAt b (o + j * 6) (kdE r)) := by
  obtain ⟨rs, h1, h2, h3⟩ := h
  obtain ⟨A, cap, rfl, g1, g2, g3⟩ := h1.form
  rw [h2] at g1 g3 ⊢
  refine ⟨A, cap, rfl, g1, g2, fun hp => ?_⟩
  obtain ⟨b, o, e1, e2, e3⟩ := g3 hp
  refine ⟨b, o, e1, e2, fun j x hx => ?_⟩
  have hj : j < rs.length := by rw [h2]; exact (List.getElem?_eq_some_iff.1 hx).1
  exact ⟨rs[j], h3 j _ x (List.getElem?_eq_getElem hj) hx, e3 j _ (List.getElem?_eq_getElem hj)⟩
theorem list6 {l : List Value} (h : l.length = 6) : ∃ a b c d e f, l = [a, b, c, d, e, f] := by
  match l, h with
  | [a, b, c, d, e, f], _ => exact ⟨a, b, c, d, e, f, rfl⟩
/-- What is read of a kid's cells. -/
theorem kid_of_cells {H : Type} {enc : TypeId × Value → H} {W : World} {n : Nat} {cs : List Value} {y : DataW H × List MemPlace} (h6 : cs.length = 6) (h : DataW.trod enc Tryd.prog W 0 (fun _ => true) true n 47 cs = some y) : ∃ r x, kdE r = cs ∧ KdIs W.heap.size W r x := by
  obtain ⟨c0, c1, c2, c3, c4, c5, rfl⟩ := list6 h6
  obtain ⟨y0, y1, m, _, _, h0, h1⟩ := trod_struct2 Tryd.underlying47 h
  have k0 : Tryd.prog.cellsOf 40 = 1 := by kernel_rfl
  have k1 : Tryd.prog.cellsOf 45 = 5 := by kernel_rfl
  have k4 : Tryd.prog.cellsOf 5 = 1 := by kernel_rfl
  simp only [k0, k1, List.drop_zero, List.drop_succ_cons, List.take_succ_cons, List.take_zero] at h0 h1
  obtain ⟨k, hk⟩ := bytes_of_trod Tryd.underlying40 Tryd.underlying5 k4 h0
  obtain ⟨p, hp⟩ := ptr_of_cells rfl h1
  simp only [ptE, List.cons.injEq, and_true] at hp
  obtain ⟨ka, kc, rfl, _⟩ := id hk
  refine ⟨⟨ka, _, kc, p⟩, ⟨k, p⟩, ?_, hk, rfl⟩
  simp only [kdE, hp]
/-- Kids that a law is given. -/
theorem open_kids {H : Type} {enc : TypeId × Value → H} {W : World} {b0 : Nat} {v : Value} {d : DataW H} {ps : List MemPlace} (hval : Value.okWide Tryd.prog W .any b0 22 v) (hd : DataW.Trod enc Tryd.prog W 0 (fun _ => true) true 22 v d ps) : ∃ l, Kds W.heap.size W v l := by
  obtain ⟨a, len, cap, rfl⟩ := okWide_slice Tryd.underlying22 hval
  obtain ⟨fuel, hf⟩ := hd
  let T := { z : KRaw × Kd // KdIs W.heap.size W z.1 z.2 }
  have ez : KdIs W.heap.size W (default : KRaw) ⟨[], PtM.none⟩ := ⟨Sl.nil _ _, rfl⟩
  haveI : Inhabited T := ⟨⟨(default, ⟨[], PtM.none⟩), ez⟩⟩
  obtain ⟨l, hl⟩ := els_of_trod (α := T) (f := fun z => kdE z.1.1) Tryd.underlying22 (show Tryd.prog.cellsOf 47 = 6 by kernel_rfl) (by omega) (fun n cs y h6 h => by
    obtain ⟨r, x, h1, h2⟩ := kid_of_cells h6 h
    exact ⟨⟨(r, x), h2⟩, h1⟩) hf
  refine ⟨l.map (·.1.2), l.map (·.1.1), ⟨fun _ _ => rfl, ?_⟩, by simp, fun j r x hr hx => ?_⟩
  · obtain ⟨_, A, cap', e, h1, h2, h3⟩ := hl
    refine ⟨A, cap', by simpa using e, by simpa using h1, h2, fun hp => ?_⟩
    obtain ⟨b, o, e1, e2, e3⟩ := h3 (by simpa using hp)
    refine ⟨b, o, e1, e2, ?_⟩
    rw [List.flatMap_map]
    exact e3
  · rw [List.getElem?_map] at hr hx
    obtain ⟨z, hz, rfl⟩ := Option.map_eq_some_iff.1 hr
    rw [hz] at hx
    simp only [Option.map_some, Option.some.injEq] at hx
    subst hx
    exact z.2
-- rows of kids of a call's own
def KdOwn (base : Nat) (W : World) (r : KRaw) (x : Kd) : Prop := Mine base W (.slice r.ka r.kn r.kc) x.key ∧ r.ptr = x.ptr
theorem KdOwn.is {base : Nat} {W : World} {r : KRaw} {x : Kd} (h : KdOwn base W r x) : KdIs W.heap.size W r x := ⟨h.1.bytes, h.2⟩
theorem KdOwn.grows {base : Nat} {W W' : World} {r : KRaw} {x : Kd} (h : KdOwn base W r x) (hg : Grows W W') : KdOwn base W' r x := ⟨h.1.grows hg, h.2⟩
theorem KdOwn.more {base b : Nat} {W : World} {r : KRaw} {x : Kd} (h : KdOwn base W r x) (hb : b ≤ base) : KdOwn b W r x := ⟨h.1.more hb, h.2⟩
def OwnKds (base : Nat) (W : World) (v : Value) (l : List Kd) : Prop :=
  ∃ rs : List KRaw, Own' 47 6 kdE base W v rs ∧ rs.length = l.length ∧ ∀ (j : Nat) (r : KRaw) (x : Kd), rs[j]? = some r → l[j]? = some x → KdOwn base W r x
theorem OwnKds.kds {base : Nat} {W : World} {v : Value} {l : List Kd} (h : OwnKds base W v l) : Kds W.heap.size W v l := by
  obtain ⟨rs, h1, h2, h3⟩ := h
  exact ⟨rs, h1.els, h2, fun j r x hr hx => (h3 j r x hr hx).is⟩
theorem OwnKds.grows {base : Nat} {W W' : World} {v : Value} {l : List Kd} (h : OwnKds base W v l) (hg : Grows W W') : OwnKds base W' v l := by
  obtain ⟨rs, h1, h2, h3⟩ := h
  exact ⟨rs, h1.grows hg, h2, fun j r x hr hx => (h3 j r x hr hx).grows hg⟩
theorem OwnKds.more {base b : Nat} {W : World} {v : Value} {l : List Kd} (h : OwnKds base W v l) (hb : b ≤ base) : OwnKds b W v l := by
  obtain ⟨rs, h1, h2, h3⟩ := h
  exact ⟨rs, h1.more hb, h2, fun j r x hr hx => (h3 j r x hr hx).more hb⟩
theorem OwnKds.nil (base : Nat) (W : World) : OwnKds base W (.slice none 0 0) [] := ⟨[], ⟨fun _ h => by simp at h, World.ownsRow_nil _ _ _ _⟩, rfl, fun j r x h => by simp at h⟩
theorem OwnKds.form {base : Nat} {W : World} {v : Value} {l : List Kd} (h : OwnKds base W v l) : ∃ A cap, v = .slice A l.length cap ∧ l.length ≤ cap ∧ cap ≤ maxLen := by
  obtain ⟨A, cap, e, h1, h2, _⟩ := h.kds.form
  exact ⟨A, cap, e, h1, h2⟩
theorem OwnKds.slice {base : Nat} {W : World} {v : Value} {l : List Kd} (h : OwnKds base W v l) : ∃ A n c, v = .slice A n c := by
  obtain ⟨A, c, e, _⟩ := h.form; exact ⟨A, _, c, e⟩
theorem OwnKds.low {base : Nat} {W : World} {v : Value} {l : List Kd} (h : OwnKds base W v l) : ∀ k, v.ownBlock = some k → base ≤ k := by
  obtain ⟨rs, h1, _⟩ := h
  exact own_low h1
theorem elT_kid : ElT Tryd.prog 22 47 6 48 := elT_mk Tryd.underlying22 (by kernel_rfl) (by omega)
theorem flatB : ∀ b : List (BitVec 8), b.flatMap (fun x => [byteV x]) = b.map byteV
  | [] => rfl
  | a :: b => by rw [List.flatMap_cons, flatB b]; rfl
/-- A row of bytes stays where a row of kids grows. -/
theorem Mine.asideK {base base2 : Nat} {w w' : World} {v v2 : Value} {b : List (BitVec 8)} {rs : List KRaw} (h : Mine base w v b) (h2 : Own' 47 6 kdE base2 w v2 rs) (hg : w.grownBy w' v2.ownBlock) : Mine base w' v b := by
  have ho : Own' 5 1 (fun x => [byteV x]) base w v b := ⟨fun _ _ => rfl, by rw [flatB]; exact h⟩
  have := (own_other ho h2 (by decide) hg).2
  rwa [flatB] at this
theorem Mine.apartK {base g : Nat} {w w' : World} {v : Value} {b : List (BitVec 8)} {t : TypeId} {cs : Array Value} (h : Mine base w v b) (hg : w.grownBy w' (some g)) (hr : Row w g t cs) (hne : 5 ≠ t) : Mine base w' v b := by
  have ho : Own' 5 1 (fun x => [byteV x]) base w v b := ⟨fun _ _ => rfl, by rw [flatB]; exact h⟩
  have := (ho.aside hg hr hne).2
  rwa [flatB] at this
/-- One more kid behind those of the call's own. -/
theorem run_append_kds {base B : Nat} {w : World} {v x : Value} {l : List Kd} {r : KRaw} {i : Kd} (ty : TypeId) (hv : OwnKds base w v l) (hx : Els 6 kdE B w x [r]) (hr : KdOwn base w r i) (hlen : l.length + 1 ≤ 1000000) (hb : base ≤ w.heap.size) :
    ∃ v' w', (Builtin.append_ #[22, 22] ty #[v, x]).run Tryd.prog w = .ok v' w' ∧ OwnKds base w' v' (l ++ [i]) ∧ w.grownBy w' v.ownBlock ∧ (v'.ownBlock = v.ownBlock ∨ v'.ownBlock = some w.heap.size) := by
  obtain ⟨rs, h1, h2, h3⟩ := hv
  obtain ⟨v', w', hrun, ho, hg, hat⟩ := run_append_els elT_kid kdE_one ty h1 hx (by rw [h2]; simp only [List.length_singleton]; unfold maxLen; omega) (by rw [h2]; simp only [List.length_singleton]; omega) hb
  refine ⟨v', w', hrun, ⟨rs ++ [r], ho, by simp [h2], fun j r' x' hr' hx' => ?_⟩, hg, hat⟩
  have keep : ∀ {q y}, KdOwn base w q y → KdOwn base w' q y := fun hq => ⟨Mine.asideK hq.1 h1 hg, hq.2⟩
  by_cases hj : j < rs.length
  · rw [List.getElem?_append_left hj] at hr'
    rw [List.getElem?_append_left (by omega)] at hx'
    exact keep (h3 j r' x' hr' hx')
  · have hj' : j = rs.length := by
      have := (List.getElem?_eq_some_iff.1 hr').1
      simp at this
      omega
    subst hj'
    rw [List.getElem?_append_right (Nat.le_refl _), Nat.sub_self] at hr'
    rw [List.getElem?_append_right (by omega), ← h2, Nat.sub_self] at hx'
    simp only [List.getElem?_cons_zero, Option.some.injEq] at hr' hx'
    subst hr' hx'
    exact keep hr
theorem kd_one (W : World) (r : KRaw) : Els 6 kdE (W.heap.size + 1) (W.alloc (.cells (kdA r) 47)) (.slice (some ⟨W.heap.size, 0, none⟩) 1 1) [r] := by
  refine ⟨fun y hy => rfl, _, 1, rfl, Nat.le_refl _, by decide, fun _ => ⟨W.heap.size, 0, rfl, Nat.lt_succ_self _, fun j u hu => ?_⟩⟩
  rw [Nat.zero_add, (Row.new W 47 (kdA r)).cell]
  simpa [kdA] using hu
/-- A kid's cells. -/
theorem kd_at {W : World} {b o : Nat} {r : KRaw} (h : W.rangeAt b o (kdE r)) : W.cell? ⟨b, o, none⟩ = some (.slice r.ka r.kn r.kc) ∧ W.cell? ⟨b, o + 1, none⟩ = some (.int .u8 (bI r.ptr.kind)) ∧ W.cell? ⟨b, o + 4, none⟩ = some (.int .u32 (wI r.ptr.birth)) ∧ W.rangeAt b (o + 1) (ptE r.ptr) := by
  refine ⟨h 0 _ rfl, h 1 _ rfl, h 4 _ rfl, fun j v hv => ?_⟩
  have hj : j < 5 := (List.getElem?_eq_some_iff.1 hv).1
  have : (kdE r)[1 + j]? = some v := by
    rcases j with _ | _ | _ | _ | _ | j
    · exact hv
    · exact hv
    · exact hv
    · exact hv
    · exact hv
    · omega
  have h2 := h (1 + j) v this
  rwa [← Nat.add_assoc] at h2
section
variable {w : World} {b o : Nat}
theorem pt_run_loadK {x : Pt} (h : w.rangeAt b o (ptE x)) : (loadVar 45 ⟨b, o, none⟩).run Tryd.prog w = .ok (.agg (ptA x)) w :=
  run_loadVar_mid w b o 45 (ptE x) _ h Tryd.underlying45 rfl (by kernel_rfl)
theorem kid_run_load {r : KRaw} (h : w.rangeAt b o (kdE r)) : (loadVar 47 ⟨b, o, none⟩).run Tryd.prog w = .ok (.agg (kdA r)) w :=
  run_loadVar_mid w b o 47 (kdE r) _ h Tryd.underlying47 rfl (by kernel_rfl)
theorem kdA_row {g : Nat} {r : KRaw} (h : Row w g 47 (kdA r)) : w.rangeAt g 0 (kdE r) := fun j v hv => by
  rw [Nat.zero_add, h.cell]
  simpa [kdA] using hv
theorem kid_info : (Tryd.prog.info? 47).map (·.size) = some 6 := by kernel_rfl
theorem kdA_all (r : KRaw) : (kdA r).all (·.oneCell') = true := by simp [kdA, kdE, Value.oneCell']
variable {ops : Array Oper} {rest : List Oper} {op : Oper} {a : Act} {Q : Exit → Act → World → Prop}
theorem wpList_load_ptK (hw : Region.wanted op (yielded ops a.tmps) = true) (y : Operand) (ho : op.op = .load 45 y) (b o : Nat) (x : Pt) (hx : a.eval y = .pointer (some ⟨b, o, none⟩)) (hr : w.rangeAt b o (ptE x))
    (h : wpList Tryd.prog ops Q rest (a.put op.dst (.agg (ptA x))) w) : wpList Tryd.prog ops Q (op :: rest) a w :=
  wpList_does hw (R := fun v w' => v = .agg (ptA x) ∧ w = w') (dk_load 45 y ⟨b, o, none⟩ _ ho hx (pt_run_loadK hr) ⟨rfl, rfl⟩) (by rintro v w' ⟨rfl, rfl⟩; exact h)
theorem wpList_load_kid (hw : Region.wanted op (yielded ops a.tmps) = true) (y : Operand) (ho : op.op = .load 47 y) (b o : Nat) (r : KRaw) (hx : a.eval y = .pointer (some ⟨b, o, none⟩)) (hr : w.rangeAt b o (kdE r))
    (h : wpList Tryd.prog ops Q rest (a.put op.dst (.agg (kdA r))) w) : wpList Tryd.prog ops Q (op :: rest) a w :=
  wpList_does hw (R := fun v w' => v = .agg (kdA r) ∧ w = w') (dk_load 47 y ⟨b, o, none⟩ _ ho hx (kid_run_load hr) ⟨rfl, rfl⟩) (by rintro v w' ⟨rfl, rfl⟩; exact h)
theorem wpList_store_kid (hgd : op.guard = none) (y z : Operand) (ho : op.op = .store 47 y z) (g : Nat) (r : KRaw) (old : Array Value) (hx : a.eval y = .pointer (some ⟨g, 0, none⟩)) (hy : a.eval z = .agg (kdA r)) (h8 : old.size = 6) (hr : Row w g 47 old)
    (h : ∀ w', Row w' g 47 (kdA r) → w.grownBy w' (some g) → wpList Tryd.prog ops Q rest (a.put op.dst undef) w') : wpList Tryd.prog ops Q (op :: rest) a w :=
  wpList_store_row hgd 47 y z ho g (kdA r) hx hy 47 old hr kid_info (by rw [h8]; rfl) (kdA_all r)
    (h _ (hr.setRow _) (setRow_grownBy _ _ _))
theorem wpList_eqlK_ptr (hw : Region.wanted op (yielded ops a.tmps) = true) (y z : Operand) (ty : TypeId) (ho : op.op = .binOp .eql 45 y z ty) (p q : Pt) (hx : a.eval y = .agg (ptA p)) (hy : a.eval z = .agg (ptA q))
    (h : wpList Tryd.prog ops Q rest (a.put op.dst (.bool (decide (p = q)))) w) : wpList Tryd.prog ops Q (op :: rest) a w :=
  wpList_does hw (R := fun v w' => v = .bool (decide (p = q)) ∧ w' = w) (does_eql_pt y z p q ty ho hx hy ⟨rfl, rfl⟩) (by rintro v w' ⟨rfl, rfl⟩; exact h)
end
theorem builtSlice_kid (r : KRaw) : Tryd.prog.builtSlice 47 1 [(0, .agg (kdA r))] = some (kdA r) := by kernel_rfl
theorem does_slice_kid {ρ : Operand → Value} {o : Oper} {w : World} {R : Value → World → Prop} (x : Operand) (ho : o.op = .buildSlice 22 1 #[(0, x)]) (r : KRaw) (hx : ρ x = .agg (kdA r))
    (hR : R (.slice (some ⟨w.heap.size, 0, none⟩) 1 1) (w.alloc (.cells (kdA r) 47))) : Does Tryd.prog o ρ w R := by
  have hf : Tryd.prog.builtSlice 47 1 ((#[(0, x)] : Array (Nat × Operand)).map fun (i, x) => (i, ρ x)).toList = some (kdA r) := by
    simp only [List.map_toArray, List.map_cons, List.map_nil, hx]
    exact builtSlice_kid r
  have hr : (Instr.buildSlice 22 1 ((#[(0, x)] : Array (Nat × Operand)).map fun (i, x) => (i, ρ x))).run Tryd.prog w = .ok (.slice (some ⟨w.heap.size, 0, none⟩) 1 1) (w.alloc (.cells (kdA r) 47)) := by
    unfold Program.builtSlice at hf
    cases hie : Tryd.prog.info? 47 with
    | none => simp [hie] at hf
    | some ie =>
      simp only [hie] at hf
      cases hz : ie.zero with
      | none => simp [hz] at hf
      | some z =>
        simp only [hz] at hf
        by_cases hc : 1 * ie.size > 2 ^ 24 ∨ 1 * ie.size = 0
        · rw [if_pos hc] at hf; cases hf
        · rw [if_neg hc] at hf
          exact run_buildSlice w _ _ 1 _ _ ie z Tryd.underlying22 hie hz (fun h' => hc (Or.inl h')) (fun h' => hc (Or.inr h')) hf
  unfold Does execOp
  simp only [ho, Sem.run_bind, hr, Result.andThen_ok]
  exact hR
theorem does_append_kds {base B : Nat} {w : World} {o : Oper} {ρ : Operand → Value} {R : Value → World → Prop} (y x : Operand)
    (ho : o.op = .call { callee := .builtin .append, args := #[y, x], argTypes := #[22, 22] }) (l : List Kd) (r : KRaw) (i : Kd)
    (hv : OwnKds base w (ρ y) l) (hx : Els 6 kdE B w (ρ x) [r]) (hr : KdOwn base w r i) (hlen : l.length + 1 ≤ 1000000) (hb : base ≤ w.heap.size)
    (h : ∀ v' w', OwnKds base w' v' (l ++ [i]) → w.grownBy w' (ρ y).ownBlock → R v' w') : Does Tryd.prog o ρ w R := by
  obtain ⟨v', w', hrun, h2, h3, _⟩ := run_append_kds o.type hv hx hr hlen hb
  unfold Does execOp
  simp only [ho, resolve, invoke, builtin, Sem.run_bind, Sem.run_pure, Result.andThen_ok, List.map_toArray, List.map_cons, List.map_nil, hrun]
  exact h v' w' h2 h3
section
variable {w : World} {ops : Array Oper} {rest : List Oper} {o : Oper} {a : Act} {Q : Exit → Act → World → Prop}
theorem wpList_slice_kid (hw : Region.wanted o (yielded ops a.tmps) = true) (x : Operand) (ho : o.op = .buildSlice 22 1 #[(0, x)]) (r : KRaw) (hx : a.eval x = .agg (kdA r))
    (h : wpList Tryd.prog ops Q rest (a.put o.dst (.slice (some ⟨w.heap.size, 0, none⟩) 1 1)) (w.alloc (.cells (kdA r) 47))) : wpList Tryd.prog ops Q (o :: rest) a w :=
  wpList_does hw (R := fun v w' => v = .slice (some ⟨w.heap.size, 0, none⟩) 1 1 ∧ w.alloc (.cells (kdA r) 47) = w') (does_slice_kid x ho r hx ⟨rfl, rfl⟩) (by rintro v w' ⟨rfl, rfl⟩; exact h)
theorem wpList_append_kds (hw : Region.wanted o (yielded ops a.tmps) = true) (y x : Operand)
    (ho : o.op = .call { callee := .builtin .append, args := #[y, x], argTypes := #[22, 22] }) (base B : Nat) (l : List Kd) (r : KRaw) (i : Kd)
    (hv : OwnKds base w (a.eval y) l) (hx : Els 6 kdE B w (a.eval x) [r]) (hr : KdOwn base w r i) (hlen : l.length + 1 ≤ 1000000) (hb : base ≤ w.heap.size)
    (h : ∀ v' w', OwnKds base w' v' (l ++ [i]) → w.grownBy w' (a.eval y).ownBlock → wpList Tryd.prog ops Q rest (a.put o.dst v') w') : wpList Tryd.prog ops Q (o :: rest) a w :=
  wpList_does hw (R := fun v' w' => OwnKds base w' v' (l ++ [i]) ∧ w.grownBy w' (a.eval y).ownBlock)
    (does_append_kds y x ho l r i hv hx hr hlen hb (fun v' w' h1 h2 => ⟨h1, h2⟩)) (by rintro v w' ⟨h1, h2⟩; exact h v w' h1 h2)
end
@[go_sem] theorem kdA_0 (r : KRaw) : (kdA r)[0]? = some (.slice r.ka r.kn r.kc) := rfl
@[go_sem] theorem kdA_1 (r : KRaw) : (kdA r)[1]? = some (.int .u8 (bI r.ptr.kind)) := rfl
@[go_sem] theorem kdA_4 (r : KRaw) : (kdA r)[4]? = some (.int .u32 (wI r.ptr.birth)) := rfl
end Go.Proofs.YtjcommodiihcdaaDoor
/- A row of kids of a call's own whose keys lie before it. No function of the program. -/
namespace Go.Proofs.YtjcommodiihcdaaDoor
open Go.ChangeShapes Go.WideShapes Go.ChangeAt Go.RowKit Go.Deep Go.Joins
set_option linter.unusedVariables false
set_option linter.unusedSimpArgs false
/-- The row is the call's own, the keys lie below. -/
def BackKds (base : Nat) (W : World) (v : Value) (l : List Kd) : Prop :=
  ∃ rs : List KRaw, Own' 47 6 kdE base W v rs ∧ rs.length = l.length ∧ ∀ (j : Nat) (r : KRaw) (x : Kd), rs[j]? = some r → l[j]? = some x → KdIs base W r x
section
variable {base : Nat} {w : World}
theorem BackKds.nil (base : Nat) (W : World) : BackKds base W (.slice none 0 0) [] := ⟨[], ⟨fun _ h => by simp at h, World.ownsRow_nil _ _ _ _⟩, rfl, fun j r x h => by simp at h⟩
theorem BackKds.kds {v : Value} {l : List Kd} (h : BackKds base w v l) (hb : base ≤ w.heap.size) : Kds w.heap.size w v l := by
  obtain ⟨rs, h1, h2, h3⟩ := h
  exact ⟨rs, h1.els, h2, fun j r x hr hx => (h3 j r x hr hx).more hb⟩
theorem BackKds.grows {w' : World} {v : Value} {l : List Kd} (h : BackKds base w v l) (hg : Grows w w') (hb : base ≤ w.heap.size) : BackKds base w' v l := by
  obtain ⟨rs, h1, h2, h3⟩ := h
  exact ⟨rs, h1.grows hg, h2, fun j r x hr hx => (h3 j r x hr hx).below (Below.mono hg hb)⟩
theorem BackKds.low {v : Value} {l : List Kd} (h : BackKds base w v l) : ∀ k, v.ownBlock = some k → base ≤ k := by
  obtain ⟨rs, h1, _⟩ := h
  exact own_low h1
theorem BackKds.form {v : Value} {l : List Kd} (h : BackKds base w v l) (hb : base ≤ w.heap.size) : ∃ A cap, v = .slice A l.length cap ∧ l.length ≤ cap ∧ cap ≤ maxLen := by
  obtain ⟨A, cap, e, h1, h2, _⟩ := (h.kds hb).form
  exact ⟨A, cap, e, h1, h2⟩
theorem wpList_append_back {ops : Array Oper} {rest : List Oper} {o : Oper} {a : Act} {Q : Exit → Act → World → Prop} (hw : Region.wanted o (yielded ops a.tmps) = true) (y x : Operand)
    (ho : o.op = .call { callee := .builtin .append, args := #[y, x], argTypes := #[22, 22] }) (base B : Nat) (l : List Kd) (r : KRaw) (i : Kd)
    (hv : BackKds base w (a.eval y) l) (hx : Els 6 kdE B w (a.eval x) [r]) (hr : KdIs base w r i) (hlen : l.length + 1 ≤ 1000000) (hb : base ≤ w.heap.size)
    (h : ∀ v' w', BackKds base w' v' (l ++ [i]) → w.grownBy w' (a.eval y).ownBlock → wpList Tryd.prog ops Q rest (a.put o.dst v') w') : wpList Tryd.prog ops Q (o :: rest) a w :=
  wpList_does hw (R := fun v' w' => BackKds base w' v' (l ++ [i]) ∧ w.grownBy w' (a.eval y).ownBlock) (by
    obtain ⟨rs, h1, h2, h3⟩ := hv
    obtain ⟨v', w', hrun, hown, hg, hat⟩ := run_append_els elT_kid kdE_one o.type h1 hx (by rw [h2]; simp only [List.length_singleton]; unfold maxLen; omega) (by rw [h2]; simp only [List.length_singleton]; omega) hb
    have bl : Below base w w' := Below.grown (Below.refl _ _) hg hb (own_low h1)
    unfold Does execOp
    simp only [ho, resolve, invoke, builtin, Sem.run_bind, Sem.run_pure, Result.andThen_ok, List.map_toArray, List.map_cons, List.map_nil, hrun]
    refine ⟨⟨rs ++ [r], hown, by simp [h2], fun j r' x' hr' hx' => ?_⟩, hg⟩
    by_cases hj : j < rs.length
    · rw [List.getElem?_append_left hj] at hr'
      rw [List.getElem?_append_left (by omega)] at hx'
      exact (h3 j r' x' hr' hx').below bl
    · have hj' : j = rs.length := by
        have := (List.getElem?_eq_some_iff.1 hr').1
        simp at this
        omega
      subst hj'
      rw [List.getElem?_append_right (Nat.le_refl _), Nat.sub_self] at hr'
      rw [List.getElem?_append_right (by omega), ← h2, Nat.sub_self] at hx'
      simp only [List.getElem?_cons_zero, Option.some.injEq] at hr' hx'
      subst hr' hx'
      exact hr.below bl) (by rintro v w' ⟨h1, h2⟩; exact h v w' h1 h2)
end
end Go.Proofs.YtjcommodiihcdaaDoor
