/- LeafM LfColl Leaf LfOps LfEncM -/
import Derived.Test.YtjcommodiihcdaaDoorPtA
import Derived.Test.YtjcommodiihcdaaDoorBaseC
import Derived.Test.YtjcommodiihcdaaDoorStr
import Derived.Test.YtjcommodiihcdaaDoorBaseA
import Derived.Test.YtjcommodiihcdaaDoorApp
import Derived.Test.YtjcommodiihcdaaDoorPage
/- What layer 6 reckons: items, a leaf's page, plain mathematics. No function of the program. -/
namespace Go.Proofs.YtjcommodiihcdaaDoor
open Go.RowKit
structure It where
  key : List (BitVec 8)
  val : List (BitVec 8)
  over : Pt
  size : BitVec 16
theorem It.eq_iff (x y : It) : (x.key = y.key ∧ x.val = y.val ∧ x.over = y.over ∧ x.size = y.size) ↔ x = y := by
  cases x; cases y; simp
instance : DecidableEq It := fun x y => decidable_of_iff _ (It.eq_iff x y)
namespace LeafM
/-- Is one key below another one? -/
def lt (a b : List (BitVec 8)) : Bool := Op.bytesLess (str a).toList (str b).toList
/-- May an item be? -/
def ok (x : It) : Bool := (decide (1 ≤ x.key.length) && decide (x.key.length ≤ 8)) &&
  (if x.over.kind = 0#8 then decide (x.val.length ≤ 16) && decide (x.over = PtM.none) && (x.size == 0#16)
   else (x.over.kind == 3#8) && decide (x.val.length = 0) && decide (16 < hI x.size) && decide (hI x.size ≤ 600) && PtM.right x.over 256)
/-- May the item at a place stand there? -/
def okAt (l : List It) (i : Nat) : Bool := match l[i]? with
  | none => true
  | some x => ok x && (i == 0 || match l[i - 1]? with | some y => lt y.key x.key | none => true)
def right (l : List It) : Bool := (List.range l.length).all (okAt l) && decide (l.length ≤ 6)
/-- An item's bytes behind others. -/
def step (b : List (BitVec 8)) (x : It) : List (BitVec 8) :=
  if x.over.kind = 0#8 then PackM.putBytes (PackM.putBytes b x.key ++ [0#8]) x.val
  else PtM.put (PackM.put (PackM.putBytes b x.key ++ [1#8]) (x.size.setWidth 64) 2) x.over
def encB (l : List It) : List (BitVec 8) := l.foldl step [1#8, BitVec.ofNat 8 l.length]
def blank : List (BitVec 8) := List.replicate 256 0#8
def encP (l : List It) : List (BitVec 8) := if right l = true then (if 256 < (encB l).length then blank else PackM.fill (encB l)) else blank
def encE (l : List It) : Int := if right l = true then (if 256 < (encB l).length then 2 else 0) else 2
/-- The item ahead in these bytes, and what is behind it. -/
def item (b : List (BitVec 8)) : Option (It × List (BitVec 8)) :=
  if PackM.tbE b 8 = 0 ∧ PackM.takeE (PackM.tbR b 8) 1 = 0 ∧ (PackM.takeN (PackM.tbR b 8) 1).toNat ≤ 1 then
    if PackM.takeN (PackM.tbR b 8) 1 = 0#64 then
      if PackM.tbE (PackM.takeR (PackM.tbR b 8) 1) 16 = 0 then some (⟨PackM.tbS b 8, PackM.tbS (PackM.takeR (PackM.tbR b 8) 1) 16, PtM.none, 0#16⟩, PackM.tbR (PackM.takeR (PackM.tbR b 8) 1) 16) else none
    else
      if PackM.takeE (PackM.takeR (PackM.tbR b 8) 1) 2 = 0 ∧ PtM.takeE (PackM.takeR (PackM.takeR (PackM.tbR b 8) 1) 2) = 0 then
        some (⟨PackM.tbS b 8, [], PtM.takeP (PackM.takeR (PackM.takeR (PackM.tbR b 8) 1) 2), (PackM.takeN (PackM.takeR (PackM.tbR b 8) 1) 2).setWidth 16⟩, PtM.takeR (PackM.takeR (PackM.takeR (PackM.tbR b 8) 1) 2)) else none
  else none
/-- So many items ahead, and what is behind them. -/
def items : Nat → List (BitVec 8) → Option (List It × List (BitVec 8))
  | 0, b => some ([], b)
  | n + 1, b => match items n b with
    | none => none
    | some (l, r) => match item r with
      | none => none
      | some (x, r') => some (l ++ [x], r')
def first (p : List (BitVec 8)) : Nat := (p[0]?.getD 0#8).toNat
def many (p : List (BitVec 8)) : Nat := (p[1]?.getD 0#8).toNat
/-- The items whose page it is. -/
def dec (p : List (BitVec 8)) : Option (List It) :=
  if first p ≠ 1 ∨ 6 < many p then none
  else match items (many p) (p.drop 2) with
    | none => none
    | some (l, _) => if encE l = 0 ∧ encP l = p then some l else none
def decE (p : List (BitVec 8)) : Int := if (dec p).isSome then 0 else 50
def decL (p : List (BitVec 8)) : List It := (dec p).getD []
theorem dec_page {p : List (BitVec 8)} {l : List It} (h : dec p = some l) : encE l = 0 ∧ encP l = p := by
  unfold dec at h
  split at h
  · cases h
  · split at h
    · cases h
    · split at h
      · rename_i h2
        cases h
        exact h2
      · cases h
-- an item's own bytes
def own (x : It) : List (BitVec 8) :=
  BitVec.ofNat 8 x.key.length :: (x.key ++ (if x.over.kind = 0#8 then 0#8 :: BitVec.ofNat 8 x.val.length :: x.val else 1#8 :: (Num.bytes (x.size.setWidth 64) 2 ++ PtM.bytes x.over)))
theorem putBytes_short (b s : List (BitVec 8)) (h : s.length ≤ 255) : PackM.putBytes b s = b ++ BitVec.ofNat 8 s.length :: s := by
  unfold PackM.putBytes
  rw [Nat.min_eq_left h, List.take_of_length_le h]
theorem ok_len {x : It} (h : ok x = true) : 1 ≤ x.key.length ∧ x.key.length ≤ 8 ∧ x.val.length ≤ 16 := by
  unfold ok at h
  simp only [Bool.and_eq_true, decide_eq_true_eq] at h
  refine ⟨h.1.1, h.1.2, ?_⟩
  have h2 := h.2
  split at h2
  · simp only [Bool.and_eq_true, decide_eq_true_eq] at h2; exact h2.1.1
  · simp only [Bool.and_eq_true, decide_eq_true_eq] at h2; omega
theorem step_own (b : List (BitVec 8)) (x : It) (h : ok x = true) : step b x = b ++ own x := by
  obtain ⟨_, h1, h2⟩ := ok_len h
  unfold step own
  split
  · rw [putBytes_short _ _ (by omega), putBytes_short _ _ (by omega)]
    simp only [List.append_assoc, List.cons_append, List.nil_append]
  · rw [putBytes_short _ _ (by omega)]
    unfold PtM.put PackM.put
    rw [show PackM.wd 2 = 2 from rfl]
    simp only [List.append_assoc, List.cons_append, List.nil_append]
theorem own_len {x : It} (h : ok x = true) : (own x).length ≤ 29 := by
  obtain ⟨_, h1, h2⟩ := ok_len h
  unfold own
  split
  · simp only [List.length_cons, List.length_append]; omega
  · simp only [List.length_cons, List.length_append, Num.bytes_length, PtM.bytes_length]; omega
theorem many_cons (x : BitVec 8) (l : List (BitVec 8)) : PackM.many (x :: l) = x.toNat := rfl
theorem tb_own (s rest : List (BitVec 8)) (most : Int) (h : s.length ≤ 255) (hm : (s.length : Int) ≤ most) :
    PackM.tbE (BitVec.ofNat 8 s.length :: (s ++ rest)) most = 0 ∧ PackM.tbS (BitVec.ofNat 8 s.length :: (s ++ rest)) most = s ∧ PackM.tbR (BitVec.ofNat 8 s.length :: (s ++ rest)) most = rest := by
  have hk : (BitVec.ofNat 8 s.length).toNat = s.length := by rw [BitVec.toNat_ofNat, Nat.mod_eq_of_lt (by omega)]
  have hE : PackM.tbE (BitVec.ofNat 8 s.length :: (s ++ rest)) most = 0 := by
    unfold PackM.tbE
    rw [many_cons, hk, if_neg, if_neg (by omega)]
    simp only [List.length_cons, List.length_append]
    omega
  refine ⟨hE, ?_, ?_⟩
  · unfold PackM.tbS
    rw [if_pos hE, many_cons, hk, List.drop_one, List.tail_cons, List.take_left]
  · unfold PackM.tbR
    rw [if_pos hE, many_cons, hk, Nat.add_comm, List.drop_succ_cons, List.drop_left]
theorem take_one (b : BitVec 8) (rest : List (BitVec 8)) : PackM.takeE (b :: rest) 1 = 0 ∧ PackM.takeN (b :: rest) 1 = b.setWidth 64 ∧ PackM.takeR (b :: rest) 1 = rest := by
  have hw : PackM.wd 1 = 1 := rfl
  refine ⟨?_, ?_, ?_⟩
  · unfold PackM.takeE; rw [hw, if_neg (by simp)]
  · unfold PackM.takeN; rw [hw, if_neg (by simp)]
    simp [Num.num]
  · unfold PackM.takeR; rw [hw, if_neg (by simp)]; rfl
theorem take_two (x : BitVec 16) (rest : List (BitVec 8)) : PackM.takeE (Num.bytes (x.setWidth 64) 2 ++ rest) 2 = 0 ∧ (PackM.takeN (Num.bytes (x.setWidth 64) 2 ++ rest) 2).setWidth 16 = x ∧ PackM.takeR (Num.bytes (x.setWidth 64) 2 ++ rest) 2 = rest := by
  have hw : PackM.wd 2 = 2 := rfl
  have hl : (Num.bytes (x.setWidth 64) 2).length = 2 := by simp
  have h2 := PtM.back_u16 x
  generalize Num.bytes (x.setWidth 64) 2 = B at *
  refine ⟨?_, ?_, ?_⟩
  · unfold PackM.takeE; rw [hw, if_neg (by rw [List.length_append]; omega)]
  · unfold PackM.takeN; rw [hw, if_neg (by rw [List.length_append]; omega), List.take_append_of_le_length (by omega), List.take_of_length_le (by omega)]; exact h2
  · unfold PackM.takeR; rw [hw, if_neg (by rw [List.length_append]; omega), List.drop_append, List.drop_of_length_le (by omega), hl, List.nil_append, Nat.sub_self, List.drop_zero]
/-- What is put is taken again. -/
theorem item_own (x : It) (rest : List (BitVec 8)) (h : ok x = true) : item (own x ++ rest) = some (x, rest) := by
  obtain ⟨_, h1, h2⟩ := ok_len h
  unfold own item
  rw [List.cons_append, List.append_assoc]
  obtain ⟨e1, e2, e3⟩ := tb_own x.key ((if x.over.kind = 0#8 then 0#8 :: BitVec.ofNat 8 x.val.length :: x.val else 1#8 :: (Num.bytes (x.size.setWidth 64) 2 ++ PtM.bytes x.over)) ++ rest) 8 (by omega) (by omega)
  rw [e1, e2, e3]
  have hok := h
  unfold ok at hok
  simp only [Bool.and_eq_true, decide_eq_true_eq] at hok
  have h3 := hok.2
  split at h3
  · rename_i hk
    rw [if_pos hk]
    simp only [Bool.and_eq_true, decide_eq_true_eq, beq_iff_eq] at h3
    obtain ⟨f1, f2, f3⟩ := take_one 0#8 (BitVec.ofNat 8 x.val.length :: x.val ++ rest)
    rw [List.cons_append, f1, f2, f3, if_pos ⟨rfl, rfl, by decide⟩, if_pos (by decide)]
    obtain ⟨g1, g2, g3⟩ := tb_own x.val rest 16 (by omega) (by omega)
    rw [List.cons_append, g1, g2, g3, if_pos rfl]
    have : x = ⟨x.key, x.val, PtM.none, 0#16⟩ := (It.eq_iff _ _).1 ⟨rfl, rfl, h3.1.2, h3.2⟩
    rw [← this]
  · rename_i hk
    rw [if_neg hk]
    simp only [Bool.and_eq_true, decide_eq_true_eq, beq_iff_eq] at h3
    obtain ⟨f1, f2, f3⟩ := take_one 1#8 (Num.bytes (x.size.setWidth 64) 2 ++ PtM.bytes x.over ++ rest)
    rw [List.cons_append, f1, f2, f3, if_pos ⟨rfl, rfl, by decide⟩, if_neg (by decide), List.append_assoc]
    obtain ⟨g1, g2, g3⟩ := take_two x.size (PtM.bytes x.over ++ rest)
    obtain ⟨k1, k2, k3⟩ := PtM.take_put x.over rest
    rw [g1, g2, g3, k1, k2, k3, if_pos ⟨rfl, rfl⟩]
    have hv : x.val = [] := List.length_eq_zero_iff.1 h3.1.1.1.2
    have : x = ⟨x.key, [], x.over, x.size⟩ := (It.eq_iff _ _).1 ⟨rfl, hv, rfl, rfl⟩
    rw [← this]
theorem items_succ_eq (n : Nat) (b : List (BitVec 8)) : items (n + 1) b = match items n b with
    | none => none
    | some (l, r) => match item r with
      | none => none
      | some (x, r') => some (l ++ [x], r') := rfl
theorem items_own : ∀ (l : List It) (rest : List (BitVec 8)), (∀ x ∈ l, ok x = true) → items l.length (l.flatMap own ++ rest) = some (l, rest) := by
  intro l
  -- from the end
  have key : ∀ (m : List It) (rest : List (BitVec 8)), (∀ x ∈ m.reverse, ok x = true) → items m.reverse.length (m.reverse.flatMap own ++ rest) = some (m.reverse, rest) := by
    intro m
    induction m with
    | nil => intro rest _; rfl
    | cons x m ih =>
      intro rest h
      rw [List.reverse_cons] at h ⊢
      rw [List.length_append, List.length_singleton, items_succ_eq, List.flatMap_append, List.append_assoc, ih _ (fun y hy => h y (by simp at hy; simp [hy]))]
      simp only [List.flatMap_cons, List.flatMap_nil, List.append_nil]
      rw [item_own x rest (h x (by simp))]
  have := key l.reverse
  rwa [List.reverse_reverse] at this
theorem right_ok {l : List It} (h : right l = true) : l.length ≤ 6 ∧ ∀ x ∈ l, ok x = true := by
  unfold right at h
  simp only [Bool.and_eq_true, decide_eq_true_eq, List.all_eq_true, List.mem_range] at h
  refine ⟨h.2, fun x hx => ?_⟩
  obtain ⟨i, hi, rfl⟩ := List.mem_iff_getElem.1 hx
  have := h.1 i hi
  unfold okAt at this
  rw [List.getElem?_eq_getElem hi] at this
  simp only [Bool.and_eq_true] at this
  exact this.1
theorem foldl_own : ∀ (l : List It) (b : List (BitVec 8)), (∀ x ∈ l, ok x = true) → l.foldl step b = b ++ l.flatMap own
  | [], b, _ => by simp
  | x :: l, b, h => by
    rw [List.foldl_cons, step_own b x (h x (by simp)), foldl_own l _ (fun y hy => h y (by simp [hy])), List.flatMap_cons, List.append_assoc]
theorem flat_len : ∀ l : List It, (∀ x ∈ l, ok x = true) → (l.flatMap own).length ≤ 29 * l.length
  | [], _ => by simp
  | x :: l, h => by
    have h1 := own_len (h x (by simp))
    have h2 := flat_len l (fun y hy => h y (by simp [hy]))
    rw [List.flatMap_cons, List.length_append, List.length_cons]
    omega
theorem encB_right {l : List It} (h : right l = true) : encB l = [1#8, BitVec.ofNat 8 l.length] ++ l.flatMap own ∧ (encB l).length ≤ 256 := by
  obtain ⟨h1, h2⟩ := right_ok h
  have e : encB l = [1#8, BitVec.ofNat 8 l.length] ++ l.flatMap own := foldl_own l _ h2
  have h3 := flat_len l h2
  refine ⟨e, ?_⟩
  rw [e, List.length_append]
  simp only [List.length_cons, List.length_nil]
  omega
theorem enc_right {l : List It} (h : right l = true) : encE l = 0 ∧ encP l = [1#8, BitVec.ofNat 8 l.length] ++ l.flatMap own ++ List.replicate (256 - (encB l).length) 0#8 := by
  obtain ⟨e, hl⟩ := encB_right h
  unfold encE encP
  rw [if_pos h, if_pos h, if_neg (by omega), if_neg (by omega)]
  refine ⟨rfl, ?_⟩
  unfold PackM.fill
  rw [if_neg (by omega), e]
/-- A page's items are decoded as they are. -/
theorem dec_enc {l : List It} (h : right l = true) : dec (encP l) = some l := by
  obtain ⟨h1, h2⟩ := right_ok h
  obtain ⟨e1, e2⟩ := enc_right h
  have hm : many (encP l) = l.length := by
    unfold many
    rw [e2]
    simp only [List.append_assoc, List.cons_append, List.getElem?_cons_succ, List.getElem?_cons_zero, Option.getD_some, BitVec.toNat_ofNat]
    omega
  have hf : first (encP l) = 1 := by
    unfold first
    rw [e2]
    rfl
  have hd : (encP l).drop 2 = l.flatMap own ++ List.replicate (256 - (encB l).length) 0#8 := by
    rw [e2]
    simp only [List.cons_append, List.nil_append, List.drop_succ_cons, List.drop_zero]
  unfold dec
  rw [hm, hf, if_neg (by omega), hd, items_own l _ h2]
  simp only
  rw [if_pos ⟨e1, trivial⟩]
theorem encP_len (l : List It) : (encP l).length = 256 := by
  unfold encP
  split
  · split
    · exact List.length_replicate
    · exact PackM.fill_length _
  · exact List.length_replicate
/-- Items that are too long, or too many, to be asked. -/
def big (x : It) : Bool := decide (40 < x.key.length) || decide (800 < x.val.length)
def great (l : List It) : Bool := (l.take 21).any big || decide (20 < l.length)
theorem great_false {l : List It} (h : great l = false) : l.length ≤ 20 ∧ ∀ x ∈ l, x.key.length ≤ 40 ∧ x.val.length ≤ 800 := by
  unfold great at h
  simp only [Bool.or_eq_false_iff, decide_eq_false_iff_not] at h
  have hl : l.length ≤ 20 := by omega
  refine ⟨hl, fun x hx => ?_⟩
  have h1 := h.1
  rw [List.take_of_length_le (by omega), List.any_eq_false] at h1
  have := h1 x hx
  unfold big at this
  simp only [Bool.or_eq_true, decide_eq_true_eq, not_or] at this
  omega
theorem all_step {l : List It} {k : Nat} (h : (List.range k).all (okAt l) = true) (hk : okAt l k = true) : (List.range (k + 1)).all (okAt l) = true := by
  rw [List.range_succ, List.all_append, h]
  simp [hk]
theorem right_false {l : List It} {k : Nat} (hk : k < l.length) (h : okAt l k = false) : right l = false := by
  unfold right
  rw [show (List.range l.length).all (okAt l) = false from List.all_eq_false.2 ⟨k, List.mem_range.2 hk, by simp [h]⟩]
  rfl
theorem right_end {l : List It} (h : (List.range l.length).all (okAt l) = true) : right l = decide (l.length ≤ 6) := by
  unfold right; rw [h, Bool.true_and]
theorem okAt_zero {l : List It} {x : It} (hx : l[0]? = some x) : okAt l 0 = ok x := by
  unfold okAt; rw [hx]; simp
theorem okAt_succ {l : List It} {k : Nat} {x y : It} (hx : l[k + 1]? = some x) (hy : l[k]? = some y) : okAt l (k + 1) = (ok x && lt y.key x.key) := by
  unfold okAt; rw [hx]; simp [hy]
theorem any_step {l : List It} {k : Nat} {x : It} (h : (l.take k).any big = false) (hx : l[k]? = some x) : (l.take (k + 1)).any big = big x := by
  rw [List.take_add_one, hx, List.any_append, h]
  simp
theorem great_true {l : List It} {k : Nat} {x : It} (hx : l[k]? = some x) (hk : k ≤ 20) (hb : big x = true) : great l = true := by
  unfold great
  have : (l.take 21).any big = true := List.any_eq_true.2 ⟨x, List.mem_of_getElem? (i := k) (by rw [List.getElem?_take_of_lt (by omega)]; exact hx), hb⟩
  rw [this]; rfl
theorem great_end {l : List It} {k : Nat} (h : (l.take k).any big = false) (hk : k ≤ 21) (he : l.length ≤ k ∨ k = 21) : great l = decide (20 < l.length) := by
  unfold great
  have : l.take 21 = l.take k := by
    rcases he with he | he
    · rw [List.take_of_length_le he, List.take_of_length_le (by omega)]
    · rw [he]
  rw [this, h]; rfl
/-- Decoded items may be. -/
theorem encE_right {l : List It} : encE l = 0 ↔ right l = true := by
  constructor
  · intro h
    unfold encE at h
    split at h
    · assumption
    · exact absurd h (by decide)
  · intro h
    exact (enc_right h).1
theorem enc_not {l : List It} (h : right l = false) : encE l = 2 ∧ encP l = blank := by
  unfold encE encP
  rw [if_neg (by simp [h]), if_neg (by simp [h])]
  exact ⟨rfl, rfl⟩
end LeafM
end Go.Proofs.YtjcommodiihcdaaDoor
/- What layer 6's own answers reckon: items collected from a page, pages held against their items' own. Plain mathematics. -/
namespace Go.Proofs.YtjcommodiihcdaaDoor
namespace LeafM
/-- These items are what could be taken of so many. -/
def Coll (n : Nat) (b : List (BitVec 8)) (l : List It) : Prop := ∃ r, items l.length b = some (l, r) ∧ l.length ≤ n ∧ (l.length = n ∨ item r = none)
theorem items_len : ∀ (n : Nat) (b : List (BitVec 8)) (l : List It) (r : List (BitVec 8)), items n b = some (l, r) → l.length = n
  | 0, b, l, r, h => by
    cases h; rfl
  | n + 1, b, l, r, h => by
    rw [items_succ_eq] at h
    split at h
    · cases h
    · rename_i l1 r1 h1
      split at h
      · cases h
      · cases h
        rw [List.length_append, items_len n b l1 r1 h1]
        rfl
theorem items_stop {k : Nat} {b : List (BitVec 8)} {l : List It} {r : List (BitVec 8)} (h : items k b = some (l, r)) (hr : item r = none) : ∀ d, items (k + 1 + d) b = none
  | 0 => by
    rw [Nat.add_zero, items_succ_eq, h]
    simp only [hr]
  | d + 1 => by
    rw [← Nat.add_assoc, items_succ_eq, items_stop h hr d]
theorem items_next {k : Nat} {b : List (BitVec 8)} {l : List It} {r : List (BitVec 8)} {x : It} {q : List (BitVec 8)} (h : items k b = some (l, r)) (hr : item r = some (x, q)) : items (k + 1) b = some (l ++ [x], q) := by
  rw [items_succ_eq, h]
  simp only [hr]
theorem enc_head {l : List It} {p : List (BitVec 8)} (h1 : encE l = 0) (h2 : encP l = p) : first p = 1 ∧ many p = l.length ∧ l.length ≤ 6 := by
  have hr := encE_right.1 h1
  obtain ⟨h3, _⟩ := right_ok hr
  obtain ⟨_, e2⟩ := enc_right hr
  rw [h2] at e2
  refine ⟨?_, ?_, h3⟩
  · unfold first; rw [e2]; rfl
  · unfold many
    rw [e2]
    simp only [List.append_assoc, List.cons_append, List.getElem?_cons_succ, List.getElem?_cons_zero, Option.getD_some, BitVec.toNat_ofNat]
    omega
/-- What is decoded is what could be taken, where its own page is this one. -/
theorem dec_coll {p : List (BitVec 8)} {l : List It} (h : Coll (many p) (p.drop 2) l) : dec p = if encE l = 0 ∧ encP l = p then some l else none := by
  obtain ⟨r, h1, h2, h3⟩ := h
  by_cases hc : encE l = 0 ∧ encP l = p
  · rw [if_pos hc]
    obtain ⟨g1, g2, g3⟩ := enc_head hc.1 hc.2
    unfold dec
    rw [g1, g2, if_neg (by omega), h1]
    simp only
    rw [if_pos hc]
  · rw [if_neg hc]
    cases hd : dec p with
    | none => rfl
    | some l' =>
      exfalso
      have hp := dec_page hd
      unfold dec at hd
      split at hd
      · cases hd
      · split at hd
        · cases hd
        · rename_i l2 r2 hi
          split at hd
          · cases hd
            rcases h3 with h3 | h3
            · rw [h3, hi] at h1
              cases h1
              exact hc hp
            · by_cases he : l.length = many p
              · rw [he, hi] at h1
                cases h1
                exact hc hp
              · obtain ⟨d, hd⟩ : ∃ d, many p = l.length + 1 + d := ⟨many p - (l.length + 1), by omega⟩
                rw [hd, items_stop h1 h3 d] at hi
                cases hi
          · cases hd
theorem decE_coll {p : List (BitVec 8)} {l : List It} (h : Coll (many p) (p.drop 2) l) (hc : encE l = 0 ∧ encP l = p) : decE p = 0 ∧ decL p = l := by
  unfold decE decL
  rw [dec_coll h, if_pos hc]
  exact ⟨rfl, rfl⟩
theorem decE_not {p : List (BitVec 8)} {l : List It} (h : Coll (many p) (p.drop 2) l) (hc : ¬ (encE l = 0 ∧ encP l = p)) : decE p = 50 ∧ decL p = [] := by
  unfold decE decL
  rw [dec_coll h, if_neg hc]
  exact ⟨rfl, rfl⟩
theorem lt_cmp (a b : List (BitVec 8)) : lt a b = Op.bytesLess (str a).toList (str b).toList := rfl
/-- An item that may be has no pointer just if its pointer is of no kind. -/
theorem ok_none {x : It} (h : ok x = true) : decide (x.over = PtM.none) = decide (x.over.kind = 0#8) := by
  by_cases hk : x.over.kind = 0#8
  · rw [decide_eq_true hk]
    unfold ok at h
    rw [if_pos hk] at h
    simp only [Bool.and_eq_true, decide_eq_true_eq] at h
    exact decide_eq_true h.2.1.2
  · rw [decide_eq_false hk]
    exact decide_eq_false (fun e => hk (by rw [e]; rfl))
theorem step_none {x : It} (h : ok x = true) (b : List (BitVec 8)) (hn : x.over = PtM.none) : step b x = PackM.putBytes (PackM.put (PackM.putBytes b x.key) 0#64 1) x.val := by
  have hk : x.over.kind = 0#8 := by rw [hn]; rfl
  unfold step
  rw [if_pos hk]
  rfl
theorem step_over {x : It} (h : ok x = true) (b : List (BitVec 8)) (hn : ¬ x.over = PtM.none) : step b x = PtM.put (PackM.put (PackM.put (PackM.putBytes b x.key) 1#64 1) (x.size.setWidth 64) 2) x.over := by
  have hk : ¬ x.over.kind = 0#8 := by
    have := ok_none h
    rw [decide_eq_false hn] at this
    exact of_decide_eq_false this.symm
  unfold step
  rw [if_neg hk]
  rfl
theorem step_len {x : It} (h : ok x = true) (b : List (BitVec 8)) : (step b x).length ≤ b.length + 29 := by
  rw [step_own b x h, List.length_append]
  have := own_len h
  omega
end LeafM
end Go.Proofs.YtjcommodiihcdaaDoor
/- Items as values: how a law's stand in the heap, rows of items of a call's own. No function of the program. -/
namespace Go.Proofs.YtjcommodiihcdaaDoor
open Go.ChangeShapes Go.WideShapes Go.ChangeAt Go.RowKit Go.Deep Go.Joins
set_option linter.unusedVariables false
set_option linter.unusedSimpArgs false
/-- An item's cells: where its key and its value lie, its pointer, its size. -/
structure Raw where
  ka : Option Addr
  kn : Nat
  kc : Nat
  va : Option Addr
  vn : Nat
  vc : Nat
  over : Pt
  size : BitVec 16
instance : Inhabited Raw := ⟨⟨none, 0, 0, none, 0, 0, PtM.none, 0#16⟩⟩
def Raw.key (x : Raw) : Value := .slice x.ka x.kn x.kc
def Raw.val (x : Raw) : Value := .slice x.va x.vn x.vc
def rawE (x : Raw) : List Value := [.slice x.ka x.kn x.kc, .slice x.va x.vn x.vc, .int .u8 (bI x.over.kind), .int .u16 (hI x.over.a), .int .u16 (hI x.over.b), .int .u32 (wI x.over.birth), .int .u64 (uI x.over.sum), .int .u16 (hI x.size)]
theorem rawE_len (x : Raw) : (rawE x).length = 8 := rfl
theorem rawE_one : ∀ x : Raw, ∀ u ∈ rawE x, u.oneCell' = true := fun x u hu => by
  simp only [rawE, List.mem_cons, List.not_mem_nil, or_false] at hu
  rcases hu with rfl | rfl | rfl | rfl | rfl | rfl | rfl | rfl <;> rfl
def rawA (x : Raw) : Array Value := (rawE x).toArray
/-- These cells are this item's, read below B. -/
def RawIs (B : Nat) (W : World) (r : Raw) (x : It) : Prop := Bytes B W (.slice r.ka r.kn r.kc) x.key ∧ Bytes B W (.slice r.va r.vn r.vc) x.val ∧ r.over = x.over ∧ r.size = x.size
theorem RawIs.below {B : Nat} {W W' : World} {r : Raw} {x : It} (h : RawIs B W r x) (hb : Below B W W') : RawIs B W' r x := ⟨h.1.below hb, h.2.1.below hb, h.2.2⟩
theorem RawIs.more {B B' : Nat} {W : World} {r : Raw} {x : It} (h : RawIs B W r x) (hb : B ≤ B') : RawIs B' W r x := ⟨h.1.more hb, h.2.1.more hb, h.2.2⟩
theorem RawIs.grows {W W' : World} {r : Raw} {x : It} (h : RawIs W.heap.size W r x) (hg : Grows W W') : RawIs W'.heap.size W' r x := (h.below hg).more (Below.size hg)
/-- The slice v holds these items. -/
def Its (B : Nat) (W : World) (v : Value) (l : List It) : Prop :=
  ∃ rs : List Raw, Els 8 rawE B W v rs ∧ rs.length = l.length ∧ ∀ (j : Nat) (r : Raw) (x : It), rs[j]? = some r → l[j]? = some x → RawIs B W r x
theorem Its.below {B : Nat} {W W' : World} {v : Value} {l : List It} (h : Its B W v l) (hb : Below B W W') : Its B W' v l := by
  obtain ⟨rs, h1, h2, h3⟩ := h
  exact ⟨rs, h1.below hb, h2, fun j r x hr hx => (h3 j r x hr hx).below hb⟩
theorem Its.more {B B' : Nat} {W : World} {v : Value} {l : List It} (h : Its B W v l) (hb : B ≤ B') : Its B' W v l := by
  obtain ⟨rs, h1, h2, h3⟩ := h
  exact ⟨rs, h1.more hb, h2, fun j r x hr hx => (h3 j r x hr hx).more hb⟩
theorem Its.grows {W W' : World} {v : Value} {l : List It} (h : Its W.heap.size W v l) (hg : Grows W W') : Its W'.heap.size W' v l := (h.below hg).more (Below.size hg)
theorem Its.nil (B : Nat) (W : World) : Its B W (.slice none 0 0) [] := ⟨[], Els.nil _ _, rfl, fun j r x h => by simp at h⟩
/-- The cells of the item at a place. -/
theorem Its.form {B : Nat} {W : World} {v : Value} {l : List It} (h : Its B W v l) : ∃ A cap, v = .slice A l.length cap ∧ l.length ≤ cap ∧ cap ≤ maxLen ∧ (0 < l.length → ∃ b o, A = some ⟨b, o, none⟩ ∧ b < B ∧ ∀ j x, l[j]? = some x → ∃ r, RawIs B W r x ∧ W.rangeAt b (o + j * 8) (rawE r)) := by
  obtain ⟨rs, h1, h2, h3⟩ := h
  obtain ⟨A, cap, rfl, g1, g2, g3⟩ := h1.form
  rw [h2] at g1 g3 ⊢
  refine ⟨A, cap, rfl, g1, g2, fun hp => ?_⟩
  obtain ⟨b, o, e1, e2, e3⟩ := g3 hp
  refine ⟨b, o, e1, e2, fun j x hx => ?_⟩
  have hj : j < rs.length := by rw [h2]; exact (List.getElem?_eq_some_iff.1 hx).1
  exact ⟨rs[j], h3 j _ x (List.getElem?_eq_getElem hj) hx, e3 j _ (List.getElem?_eq_getElem hj)⟩
theorem Its.len {B : Nat} {W : World} {A : Option Addr} {n cap : Nat} {l : List It} (h : Its B W (.slice A n cap) l) : n = l.length := by
  obtain ⟨A', cap', e, _⟩ := h.form
  injection e
theorem list8 {l : List Value} (h : l.length = 8) : ∃ a b c d e f g i, l = [a, b, c, d, e, f, g, i] := by
  match l, h with
  | [a, b, c, d, e, f, g, i], _ => exact ⟨a, b, c, d, e, f, g, i, rfl⟩
/-- These cells are this item's, in memory of the call's own. -/
def RawOwn (base : Nat) (W : World) (r : Raw) (x : It) : Prop := Mine base W (.slice r.ka r.kn r.kc) x.key ∧ Mine base W (.slice r.va r.vn r.vc) x.val ∧ r.over = x.over ∧ r.size = x.size
theorem RawOwn.is {base : Nat} {W : World} {r : Raw} {x : It} (h : RawOwn base W r x) : RawIs W.heap.size W r x := ⟨h.1.bytes, h.2.1.bytes, h.2.2⟩
theorem RawOwn.grows {base : Nat} {W W' : World} {r : Raw} {x : It} (h : RawOwn base W r x) (hg : Grows W W') : RawOwn base W' r x := ⟨h.1.grows hg, h.2.1.grows hg, h.2.2⟩
theorem RawOwn.more {base b : Nat} {W : World} {r : Raw} {x : It} (h : RawOwn base W r x) (hb : b ≤ base) : RawOwn b W r x := ⟨h.1.more hb, h.2.1.more hb, h.2.2⟩
theorem flat_bytes : ∀ b : List (BitVec 8), b.flatMap (fun x => [byteV x]) = b.map byteV
  | [] => rfl
  | a :: b => by rw [List.flatMap_cons, flat_bytes b]; rfl
theorem Bytes.len {B : Nat} {W : World} {A : Option Addr} {n cap : Nat} {l : List (BitVec 8)} (h : Bytes B W (.slice A n cap) l) : n = l.length := by
  obtain ⟨A', cap', e, _⟩ := h
  injection e with _ e2 _
  simpa using e2
/-- An item just laid in a block: its cells. -/
theorem raw_at {W : World} {b o : Nat} {r : Raw} (h : W.rangeAt b o (rawE r)) : W.cell? ⟨b, o, none⟩ = some (.slice r.ka r.kn r.kc) ∧ W.cell? ⟨b, o + 1, none⟩ = some (.slice r.va r.vn r.vc) ∧ W.cell? ⟨b, o + 2, none⟩ = some (.int .u8 (bI r.over.kind)) ∧ W.cell? ⟨b, o + 7, none⟩ = some (.int .u16 (hI r.size)) ∧ W.rangeAt b (o + 2) (ptE r.over) := by
  refine ⟨h 0 _ rfl, h 1 _ rfl, h 2 _ rfl, h 7 _ rfl, fun j v hv => ?_⟩
  have hj : j < 5 := (List.getElem?_eq_some_iff.1 hv).1
  have : (rawE r)[2 + j]? = some v := by
    rcases j with _ | _ | _ | _ | _ | j
    · exact hv
    · exact hv
    · exact hv
    · exact hv
    · exact hv
    · omega
  have h2 := h (2 + j) v this
  rwa [← Nat.add_assoc] at h2
end Go.Proofs.YtjcommodiihcdaaDoor
/- Items in blocks: an item and its pointer loaded, rows of one item stored; the string order. No function of the program. -/
namespace Go.Proofs.YtjcommodiihcdaaDoor
open Go.RowKit
set_option linter.unusedVariables false
section
variable {w : World} {b o : Nat}
theorem ptE_arr (x : Pt) : (ptE x).toArray = ptA x := rfl
theorem ptr_run_load {x : Pt} (h : w.rangeAt b o (ptE x)) : (loadVar 45 ⟨b, o, none⟩).run Tryd.prog w = .ok (.agg (ptA x)) w :=
  run_loadVar_mid w b o 45 (ptE x) _ h Tryd.underlying45 rfl (by kernel_rfl)
theorem rawA_one (r : Raw) : (rawA r).all (·.oneCell') = true := by simp [rawA, rawE, Value.oneCell']
variable {ops : Array Oper} {rest : List Oper} {op : Oper} {a : Act} {Q : Exit → Act → World → Prop}
theorem wpList_load_ptAt (hgd : op.guard = none) (y : Operand) (ho : op.op = .load 45 y) (b o : Nat) (x : Pt) (hx : a.eval y = .pointer (some ⟨b, o, none⟩)) (hr : w.rangeAt b o (ptE x))
    (h : wpList Tryd.prog ops Q rest (a.put op.dst (.agg (ptA x))) w) : wpList Tryd.prog ops Q (op :: rest) a w :=
  wpList_load_mid hgd 45 y ho b o hx (ptE x) _ hr Tryd.underlying45 rfl (by kernel_rfl) h
theorem wpList_loadG_ptAt (hw : Region.wanted op (yielded ops a.tmps) = true) (y : Operand) (ho : op.op = .load 45 y) (b o : Nat) (x : Pt) (hx : a.eval y = .pointer (some ⟨b, o, none⟩)) (hr : w.rangeAt b o (ptE x))
    (h : wpList Tryd.prog ops Q rest (a.put op.dst (.agg (ptA x))) w) : wpList Tryd.prog ops Q (op :: rest) a w :=
  wpList_does hw (R := fun v w' => v = .agg (ptA x) ∧ w' = w) (dk_load 45 y ⟨b, o, none⟩ _ ho hx (ptr_run_load hr) ⟨rfl, rfl⟩) (by rintro v w' ⟨rfl, rfl⟩; exact h)
theorem wpList_eqlG_ptr (hw : Region.wanted op (yielded ops a.tmps) = true) (y z : Operand) (ty : TypeId) (ho : op.op = .binOp .eql 45 y z ty) (p q : Pt) (hx : a.eval y = .agg (ptA p)) (hy : a.eval z = .agg (ptA q))
    (h : wpList Tryd.prog ops Q rest (a.put op.dst (.bool (decide (p = q)))) w) : wpList Tryd.prog ops Q (op :: rest) a w :=
  wpList_does hw (R := fun v w' => v = .bool (decide (p = q)) ∧ w' = w) (does_eql_pt y z p q ty ho hx hy ⟨rfl, rfl⟩) (by rintro v w' ⟨rfl, rfl⟩; exact h)
end
@[go_sem] theorem rawA_0 (r : Raw) : (rawA r)[0]? = some (.slice r.ka r.kn r.kc) := rfl
@[go_sem] theorem rawA_1 (r : Raw) : (rawA r)[1]? = some (.slice r.va r.vn r.vc) := rfl
@[go_sem] theorem rawA_2 (r : Raw) : (rawA r)[2]? = some (.int .u8 (bI r.over.kind)) := rfl
@[go_sem] theorem rawA_7 (r : Raw) : (rawA r)[7]? = some (.int .u16 (hI r.size)) := rfl
end Go.Proofs.YtjcommodiihcdaaDoor
/- What encoding leaves behind so many items; the page of items that may be. Plain mathematics. -/
namespace Go.Proofs.YtjcommodiihcdaaDoor
namespace LeafM
def part (l : List It) (k : Nat) : List (BitVec 8) := (l.take k).foldl step [1#8, BitVec.ofNat 8 l.length]
theorem part_zero (l : List It) : part l 0 = [1#8, BitVec.ofNat 8 l.length] := rfl
theorem part_succ {l : List It} {k : Nat} {x : It} (h : l[k]? = some x) : part l (k + 1) = step (part l k) x := by
  unfold part
  rw [List.take_add_one, h, List.foldl_append]
  rfl
theorem part_all (l : List It) : part l l.length = encB l := by unfold part encB; rw [List.take_length]
theorem part_len {l : List It} (h : right l = true) : ∀ k, (part l k).length ≤ 2 + 29 * k
  | 0 => by rw [part_zero]; simp
  | k + 1 => by
    have ih := part_len h k
    cases hk : l[k]? with
    | none =>
      have : part l (k + 1) = part l k := by unfold part; rw [List.take_add_one, hk]; simp
      rw [this]; omega
    | some x =>
      rw [part_succ hk]
      have := step_len ((right_ok h).2 x (List.mem_of_getElem? hk)) (part l k)
      omega
theorem enc_fill {l : List It} (h : right l = true) : encP l = PackM.fill (encB l) ∧ encE l = 0 ∧ PackM.fillE (encB l) = 0 ∧ (encB l).length ≤ 256 := by
  obtain ⟨_, hl⟩ := encB_right h
  unfold encE encP PackM.fillE
  rw [if_pos h, if_pos h, if_neg (by omega), if_neg (by omega), if_neg (by omega)]
  exact ⟨rfl, rfl, rfl, hl⟩
theorem blank_noughts : blank = noughts := rfl
end LeafM
theorem wrap_u8_len {n : Nat} (h : n ≤ 6) : IntKind.u8.wrap (n : Int) = bI (BitVec.ofNat 8 n) := by
  rw [bI_ofNat n (by omega)]
  rcases n with _ | _ | _ | _ | _ | _ | _ | n
  · rfl
  · rfl
  · rfl
  · rfl
  · rfl
  · rfl
  · rfl
  · omega
end Go.Proofs.YtjcommodiihcdaaDoor
