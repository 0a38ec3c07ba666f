/- PackMath FlMath -/
import Derived.Test.YtjcommodiihcdaaDoorBaseA
import Derived.Test.YtjcommodiihcdaaDoorBaseB
/- What layer 2 reckons: plain mathematics. No function of the program. -/
namespace Go.Proofs.YtjcommodiihcdaaDoor
namespace PackM
/-- The width that a width counts as. -/
def wd (n : Int) : Nat := if n < 1 then 1 else if 8 < n then 8 else n.toNat
theorem wd_lo (n : Int) : 1 ≤ wd n := by unfold wd; split; omega; split <;> omega
theorem wd_hi (n : Int) : wd n ≤ 8 := by unfold wd; split; omega; split <;> omega
theorem wd_id (n : Int) (h1 : 1 ≤ n) (h2 : n ≤ 8) : (wd n : Int) = n := by unfold wd; rw [if_neg (by omega), if_neg (by omega)]; omega
/-- A number's bytes behind others. -/
def put (b : List (BitVec 8)) (n : BitVec 64) (w : Int) : List (BitVec 8) := b ++ Num.bytes n (wd w)
def takeN (b : List (BitVec 8)) (w : Int) : BitVec 64 := if b.length < wd w then 0#64 else Num.num (b.take (wd w))
def takeR (b : List (BitVec 8)) (w : Int) : List (BitVec 8) := if b.length < wd w then b else b.drop (wd w)
def takeE (b : List (BitVec 8)) (w : Int) : Int := if b.length < wd w then 20 else 0
/-- How many are put of s. -/
def putBytes (b s : List (BitVec 8)) : List (BitVec 8) := b ++ BitVec.ofNat 8 (min s.length 255) :: s.take 255
/-- How many bytes the first one says. -/
def many : List (BitVec 8) → Nat
  | [] => 0
  | x :: _ => x.toNat
def tbE (b : List (BitVec 8)) (most : Int) : Int := if b.length = 0 ∨ b.length - 1 < many b then 20 else if most < many b then 21 else 0
def tbS (b : List (BitVec 8)) (most : Int) : List (BitVec 8) := if tbE b most = 0 then (b.drop 1).take (many b) else []
def tbR (b : List (BitVec 8)) (most : Int) : List (BitVec 8) := if tbE b most = 0 then b.drop (1 + many b) else b
theorem many_lt (b : List (BitVec 8)) : many b < 256 := by cases b with | nil => exact Nat.zero_lt_succ _ | cons x l => exact x.isLt
/-- A page of bytes, noughts behind. -/
def fill (b : List (BitVec 8)) : List (BitVec 8) := if 256 < b.length then List.replicate 256 0#8 else b ++ List.replicate (256 - b.length) 0#8
def fillE (b : List (BitVec 8)) : Int := if 256 < b.length then 21 else 0
theorem fill_length (b : List (BitVec 8)) : (fill b).length = 256 := by
  unfold fill
  split
  · exact List.length_replicate
  · rw [List.length_append, List.length_replicate]; omega
def clean (b : List (BitVec 8)) : Bool := b.all (· == 0#8)
def halves (old now : List (BitVec 8)) : List (BitVec 8) := now.take 128 ++ old.drop 128
theorem halves_length (old now : List (BitVec 8)) (h1 : old.length = 256) (h2 : now.length = 256) : (halves old now).length = 256 := by unfold halves; rw [List.length_append, List.length_take, List.length_drop]; omega
end PackM
end Go.Proofs.YtjcommodiihcdaaDoor
/- What may befall a disk, as lists and numbers. No function of the program. -/
namespace Go.Proofs.YtjcommodiihcdaaDoor
set_option linter.unusedVariables false
set_option linter.unusedSimpArgs false
namespace FlM
/-- A write's pick. -/
def fate (picks : List (BitVec 8)) (i : Nat) : Nat := match picks[i]? with | some b => b.toNat % 3 | none => 0
theorem fate_some {picks : List (BitVec 8)} {i : Nat} {b : BitVec 8} (h : picks[i]? = some b) : fate picks i = b.toNat % 3 := by unfold fate; rw [h]
theorem fate_none {picks : List (BitVec 8)} {i : Nat} (h : picks.length ≤ i) : fate picks i = 0 := by unfold fate; rw [List.getElem?_eq_none h]
theorem fate_lt (picks : List (BitVec 8)) (i : Nat) : fate picks i < 3 := by unfold fate; split <;> omega
/-- Does a write with this pick come onto a disk of n pages? -/
def lands (n f : Nat) (a : Int) : Bool := !(f == 0) && decide (0 ≤ a) && decide (a < n)
theorem lands_iff {n f : Nat} {a : Int} : lands n f a = true ↔ f ≠ 0 ∧ 0 ≤ a ∧ a < n := by
  unfold lands
  simp [and_assoc]
def newP (f : Nat) (old now : Pg) : Pg := if f = 2 then PackM.halves old now else now
theorem newP_length {f : Nat} {old now : Pg} (h1 : old.length = 256) (h2 : now.length = 256) : (newP f old now).length = 256 := by
  unfold newP
  split
  · exact PackM.halves_length old now h1 h2
  · exact h2
def stepP (f : Nat) (x : Int × Pg) (ps : List Pg) : List Pg := if lands ps.length f x.1 then ps.set x.1.toNat (newP f (ps[x.1.toNat]?.getD []) x.2) else ps
theorem stepP_length (f : Nat) (x : Int × Pg) (ps : List Pg) : (stepP f x ps).length = ps.length := by
  unfold stepP
  split <;> simp
section
variable (picks : List (BitVec 8)) (cs : List (Int × Pg))
/-- The pages behind these writes. -/
def crP (ps : List Pg) (pre : List (Fin cs.length)) : List Pg := pre.foldl (fun ps y => stepP (fate picks y.val) cs[y.val] ps) ps
/-- Has one of these writes come onto page b? -/
def hit (n : Nat) (pre : List (Fin cs.length)) (b : Int) : Bool := pre.any fun y => lands n (fate picks y.val) (cs[y.val]).1 && ((cs[y.val]).1 == b)
def crB (n : Nat) (bs : List Int) (pre : List (Fin cs.length)) : List Int := bs.filter fun b => !hit picks cs n pre b
def onA (n : Nat) (pre : List (Fin cs.length)) : List Bool := (List.range n).map fun (i : Nat) => hit picks cs n pre i
theorem crP_nil (ps : List Pg) : crP picks cs ps [] = ps := rfl
theorem crP_snoc (ps : List Pg) (pre : List (Fin cs.length)) (y : Fin cs.length) : crP picks cs ps (pre ++ [y]) = stepP (fate picks y.val) cs[y.val] (crP picks cs ps pre) := by
  unfold crP
  rw [List.foldl_append]
  rfl
theorem crP_length (ps : List Pg) (pre : List (Fin cs.length)) : (crP picks cs ps pre).length = ps.length := by
  unfold crP
  induction pre generalizing ps with
  | nil => rfl
  | cons y pre ih => rw [List.foldl_cons, ih, stepP_length]
theorem hit_snoc (n : Nat) (pre : List (Fin cs.length)) (y : Fin cs.length) (b : Int) : hit picks cs n (pre ++ [y]) b = (hit picks cs n pre b || (lands n (fate picks y.val) (cs[y.val]).1 && ((cs[y.val]).1 == b))) := by simp [hit]
theorem hit_off (n : Nat) (pre : List (Fin cs.length)) (b : Int) (h : ¬ (0 ≤ b ∧ b < n)) : hit picks cs n pre b = false := by
  unfold hit
  rw [List.any_eq_false]
  intro y _
  rw [Bool.and_eq_true, lands_iff, beq_iff_eq]
  rintro ⟨⟨_, h1, h2⟩, rfl⟩
  exact h ⟨h1, h2⟩
theorem crB_nil (n : Nat) (bs : List Int) : crB picks cs n bs [] = bs := by
  unfold crB hit
  simp
theorem crB_old (n : Nat) (bs : List Int) (pre : List (Fin cs.length)) (y : Fin cs.length) (h : lands n (fate picks y.val) (cs[y.val]).1 = false) : crB picks cs n bs (pre ++ [y]) = crB picks cs n bs pre := by
  unfold crB
  congr 1
  funext b
  rw [hit_snoc, h, Bool.false_and, Bool.or_false]
theorem crB_new (n : Nat) (bs : List Int) (pre : List (Fin cs.length)) (y : Fin cs.length) (h : lands n (fate picks y.val) (cs[y.val]).1 = true) : crB picks cs n bs (pre ++ [y]) = (crB picks cs n bs pre).filter fun b => !(b == (cs[y.val]).1) := by
  unfold crB
  rw [List.filter_filter]
  congr 1
  funext b
  rw [hit_snoc, h, Bool.true_and, Bool.not_or, Bool.and_comm]
  congr 2
  rw [Bool.eq_iff_iff, beq_iff_eq, beq_iff_eq]
  exact ⟨Eq.symm, Eq.symm⟩
theorem crB_length (n : Nat) (bs : List Int) (pre : List (Fin cs.length)) : (crB picks cs n bs pre).length ≤ bs.length := List.length_filter_le _ _
theorem onA_length (n : Nat) (pre : List (Fin cs.length)) : (onA picks cs n pre).length = n := by simp [onA]
theorem onA_get (n : Nat) (pre : List (Fin cs.length)) (k : Nat) (h : k < n) : (onA picks cs n pre)[k]? = some (hit picks cs n pre k) := by simp [onA, h]
theorem onA_nil (n : Nat) : onA picks cs n [] = List.replicate n false := by
  apply List.ext_getElem
  · simp [onA]
  · intro i h1 h2
    simp [onA, hit]
theorem onA_old (n : Nat) (pre : List (Fin cs.length)) (y : Fin cs.length) (h : lands n (fate picks y.val) (cs[y.val]).1 = false) : onA picks cs n (pre ++ [y]) = onA picks cs n pre := by
  unfold onA
  apply List.map_congr_left
  intro i _
  rw [hit_snoc, h, Bool.false_and, Bool.or_false]
theorem onA_new (n : Nat) (pre : List (Fin cs.length)) (y : Fin cs.length) (k : Nat) (hk : (cs[y.val]).1 = k) (h : lands n (fate picks y.val) (cs[y.val]).1 = true) : onA picks cs n (pre ++ [y]) = (onA picks cs n pre).set k true := by
  apply List.ext_getElem?
  intro i
  rw [List.getElem?_set, onA_length]
  by_cases hi : i < n
  · rw [onA_get _ _ _ _ _ hi, onA_get _ _ _ _ _ hi, hit_snoc, h, hk]
    by_cases h2 : k = i
    · subst h2
      simp [hi]
    · rw [if_neg h2]
      have : ((k : Int) == (i : Int)) = false := by rw [beq_eq_false_iff_ne]; omega
      rw [this, Bool.and_false, Bool.or_false]
  · rw [List.getElem?_eq_none (by rw [onA_length]; omega)]
    split
    · rw [if_neg (by omega)]
    · rw [List.getElem?_eq_none (by rw [onA_length]; omega)]
theorem filter_step (p : Int → Bool) (l : List Int) (k : Nat) (x : Int) (h : l[k]? = some x) : (l.take (k + 1)).filter p = (l.take k).filter p ++ (if p x then [x] else []) := by
  rw [List.take_add_one, h, List.filter_append]
  congr 1
  by_cases hx : p x = true
  · simp [hx]
  · rw [if_neg hx]
    simp [List.filter, Bool.eq_false_iff.2 hx]
end
theorem fins_step {n : Nat} (k : Nat) (h : k < n) : (List.finRange n).take (k + 1) = (List.finRange n).take k ++ [⟨k, h⟩] := by
  rw [List.take_add_one]
  have : (List.finRange n)[k]? = some ⟨k, h⟩ := by simp [h]
  rw [this]; rfl
theorem fins_whole (n : Nat) : (List.finRange n).take n = List.finRange n := List.take_of_length_le (by simp)
/-- Behind a crash. -/
def crashD (d : Dk) (picks : List (BitVec 8)) : Dk := ⟨crP picks d.cache d.pages (List.finRange d.cache.length), [], crB picks d.cache d.pages.length d.bad (List.finRange d.cache.length), d.off⟩
/-- On the disk, on the page? -/
def onDk (d : Dk) (a : Int) : Bool := decide (0 ≤ a) && decide (a < d.pages.length)
def onPg (o : Int) : Bool := decide (0 ≤ o) && decide (o < 256)
def flipE (d : Dk) (a o : Int) : Int := if onDk d a && onPg o then 0 else 2
def flipP (p : Pg) (o : Nat) (b : BitVec 8) : Pg := p.set o (p[o]?.getD 0 ^^^ b)
def flipD (d : Dk) (a o : Int) (b : BitVec 8) : Dk := if onDk d a && onPg o then { d with pages := d.pages.set a.toNat (flipP (d.pages[a.toNat]?.getD []) o.toNat b) } else d
def spoilE (d : Dk) (a : Int) : Int := if onDk d a then 0 else 2
theorem flipP_length (p : Pg) (o : Nat) (b : BitVec 8) : (flipP p o b).length = p.length := by simp [flipP]
/-- Too great to be asked. -/
def great (d : Dk) : Bool := !decide (d.bad.Pairwise (· < ·)) || decide (256 < d.pages.length) || decide (64 < d.cache.length) || decide (64 < d.bad.length)
theorem great_not {d : Dk} (h : great d = false) : d.bad.Pairwise (· < ·) ∧ d.pages.length ≤ 256 ∧ d.cache.length ≤ 64 ∧ d.bad.length ≤ 64 := by
  unfold great at h
  simp only [Bool.or_eq_false_iff, Bool.not_eq_false', decide_eq_true_eq, decide_eq_false_iff_not, Nat.not_lt] at h
  exact ⟨h.1.1.1, h.1.1.2, h.1.2, h.2⟩
theorem asc_step (l : List Int) : l.Pairwise (· < ·) ↔ ∀ i, (h : i + 1 < l.length) → l[i] < l[i + 1] := by
  rw [List.pairwise_iff_getElem]
  constructor
  · intro h i hi
    exact h i (i + 1) (by omega) hi (by omega)
  · intro h i j hi hj hij
    obtain ⟨k, rfl⟩ : ∃ k, j = i + 1 + k := ⟨j - (i + 1), by omega⟩
    clear hij
    induction k with
    | zero => exact h i hj
    | succ k ih => exact Int.lt_trans (ih (by omega)) (h (i + 1 + k) hj)
end FlM
end Go.Proofs.YtjcommodiihcdaaDoor
