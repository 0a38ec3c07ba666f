/- What may be said of a disk, as numbers. No function of the program. -/
import Derived.Test.YtfcghkmhcfgfkaaDisk
namespace Go.Proofs.Ytfcghkmhcfgfkaa
namespace VdM
def mayC (n : Nat) (c : List (Int × Pg)) : Bool := c.all fun x => decide (0 ≤ x.1) && decide (x.1 < n)
def okB (n : Nat) (l : List Int) (i : Nat) : Bool := decide (0 ≤ l[i]?.getD 0) && decide (l[i]?.getD 0 < n) && (decide (i = 0) || decide (l[i - 1]?.getD 0 < l[i]?.getD 0))
def mayB (n : Nat) (l : List Int) : Bool := (List.range l.length).all (okB n l)
def shape (d : Dk) : Bool := decide (32 ≤ d.pages.length) && decide (d.pages.length ≤ 256) && decide (d.cache.length ≤ 2000) && !(d.off && decide (0 < d.cache.length))
def may (d : Dk) : Bool := shape d && mayC d.pages.length d.cache && mayB d.pages.length d.bad
def great (d : Dk) : Bool := decide (300 < d.pages.length) || decide (60 < d.cache.length) || decide (300 < d.bad.length)
instance : DecidableEq Dk := fun a b => by
  obtain ⟨a1, a2, a3, a4⟩ := a
  obtain ⟨b1, b2, b3, b4⟩ := b
  exact decidable_of_iff (a1 = b1 ∧ a2 = b2 ∧ a3 = b3 ∧ a4 = b4) (by simp)
theorem mayC_step (n : Nat) (c : List (Int × Pg)) (k : Nat) (x : Int × Pg) (h : c[k]? = some x) : mayC n (c.take (k + 1)) = (mayC n (c.take k) && (decide (0 ≤ x.1) && decide (x.1 < n))) := by
  unfold mayC
  rw [List.take_add_one, h]
  simp
theorem mayC_false (n : Nat) (c : List (Int × Pg)) (k : Nat) (x : Int × Pg) (h : c[k]? = some x) (hx : ¬ (0 ≤ x.1 ∧ x.1 < n)) : mayC n c = false := by
  unfold mayC
  rw [List.all_eq_false]
  refine ⟨x, List.mem_of_getElem? h, ?_⟩
  simpa using hx
theorem mayB_false (n : Nat) (l : List Int) (k : Nat) (hk : k < l.length) (hx : okB n l k = false) : mayB n l = false := by
  unfold mayB
  rw [List.all_eq_false]
  exact ⟨k, List.mem_range.2 hk, by simp [hx]⟩
def atE (d : Dk) (n : Int) : Int := if may d = true ∧ 0 ≤ n ∧ n < d.pages.length then (if d.off then 30 else 0) else 2
def blank : Pg := List.replicate 256 0#8
/-- The last write at a place. -/
def lastW (c : List (Int × Pg)) (n : Int) : Option Pg := (c.reverse.find? fun x => x.1 == n).map (·.2)
def readP (d : Dk) (n : Int) : Pg := if atE d n = 0 then (match lastW d.cache n with | some p => p | none => if d.bad.contains n then blank else d.pages[n.toNat]?.getD blank) else blank
def readE (d : Dk) (n : Int) : Int := if atE d n = 0 then (match lastW d.cache n with | some _ => 0 | none => if d.bad.contains n then 31 else 0) else atE d n
theorem lastW_none (c : List (Int × Pg)) (n : Int) (h : c.all (fun x => !(x.1 == n)) = true) : lastW c n = none := by
  unfold lastW
  rw [List.find?_eq_none.2]
  · rfl
  · intro x hx
    have := List.all_eq_true.1 h x (List.mem_reverse.1 hx)
    simpa using this
theorem lastW_some (c : List (Int × Pg)) (n : Int) (k : Nat) (x : Int × Pg) (hk : c[k]? = some x) (hx : x.1 = n) (h : (c.drop (k + 1)).all (fun x => !(x.1 == n)) = true) : lastW c n = some x.2 := by
  have hlt := (List.getElem?_eq_some_iff.1 hk).1
  have e : c = c.take k ++ x :: c.drop (k + 1) := by
    have h2 := List.drop_eq_getElem_cons hlt
    rw [(List.getElem?_eq_some_iff.1 hk).2] at h2
    rw [← h2, List.take_append_drop]
  unfold lastW
  rw [e, List.reverse_append, List.reverse_cons, List.find?_append, List.find?_append, List.find?_eq_none.2]
  · simp [hx]
  · intro y hy
    have := List.all_eq_true.1 h y (List.mem_reverse.1 hy)
    simpa using this
theorem drop_all_step (c : List (Int × Pg)) (n : Int) (k : Nat) (x : Int × Pg) (hk : c[k]? = some x) (hx : ¬ x.1 = n) (h : (c.drop (k + 1)).all (fun x => !(x.1 == n)) = true) : (c.drop k).all (fun x => !(x.1 == n)) = true := by
  have hlt := (List.getElem?_eq_some_iff.1 hk).1
  rw [List.drop_eq_getElem_cons hlt, (List.getElem?_eq_some_iff.1 hk).2, List.all_cons, h]
  simpa using hx
theorem take_not_step (l : List Int) (n : Int) (k : Nat) (x : Int) (hk : l[k]? = some x) (hx : ¬ x = n) (h : (l.take k).contains n = false) : (l.take (k + 1)).contains n = false := by
  rw [List.take_add_one, hk]
  rw [List.contains_eq_mem, decide_eq_false_iff_not] at h ⊢
  simp only [Option.toList_some, List.mem_append, List.mem_singleton]
  rintro (h' | h')
  · exact h h'
  · exact hx h'.symm
theorem contains_of (l : List Int) (n : Int) (k : Nat) (hk : l[k]? = some n) : l.contains n = true := by
  rw [List.contains_eq_mem, decide_eq_true_iff]
  exact List.mem_of_getElem? hk
def writeErr (d : Dk) (n : Int) : Int := if atE d n = 0 ∧ d.cache.length = 2000 then 32 else atE d n
def writeD (d : Dk) (n : Int) (p : Pg) : Dk := if writeErr d n = 0 then { d with cache := d.cache ++ [(n, p)] } else d
end VdM
end Go.Proofs.Ytfcghkmhcfgfkaa
