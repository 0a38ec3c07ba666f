/- VdFlM -/
import Derived.Test.YtiagmlokocpboaaVdIn
/- What a flush leaves, as numbers; a page written in the midst of a block of the call's own. No function of the program. -/
namespace Go.Proofs.Ytiagmlokocpboaa
open Go.RowKit Go.Deep
set_option linter.unusedVariables false
set_option linter.unusedSimpArgs false
namespace VdM
def flushP (d : Dk) : List Pg := d.pages.mapIdx fun i p => (lastW d.cache i).getD p
def flushB (d : Dk) : List Int := d.bad.filter fun b => (lastW d.cache b).isNone
def flushD (d : Dk) : Dk := if atE d 0 = 0 then ⟨flushP d, [], flushB d, false⟩ else d
/-- The first of these places at which n was written. -/
def firstW (c : List (Int × Pg)) (pre : List (Fin c.length)) (n : Int) : Option Pg := (pre.find? fun j => (c[j.val]).1 == n).map fun j => (c[j.val]).2
def pgs (ps : List Pg) (c : List (Int × Pg)) (pre : List (Fin c.length)) : List Pg := ps.mapIdx fun i p => (firstW c pre i).getD p
def hit (c : List (Int × Pg)) (pre : List (Fin c.length)) (n : Int) : Bool := pre.any fun j => (c[j.val]).1 == n
def onL (c : List (Int × Pg)) (pre : List (Fin c.length)) : Array Value := ((List.range 256).map fun (i : Nat) => Value.bool (hit c pre i)).toArray
theorem pgs_length (ps : List Pg) (c : List (Int × Pg)) (pre : List (Fin c.length)) : (pgs ps c pre).length = ps.length := by simp [pgs]
theorem firstW_hit {c : List (Int × Pg)} {pre : List (Fin c.length)} {n : Int} : (firstW c pre n).isSome = hit c pre n := by
  unfold firstW hit
  rw [Option.isSome_map, Bool.eq_iff_iff, List.find?_isSome, List.any_eq_true]
theorem firstW_snoc (c : List (Int × Pg)) (pre : List (Fin c.length)) (y : Fin c.length) (n : Int) : firstW c (pre ++ [y]) n = if hit c pre n then firstW c pre n else if (c[y.val]).1 == n then some (c[y.val]).2 else none := by
  unfold firstW
  rw [List.find?_append]
  by_cases h : hit c pre n = true
  · rw [if_pos h]
    have := (firstW_hit (c := c) (pre := pre) (n := n)).trans h
    unfold firstW at this
    rw [Option.isSome_map] at this
    obtain ⟨z, hz⟩ := Option.isSome_iff_exists.1 this
    rw [hz]; rfl
  · rw [if_neg h]
    have hf : pre.find? (fun j => (c[j.val]).1 == n) = none := by
      cases hz : pre.find? (fun j => (c[j.val]).1 == n) with
      | none => rfl
      | some z =>
        exfalso
        apply h
        rw [← firstW_hit]
        unfold firstW
        rw [hz]; rfl
    rw [hf]
    by_cases h2 : (c[y.val]).1 == n
    · simp [h2]
    · simp [h2]
theorem pgs_old (ps : List Pg) (c : List (Int × Pg)) (pre : List (Fin c.length)) (y : Fin c.length) (h : hit c pre (c[y.val]).1 = true) : pgs ps c (pre ++ [y]) = pgs ps c pre := by
  unfold pgs
  apply List.ext_getElem?
  intro i
  rw [List.getElem?_mapIdx, List.getElem?_mapIdx, firstW_snoc]
  by_cases h1 : hit c pre (i : Int) = true
  · rw [if_pos h1]
  · have h2 : ((c[y.val]).1 == (i : Int)) = false := by
      rw [beq_eq_false_iff_ne]
      rintro e
      rw [e] at h
      exact h1 h
    have h3 : firstW c pre (i : Int) = none := by
      have := firstW_hit (c := c) (pre := pre) (n := (i : Int))
      rw [Bool.eq_false_iff.2 h1] at this
      simpa using this
    rw [if_neg h1, h2, h3]; rfl
theorem pgs_new (ps : List Pg) (c : List (Int × Pg)) (pre : List (Fin c.length)) (y : Fin c.length) (k : Nat) (hk : (c[y.val]).1 = k) (h : hit c pre (c[y.val]).1 = false) : pgs ps c (pre ++ [y]) = (pgs ps c pre).set k (c[y.val]).2 := by
  unfold pgs
  apply List.ext_getElem?
  intro i
  rw [List.getElem?_set, List.getElem?_mapIdx, List.getElem?_mapIdx, firstW_snoc, List.length_mapIdx]
  by_cases h1 : k = i
  · subst h1
    rw [if_pos rfl]
    rw [hk] at h
    rw [if_neg (by rw [h]; simp), hk]
    by_cases h2 : k < ps.length
    · rw [if_pos h2, List.getElem?_eq_getElem h2]
      simp
    · rw [if_neg h2, List.getElem?_eq_none (by omega)]
      rfl
  · rw [if_neg h1]
    by_cases h2 : hit c pre (i : Int) = true
    · rw [if_pos h2]
    · have h3 : firstW c pre (i : Int) = none := by
        have := firstW_hit (c := c) (pre := pre) (n := (i : Int))
        rw [Bool.eq_false_iff.2 h2] at this
        simpa using this
      have h4 : ((c[y.val]).1 == (i : Int)) = false := by rw [beq_eq_false_iff_ne, hk]; omega
      rw [if_neg h2, h3, h4]; rfl
theorem hit_snoc (c : List (Int × Pg)) (pre : List (Fin c.length)) (y : Fin c.length) (n : Int) : hit c (pre ++ [y]) n = (hit c pre n || ((c[y.val]).1 == n)) := by simp [hit]
theorem onL_size (c : List (Int × Pg)) (pre : List (Fin c.length)) : (onL c pre).size = 256 := by simp [onL]
theorem onL_get (c : List (Int × Pg)) (pre : List (Fin c.length)) (k : Nat) (h : k < 256) : (onL c pre)[k]? = some (.bool (hit c pre k)) := by simp [onL, h]
theorem onL_nil (c : List (Int × Pg)) : onL c [] = Array.replicate 256 (.bool false) := by
  apply Array.ext_getElem?
  intro i
  rw [Array.getElem?_replicate]
  by_cases hi : i < 256
  · rw [onL_get _ _ _ hi, if_pos hi]; rfl
  · rw [if_neg hi, Array.getElem?_eq_none (by rw [onL_size]; omega)]
theorem onL_old (c : List (Int × Pg)) (pre : List (Fin c.length)) (y : Fin c.length) (h : hit c pre (c[y.val]).1 = true) : onL c (pre ++ [y]) = onL c pre := by
  unfold onL
  congr 1
  apply List.map_congr_left
  intro i hi
  rw [hit_snoc]
  by_cases h2 : (c[y.val]).1 == (i : Int)
  · rw [beq_iff_eq] at h2
    rw [← h2, h]; rfl
  · rw [Bool.eq_false_iff.2 h2, Bool.or_false]
theorem onL_new (c : List (Int × Pg)) (pre : List (Fin c.length)) (y : Fin c.length) (k : Nat) (hk : (c[y.val]).1 = k) : onL c (pre ++ [y]) = (onL c pre).setIfInBounds k (.bool true) := by
  apply Array.ext_getElem?
  intro i
  rw [Array.getElem?_setIfInBounds, onL_size]
  by_cases hi : i < 256
  · rw [onL_get _ _ _ hi, onL_get _ _ _ hi, hit_snoc, hk]
    by_cases h2 : k = i
    · subst h2
      simp [hi]
    · rw [if_neg h2]
      have : ((k : Int) == (i : Int)) = false := by rw [beq_eq_false_iff_ne]; omega
      rw [this, Bool.or_false]
  · rw [Array.getElem?_eq_none (by rw [onL_size]; omega)]
    split
    · rw [if_neg (by omega)]
    · rw [Array.getElem?_eq_none (by rw [onL_size]; omega)]
theorem revs_map (c : List (Int × Pg)) : (List.finRange c.length).reverse.map (fun j => c[j.val]) = c.reverse := by
  rw [List.map_reverse]
  congr 1
  apply List.ext_getElem
  · simp
  · intro i h1 h2; simp
theorem firstW_all (c : List (Int × Pg)) (n : Int) : firstW c (List.finRange c.length).reverse n = lastW c n := by
  unfold firstW lastW
  rw [← revs_map c, List.find?_map]
  simp [Function.comp_def]
theorem pgs_all (d : Dk) : pgs d.pages d.cache (List.finRange d.cache.length).reverse = flushP d := by
  unfold pgs flushP
  congr 1
  funext i p
  rw [firstW_all]
theorem hit_all (c : List (Int × Pg)) (n : Int) : hit c (List.finRange c.length).reverse n = (lastW c n).isSome := by rw [← firstW_hit, firstW_all]
theorem pgs_nil (ps : List Pg) (c : List (Int × Pg)) : pgs ps c [] = ps := by
  unfold pgs firstW
  apply List.ext_getElem
  · simp
  · intro i h1 h2; simp
theorem flushB_take (c : List (Int × Pg)) (l : List Int) (k : Nat) (x : Int) (h : l[k]? = some x) : (l.take (k + 1)).filter (fun b => (lastW c b).isNone) = (l.take k).filter (fun b => (lastW c b).isNone) ++ (if (lastW c x).isNone then [x] else []) := by
  rw [List.take_add_one, h, List.filter_append]
  congr 1
  by_cases hx : (lastW c x).isNone = true
  · simp [hx]
  · rw [if_neg hx]
    simp [List.filter, Bool.eq_false_iff.2 hx]
end VdM
/-- Cells written one behind the other. -/
def layAt (cs : Array Value) : Nat → List Value → Array Value
  | _, [] => cs
  | o, v :: vs => layAt (cs.setIfInBounds o v) (o + 1) vs
theorem layAt_size : ∀ (vs : List Value) (cs : Array Value) (o : Nat), (layAt cs o vs).size = cs.size
  | [], _, _ => rfl
  | v :: vs, cs, o => by rw [layAt, layAt_size vs]; simp
theorem layAt_get : ∀ (vs : List Value) (cs : Array Value) (o i : Nat), o + vs.length ≤ cs.size → (layAt cs o vs)[i]? = if o ≤ i ∧ i < o + vs.length then vs[i - o]? else cs[i]?
  | [], cs, o, i, _ => by simp [layAt]; omega
  | v :: vs, cs, o, i, h => by
    simp only [List.length_cons] at h
    rw [layAt, layAt_get vs _ _ _ (by simp; omega), Array.getElem?_setIfInBounds]
    simp only [List.length_cons]
    by_cases h1 : i = o
    · subst h1
      rw [if_neg (by omega), if_pos rfl, if_pos (by omega), if_pos (by omega), Nat.sub_self]; rfl
    · by_cases h2 : o + 1 ≤ i ∧ i < o + 1 + vs.length
      · rw [if_pos h2, if_pos (by omega), show i - o = (i - (o + 1)) + 1 by omega]; rfl
      · rw [if_neg h2, if_neg (by omega), if_neg (by omega)]
theorem Row.setCells {g : Nat} {t : TypeId} : ∀ (vs : List Value) (o : Nat) (w : World) (cs : Array Value), Row w g t cs → Row (w.setCells g o vs) g t (layAt cs o vs)
  | [], _, _, _, h => h
  | v :: vs, o, w, cs, h => Row.setCells vs (o + 1) _ _ (h.set o v)
theorem setCells_grown {g : Nat} : ∀ (vs : List Value) (o : Nat) (w : World), w.grownBy (w.setCells g o vs) (some g)
  | [], _, w => ⟨rfl, rfl, rfl, Nat.le_refl _, fun _ _ _ => rfl⟩
  | v :: vs, o, w => by
    have h1 := setCell_grown w g o v
    have h2 := setCells_grown (g := g) vs (o + 1) (w.setCell ⟨g, o, none⟩ v)
    exact ⟨h2.os.trans h1.os, h2.tape.trans h1.tape, h2.output.trans h1.output, Nat.le_trans h1.size h2.size, fun i hi hn => (h2.block i (Nat.lt_of_lt_of_le hi h1.size) hn).trans (h1.block i hi hn)⟩
set_option maxRecDepth 20000 in
theorem flat_set {l : List Pg} (h : ∀ x ∈ l, (pageE x).length = 256) (k : Nat) (p : Pg) (hk : k < l.length) (hp : p.length = 256) (cur : Array Value) (hc : l.length * 256 ≤ cur.size) (ht : cur.toList.take (l.length * 256) = l.flatMap pageE) :
    (layAt cur (k * 256) (pageE p)).toList.take (l.length * 256) = (l.set k p).flatMap pageE := by
  have hp' : (pageE p).length = 256 := by rw [pageE_len, hp]
  have hs : ∀ x ∈ l.set k p, (pageE x).length = 256 := fun x hx => by
    rcases List.mem_or_eq_of_mem_set hx with hx | rfl
    · exact h x hx
    · exact hp'
  have hkk : k * 256 + 256 ≤ l.length * 256 := by omega
  apply List.ext_getElem?
  intro i
  by_cases hi : i < l.length * 256
  · rw [List.getElem?_take_of_lt hi, Array.getElem?_toList, layAt_get _ _ _ _ (by rw [hp']; omega), hp']
    have hq : i / 256 < l.length := Nat.div_lt_of_lt_mul (by omega)
    have hr : i % 256 < 256 := Nat.mod_lt _ (by omega)
    have e : i = i / 256 * 256 + i % 256 := by have := Nat.div_add_mod i 256; omega
    have g1 : ((l.set k p).flatMap pageE)[i]? = (pageE ((l.set k p)[i / 256]'(by simpa using hq)))[i % 256]? := by
      have := flat_get hs (i / 256) _ (List.getElem?_eq_getElem (by simpa using hq)) (i % 256) hr
      rwa [← e] at this
    rw [g1, List.getElem_set]
    by_cases h1 : k * 256 ≤ i ∧ i < k * 256 + 256
    · have : k = i / 256 := by omega
      rw [if_pos h1]
      simp only [this, if_true]
      congr 1
      omega
    · have hne : ¬ k = i / 256 := by omega
      rw [if_neg h1]
      simp only [hne, if_false]
      have g2 : (l.flatMap pageE)[i]? = (pageE (l[i / 256]'hq))[i % 256]? := by
        have := flat_get h (i / 256) _ (List.getElem?_eq_getElem hq) (i % 256) hr
        rwa [← e] at this
      rw [← g2, ← ht, List.getElem?_take_of_lt hi, Array.getElem?_toList]
  · rw [List.getElem?_eq_none (by rw [List.length_take]; omega), List.getElem?_eq_none (by rw [flat_length hs]; simp; omega)]
set_option maxRecDepth 20000 in
/-- A page of a row of one's own is written anew. -/
theorem Own'.store_page {base g cap : Nat} {w : World} {l : List Pg} (h : Own' 40 256 pageE base w (.slice (some ⟨g, 0, none⟩) l.length cap) l) (k : Nat) (p : Pg) (hk : k < l.length) (hp : p.length = 256) :
    Own' 40 256 pageE base (w.setCells g (k * 256) (pageE p)) (.slice (some ⟨g, 0, none⟩) l.length cap) (l.set k p) ∧ w.there g (k * 256) 256 := by
  obtain ⟨h0, hl, h⟩ := h
  rcases h with ⟨h1, h2⟩ | ⟨g', cap', cur, h1, hb, hh, h2, h3, h4, h5⟩
  · simp at h1
  · simp only [Value.slice.injEq, Option.some.injEq, Addr.mk.injEq, and_true, true_and] at h1
    obtain ⟨rfl, rfl⟩ := h1
    have hcs : l.length * 256 ≤ cur.size := by
      omega
    have hkk : k * 256 + 256 ≤ l.length * 256 := by omega
    have hr : Row w g 40 cur := hh
    refine ⟨⟨fun x hx => ?_, ?_, .inr ⟨g, cap, layAt cur (k * 256) (pageE p), by rw [List.length_set], hb, hr.setCells _ _ _ _, by rw [List.length_set]; exact h2, h3, by rw [layAt_size]; exact h4, ?_⟩⟩, fun j hj => ?_⟩
    · rcases List.mem_or_eq_of_mem_set hx with hx | rfl
      · exact h0 x hx
      · rw [pageE_len, hp]
    · rw [flat_length (s := 256) (fun x hx => by
        rcases List.mem_or_eq_of_mem_set hx with hx | rfl
        · exact h0 x hx
        · rw [pageE_len, hp]), List.length_set]
    · rw [List.length_set]; exact flat_set h0 k p hk hp cur hcs h5
    · refine ⟨?_, hr.frozen _⟩
      rw [hr.cell, Array.getElem?_eq_getElem (by omega)]; rfl
end Go.Proofs.Ytiagmlokocpboaa
