/- Disk VdMath DiskOps DiskLay -/
import Derived.Test.YtjcommodiihcdaaDoorBaseA
import Derived.Test.YtjcommodiihcdaaDoorRows
import Derived.Lib.SmallJoins
import Derived.Deep.MidRow
import Derived.Great.FillDense
import Derived.Great.Walk
import Derived.Laws.Tables
/- Pages, writes, disks as values: what they hold, how a law's stand in the heap, the language's '==' on them. No function of the program. -/
namespace Go.Proofs.YtjcommodiihcdaaDoor
open Go.ChangeShapes Go.WideShapes Go.ChangeAt Go.RowKit Go.Deep Go.Joins
abbrev Pg := List (BitVec 8)
structure Dk where
  pages : List Pg
  cache : List (Int × Pg)
  bad : List Int
  off : Bool
def pageE (p : Pg) : List Value := p.map byteV
def writeE (x : Int × Pg) : List Value := .int .i64 x.1 :: x.2.map byteV
theorem pageE_one : ∀ x : Pg, ∀ u ∈ pageE x, u.oneCell' = true := fun x u hu => by
  obtain ⟨_, _, rfl⟩ := List.mem_map.1 hu
  rfl
theorem writeE_one : ∀ x : Int × Pg, ∀ u ∈ writeE x, u.oneCell' = true := fun x u hu => by
  rcases List.mem_cons.1 hu with rfl | hu
  · rfl
  · exact pageE_one x.2 u hu
/-- The value v is this disk. -/
def IsDisk (B : Nat) (W : World) (v : Value) (d : Dk) : Prop :=
  ∃ pv cv bv, v = .agg #[pv, cv, bv, .bool d.off] ∧ Els 256 pageE B W pv d.pages ∧ Els 257 writeE B W cv d.cache ∧ Els 1 intE B W bv d.bad
theorem IsDisk.below {B : Nat} {W W' : World} {v : Value} {d : Dk} (h : IsDisk B W v d) (hb : Below B W W') : IsDisk B W' v d := by
  obtain ⟨pv, cv, bv, h0, h1, h2, h3⟩ := h
  exact ⟨pv, cv, bv, h0, h1.below hb, h2.below hb, h3.below hb⟩
theorem IsDisk.more {B B' : Nat} {W : World} {v : Value} {d : Dk} (h : IsDisk B W v d) (hb : B ≤ B') : IsDisk B' W v d := by
  obtain ⟨pv, cv, bv, h0, h1, h2, h3⟩ := h
  exact ⟨pv, cv, bv, h0, h1.more hb, h2.more hb, h3.more hb⟩
theorem IsDisk.grows {W W' : World} {v : Value} {d : Dk} (h : IsDisk W.heap.size W v d) (hg : Grows W W') : IsDisk W'.heap.size W' v d := (h.below hg).more (Below.size hg)
section
variable {H : Type} {enc : TypeId × Value → H} {W : World}
theorem page_of_cells {n : Nat} {cs : List Value} {y : DataW H × List MemPlace} (hl : cs.length = 256) (h : DataW.trod enc Tryd.prog W 0 (fun _ => true) true n 24 cs = some y) : ∃ p : Pg, pageE p = cs := by
  obtain ⟨xs, m, rfl, _, _, hxl, hx⟩ := DataW.trod_array Tryd.underlying24 h
  have hc : Tryd.prog.cellsOf 5 = 1 := by kernel_rfl
  have each : ∀ i, i < 256 → ∃ z : Int, cs[i]? = some (.int .u8 z) ∧ (Lit.int .u8 z).wf = true := by
    intro i hi
    have h1 := hx i hi
    rw [hc, Nat.mul_one] at h1
    have hi' : i < cs.length := by omega
    have h2 : (cs.drop i).take 1 = [cs[i]] := by
      rw [List.drop_eq_getElem_cons hi']; rfl
    rw [h2, List.getElem?_eq_getElem (by omega)] at h1
    obtain ⟨z, hz, _, hw⟩ := DataW.trod_int Tryd.underlying5 h1
    simp only [List.cons.injEq, and_true] at hz
    exact ⟨z, by rw [List.getElem?_eq_getElem hi', hz], hw⟩
  obtain ⟨Z, hZ⟩ := choose_lt each
  obtain ⟨l, h1, h2⟩ := bytes_of_ints ((List.range 256).map Z) fun z hz => by
    obtain ⟨i, hi, rfl⟩ := List.mem_map.1 hz
    exact (hZ i (by simpa using hi)).2
  refine ⟨l, ?_⟩
  unfold pageE
  rw [h2]
  apply List.ext_getElem
  · simp [hl]
  · intro i hi hi2
    have h3 := (hZ i (by omega)).1
    rw [List.getElem?_eq_getElem hi2] at h3
    simp only [Option.some.injEq] at h3
    simp [h3]
theorem int_of_cells {n : Nat} {cs : List Value} {y : DataW H × List MemPlace} (hl : cs.length = 1) (h : DataW.trod enc Tryd.prog W 0 (fun _ => true) true n 3 cs = some y) : ∃ x : Int, intE x = cs := by
  match cs, hl with
  | [c], _ =>
    obtain ⟨z, hz, _, hw⟩ := DataW.trod_int Tryd.underlying3 h
    exact ⟨z, hz.symm⟩
end
end Go.Proofs.YtjcommodiihcdaaDoor
/- What may be said of a disk, as numbers. No function of the program. -/
namespace Go.Proofs.YtjcommodiihcdaaDoor
namespace VdM
def mayC (n : Nat) (c : List (Int × Pg)) : Bool := c.all fun x => decide (0 ≤ x.1) && decide (x.1 < n)
def okB (n : Nat) (l : List Int) (i : Nat) : Bool := decide (0 ≤ l[i]?.getD 0) && decide (l[i]?.getD 0 < n) && (decide (i = 0) || decide (l[i - 1]?.getD 0 < l[i]?.getD 0))
def mayB (n : Nat) (l : List Int) : Bool := (List.range l.length).all (okB n l)
def shape (d : Dk) : Bool := decide (32 ≤ d.pages.length) && decide (d.pages.length ≤ 256) && decide (d.cache.length ≤ 2000) && !(d.off && decide (0 < d.cache.length))
def may (d : Dk) : Bool := shape d && mayC d.pages.length d.cache && mayB d.pages.length d.bad
def great (d : Dk) : Bool := decide (300 < d.pages.length) || decide (60 < d.cache.length) || decide (300 < d.bad.length)
instance : DecidableEq Dk := fun a b => by
  obtain ⟨a1, a2, a3, a4⟩ := a
  obtain ⟨b1, b2, b3, b4⟩ := b
  exact decidable_of_iff (a1 = b1 ∧ a2 = b2 ∧ a3 = b3 ∧ a4 = b4) (by simp)
theorem mayC_step (n : Nat) (c : List (Int × Pg)) (k : Nat) (x : Int × Pg) (h : c[k]? = some x) : mayC n (c.take (k + 1)) = (mayC n (c.take k) && (decide (0 ≤ x.1) && decide (x.1 < n))) := by
  unfold mayC
  rw [List.take_add_one, h]
  simp
theorem mayC_false (n : Nat) (c : List (Int × Pg)) (k : Nat) (x : Int × Pg) (h : c[k]? = some x) (hx : ¬ (0 ≤ x.1 ∧ x.1 < n)) : mayC n c = false := by
  unfold mayC
  rw [List.all_eq_false]
  refine ⟨x, List.mem_of_getElem? h, ?_⟩
  simpa using hx
theorem mayB_false (n : Nat) (l : List Int) (k : Nat) (hk : k < l.length) (hx : okB n l k = false) : mayB n l = false := by
  unfold mayB
  rw [List.all_eq_false]
  exact ⟨k, List.mem_range.2 hk, by simp [hx]⟩
def atE (d : Dk) (n : Int) : Int := if may d = true ∧ 0 ≤ n ∧ n < d.pages.length then (if d.off then 30 else 0) else 2
def blank : Pg := List.replicate 256 0#8
/-- The last write at a place. -/
def lastW (c : List (Int × Pg)) (n : Int) : Option Pg := (c.reverse.find? fun x => x.1 == n).map (·.2)
def readP (d : Dk) (n : Int) : Pg := if atE d n = 0 then (match lastW d.cache n with | some p => p | none => if d.bad.contains n then blank else d.pages[n.toNat]?.getD blank) else blank
def readE (d : Dk) (n : Int) : Int := if atE d n = 0 then (match lastW d.cache n with | some _ => 0 | none => if d.bad.contains n then 31 else 0) else atE d n
theorem lastW_none (c : List (Int × Pg)) (n : Int) (h : c.all (fun x => !(x.1 == n)) = true) : lastW c n = none := by
  unfold lastW
  rw [List.find?_eq_none.2]
  · rfl
  · intro x hx
    have := List.all_eq_true.1 h x (List.mem_reverse.1 hx)
    simpa using this
theorem lastW_some (c : List (Int × Pg)) (n : Int) (k : Nat) (x : Int × Pg) (hk : c[k]? = some x) (hx : x.1 = n) (h : (c.drop (k + 1)).all (fun x => !(x.1 == n)) = true) : lastW c n = some x.2 := by
  have hlt := (List.getElem?_eq_some_iff.1 hk).1
  have e : c = c.take k ++ x :: c.drop (k + 1) := by
    have h2 := List.drop_eq_getElem_cons hlt
    rw [(List.getElem?_eq_some_iff.1 hk).2] at h2
    rw [← h2, List.take_append_drop]
  unfold lastW
  rw [e, List.reverse_append, List.reverse_cons, List.find?_append, List.find?_append, List.find?_eq_none.2]
  · simp [hx]
  · intro y hy
    have := List.all_eq_true.1 h y (List.mem_reverse.1 hy)
    simpa using this
theorem drop_all_step (c : List (Int × Pg)) (n : Int) (k : Nat) (x : Int × Pg) (hk : c[k]? = some x) (hx : ¬ x.1 = n) (h : (c.drop (k + 1)).all (fun x => !(x.1 == n)) = true) : (c.drop k).all (fun x => !(x.1 == n)) = true := by
  have hlt := (List.getElem?_eq_some_iff.1 hk).1
  rw [List.drop_eq_getElem_cons hlt, (List.getElem?_eq_some_iff.1 hk).2, List.all_cons, h]
  simpa using hx
theorem take_not_step (l : List Int) (n : Int) (k : Nat) (x : Int) (hk : l[k]? = some x) (hx : ¬ x = n) (h : (l.take k).contains n = false) : (l.take (k + 1)).contains n = false := by
  rw [List.take_add_one, hk]
  rw [List.contains_eq_mem, decide_eq_false_iff_not] at h ⊢
  simp only [Option.toList_some, List.mem_append, List.mem_singleton]
  rintro (h' | h')
  · exact h h'
  · exact hx h'.symm
theorem contains_of (l : List Int) (n : Int) (k : Nat) (hk : l[k]? = some n) : l.contains n = true := by
  rw [List.contains_eq_mem, decide_eq_true_iff]
  exact List.mem_of_getElem? hk
def writeErr (d : Dk) (n : Int) : Int := if atE d n = 0 ∧ d.cache.length = 2000 then 32 else atE d n
def writeD (d : Dk) (n : Int) (p : Pg) : Dk := if writeErr d n = 0 then { d with cache := d.cache ++ [(n, p)] } else d
end VdM
end Go.Proofs.YtjcommodiihcdaaDoor
/- Pages and writes under the language's '==', loaded and stored in the midst of a block. No function of the program. -/
namespace Go.Proofs.YtjcommodiihcdaaDoor
open Go.RowKit
theorem range_grows {W W' : World} {b o : Nat} {cs : List Value} (h : W.rangeAt b o cs) (hg : Grows W W') : W'.rangeAt b o cs := fun j v hv => hg.cell (h j v hv)
def pgA (p : Pg) : Array Value := (pageE p).toArray
def wrA (x : Int × Pg) : Array Value := (writeE x).toArray
theorem pgA_size (p : Pg) : (pgA p).size = p.length := by simp [pgA, pageE]
theorem wrA_size (x : Int × Pg) : (wrA x).size = x.2.length + 1 := by simp [wrA, writeE]
theorem pageE_len (p : Pg) : (pageE p).length = p.length := by simp [pageE]
theorem writeE_len (x : Int × Pg) : (writeE x).length = x.2.length + 1 := by simp [writeE]
theorem info_u8' : ∃ i, Tryd.prog.info? 5 = some i := Option.isSome_iff_exists.1 (by kernel_rfl)
theorem pages_equalIn (d : Nat) (a b : Pg) (ha : a.length = 256) (hb : b.length = 256) (w : World) : (Op.equalIn (d + 2) 24 (.agg (pgA a)) (.agg (pgA b))).run Tryd.prog w = .ok (decide (a = b)) w := by
  obtain ⟨i0, hi⟩ := info_u8'
  have hc : Tryd.prog.cellsOf 5 = 1 := by kernel_rfl
  rw [run_equalIn_array w (d + 1) (pgA a) (pgA b) Tryd.underlying24 hi, hc,
    eqItems_ints d Tryd.underlying5 (pgA a) (pgA b) w (List.range 256) (fun j => bI (a[j]?.getD 0)) (fun j => bI (b[j]?.getD 0)) fun j hj => by
      have hj := List.mem_range.1 hj
      have e1 : a[j]? = some (a[j]'(by omega)) := List.getElem?_eq_getElem (by omega)
      have e2 : b[j]? = some (b[j]'(by omega)) := List.getElem?_eq_getElem (by omega)
      simp [pgA, pageE, byteV, e1, e2]]
  congr 1
  rw [Bool.eq_iff_iff, List.all_eq_true]
  simp only [beq_iff_eq, decide_eq_true_eq, List.mem_range]
  constructor
  · intro h
    apply List.ext_getElem (by omega)
    intro i h1 h2
    have := bI_inj (h i (by omega))
    rwa [List.getElem?_eq_getElem h1, List.getElem?_eq_getElem h2] at this
  · rintro rfl _ _; rfl
theorem page_eq_run (a b : Pg) (ha : a.length = 256) (hb : b.length = 256) (w : World) : (Op.equalIn 10000 24 (.agg (pgA a)) (.agg (pgA b))).run Tryd.prog w = .ok (decide (a = b)) w := pages_equalIn 9998 a b ha hb w
theorem part_page (x : Int × Pg) (hx : x.2.length = 256) (w : World) : (part 24 (wrA x) 1).run Tryd.prog w = .ok (.agg (pgA x.2)) w := by
  have hagg : (isAgg 24).run Tryd.prog w = .ok true w := by
    unfold isAgg
    rw [Sem.run_bind, run_underlying Tryd.underlying24 w]
    rfl
  obtain ⟨i, hi, hs⟩ : ∃ i, Tryd.prog.info? 24 = some i ∧ i.size = 256 := Option.map_eq_some_iff.1 (show (Tryd.prog.info? 24).map (·.size) = some 256 by kernel_rfl)
  have he : (wrA x).extract 1 257 = pgA x.2 := by
    apply Array.ext'
    rw [Array.toList_extract]
    simp only [wrA, writeE, pgA, pageE, List.extract]
    exact List.take_of_length_le (by simp [hx])
  simp [part, hagg, sizeOf, typeInfo, hi, hs, he]
section
variable {w : World} {b o : Nat}
theorem page_run_load {p : Pg} (hl : p.length = 256) (h : w.rangeAt b o (pageE p)) : (loadVar 24 ⟨b, o, none⟩).run Tryd.prog w = .ok (.agg (pgA p)) w :=
  run_loadVar_mid w b o 24 (pageE p) _ h Tryd.underlying24 rfl (by rw [pageE_len, hl]; kernel_rfl)
section
variable {ops : Array Oper} {rest : List Oper} {op : Oper} {a : Act} {Q : Exit → Act → World → Prop}
theorem wpList_load_pg (hgd : op.guard = none) (x : Operand) (ho : op.op = .load 24 x) (b o : Nat) (p : Pg) (hx : a.eval x = .pointer (some ⟨b, o, none⟩)) (hl : p.length = 256) (hr : w.rangeAt b o (pageE p))
    (h : wpList Tryd.prog ops Q rest (a.put op.dst (.agg (pgA p))) w) : wpList Tryd.prog ops Q (op :: rest) a w :=
  wpList_load_mid hgd 24 x ho b o hx (pageE p) _ hr Tryd.underlying24 rfl (by rw [pageE_len, hl]; kernel_rfl) h
theorem wpList_store_pg (hgd : op.guard = none) (x y : Operand) (ho : op.op = .store 24 x y) (b o : Nat) (p : Pg) (hx : a.eval x = .pointer (some ⟨b, o, none⟩)) (hy : a.eval y = .agg (pgA p)) (hl : p.length = 256) (ht : w.there b o 256)
    (h : wpList Tryd.prog ops Q rest (a.put op.dst undef) (w.setCells b o (pageE p))) : wpList Tryd.prog ops Q (op :: rest) a w :=
  wpList_store_mid hgd 24 x y ho b o (pgA p) hx hy (by rw [pgA_size, hl]; exact ht) (by rw [pgA_size, hl]; kernel_rfl) (all_oneCell_toArray (pageE_one p)) (by simpa [pgA] using h)
end
end
end Go.Proofs.YtjcommodiihcdaaDoor
/- A write as it is put together, and a slice of one write. No function of the program. -/
namespace Go.Proofs.YtjcommodiihcdaaDoor
open Go.RowKit
theorem fill_two {places : Nat → Option (Nat × Nat)} {n : Nat} (p0 : places 0 = some (0, 1)) (p1 : places 1 = some (1, n)) (z : Array Value) (hz : z.size = n + 1) (u : Value) (hu : u.cells = #[u]) (v : Array Value) (hv : v.size = n) :
    Instr.fill places z [(0, u), (1, .agg v)] = some (u :: v.toList).toArray := by
  have h1 : (Value.agg v).cells = v := rfl
  unfold Instr.fill
  simp only [p0, hu]
  rw [if_neg (by simp; first | omega | (rintro rfl; simp at hz))]
  unfold Instr.fill
  simp only [p1, h1]
  rw [if_neg (by
    simp only [hv]
    have hs : (Array.foldl (fun cs (x : Value × Nat) => cs.setIfInBounds (0 + x.2) x.1) z (#[u].zipIdx)).size = n + 1 := by rw [← Array.foldl_toList, Array.toList_zipIdx]; exact (Great.foldl_set 0 [u] 0 z).1.trans hz
    simp only [hs]
    simp
    omega)]
  unfold Instr.fill
  congr 1
  rw [← Array.foldl_toList, Array.toList_zipIdx, ← Array.foldl_toList, Array.toList_zipIdx]
  obtain ⟨a1, a2⟩ := Great.foldl_set 0 [u] 0 z
  obtain ⟨b1, b2⟩ := Great.foldl_set 1 v.toList 0 (([u].zipIdx 0).foldl (fun cs (x : Value × Nat) => cs.setIfInBounds (0 + x.2) x.1) z)
  apply Array.ext_getElem?
  intro k
  refine (b2 k).trans ?_
  rw [a2 k, a1]
  simp only [List.length_cons, List.length_nil, Array.length_toList]
  cases k with
  | zero => simp [hz]
  | succ k =>
    by_cases hk : k < n
    · rw [if_pos (by omega)]
      simp
    · rw [if_neg (by omega), if_neg (by omega), Array.getElem?_eq_none (by omega)]
      simp
      omega
end Go.Proofs.YtjcommodiihcdaaDoor
