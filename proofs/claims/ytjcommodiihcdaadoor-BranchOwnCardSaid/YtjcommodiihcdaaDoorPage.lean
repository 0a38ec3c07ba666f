/- Page -/
import Derived.Test.YtjcommodiihcdaaDoorApp
import Derived.Test.YtjcommodiihcdaaDoorBaseA
import Derived.Laws.CopyOwn
import Derived.Laws.Tables
import Derived.ProofKit
import Derived.OpenShut
/- Pages: arrays of 256 bytes, loaded and stored whole, and as results. No function of the program. -/
namespace Go.Proofs.YtjcommodiihcdaaDoor
open Go.RowKit
def pageA (l : List (BitVec 8)) : Array Value := (l.map byteV).toArray
def noughts : List (BitVec 8) := List.replicate 256 0#8
theorem pageA_size (l : List (BitVec 8)) : (pageA l).size = l.length := by simp [pageA]
theorem pageA_get (l : List (BitVec 8)) (i : Nat) (b : BitVec 8) (h : l[i]? = some b) : (pageA l)[i]? = some (.int .u8 (bI b)) := by simp [pageA, h, byteV]
theorem pageA_one (l : List (BitVec 8)) : (pageA l).all (·.oneCell') = true := by
  rw [Array.all_eq_true]
  intro i hi
  simp [pageA, byteV, Value.oneCell']
theorem pageA_set (l : List (BitVec 8)) (i : Nat) (b : BitVec 8) : (pageA l).setIfInBounds i (.int .u8 (bI b)) = pageA (l.set i b) := by
  apply Array.ext'
  simp [pageA, List.map_set, byteV]
theorem noughts_length : noughts.length = 256 := List.length_replicate
theorem zero_page (w : World) : (zeroValue 24).run Tryd.prog w = .ok (.agg (pageA noughts)) w := by kernel_rfl
theorem page_info : (Tryd.prog.info? 24).map (·.size) = some 256 := by kernel_rfl
/-- Block g is a page of these bytes. -/
def PRow (w : World) (g : Nat) (l : List (BitVec 8)) : Prop := l.length = 256 ∧ Row w g 24 (pageA l)
section
variable {w w' : World} {g : Nat} {l : List (BitVec 8)}
theorem PRow.lt (h : PRow w g l) : g < w.heap.size := h.2.lt
theorem PRow.cell (h : PRow w g l) (i : Nat) (b : BitVec 8) (hi : l[i]? = some b) : w.cell? ⟨g, i, none⟩ = some (.int .u8 (bI b)) := by rw [h.2.cell, pageA_get _ _ _ hi]
theorem PRow.frozen (h : PRow w g l) (i : Nat) : w.frozen? ⟨g, i, none⟩ = false := h.2.frozen i
theorem PRow.new (w : World) (hl : l.length = 256) : PRow (w.alloc (.cells (pageA l) 24)) w.heap.size l := ⟨hl, Row.new w _ _⟩
theorem PRow.drew (h : PRow w g l) : PRow w.drew g l := h
theorem PRow.alloc (h : PRow w g l) (o : Obj) : PRow (w.alloc o) g l := ⟨h.1, h.2.alloc o⟩
theorem PRow.grows (h : PRow w g l) (hg : Grows w w') : PRow w' g l := ⟨h.1, Row.grows h.2 hg⟩
theorem PRow.set (h : PRow w g l) (i : Nat) (b : BitVec 8) : PRow (w.setCell ⟨g, i, none⟩ (.int .u8 (bI b))) g (l.set i b) := ⟨by rw [List.length_set]; exact h.1, by rw [← pageA_set]; exact h.2.set i _⟩
theorem PRow.far (h : PRow w g l) {p : Addr} (hp : g ≠ p.block) (u : Value) : PRow (w.setCell p u) g l := ⟨h.1, h.2.far hp u⟩
theorem PRow.grown {row : Option Nat} (h : PRow w g l) (hb : w.grownBy w' row) (hg : some g ≠ row) : PRow w' g l := ⟨h.1, h.2.grown hb hg⟩
theorem PRow.below {B : Nat} (h : PRow w g l) (hb : Below B w w') (hg : g < B) : PRow w' g l := ⟨h.1, h.2.below hb hg⟩
/-- A page, or its first bytes, or those behind, as a slice. -/
theorem PRow.bytes (h : PRow w g l) : Bytes w.heap.size w (.slice (some ⟨g, 0, none⟩) 256 256) l := by
  have := Sl.of_row h.2 h.lt 256 (l.map byteV) (by simp [pageA]) (by simp [h.1]) (by decide)
  rwa [List.length_map, h.1] at this
theorem setRow_grownBy (w : World) (g : Nat) (cs : Array Value) : w.grownBy (w.setRow g cs) (some g) :=
  ⟨rfl, rfl, rfl, by simp [World.setRow], fun k _ hk => setRow_other w g k cs (fun e => hk (by rw [e]))⟩
theorem run_load_page (h : PRow w g l) : (loadVar 24 ⟨g, 0, none⟩).run Tryd.prog w = .ok (.agg (pageA l)) w :=
  run_loadVar_row w g 24 24 (pageA l) (0, 0) _ h.2 Tryd.underlying24 rfl (by rw [pageA_size, h.1]; exact page_info)
section
variable {ops : Array Oper} {rest : List Oper} {o : Oper} {a : Act} {Q : Exit → Act → World → Prop}
theorem wpList_load_page (hgd : o.guard = none) (x : Operand) (ho : o.op = .load 24 x) (g : Nat) (l : List (BitVec 8)) (hx : a.eval x = .pointer (some ⟨g, 0, none⟩)) (hr : PRow w g l)
    (h : wpList Tryd.prog ops Q rest (a.put o.dst (.agg (pageA l))) w) : wpList Tryd.prog ops Q (o :: rest) a w :=
  wpList_load_row hgd 24 x ho g hx 24 (pageA l) (0, 0) _ hr.2 Tryd.underlying24 rfl (by rw [pageA_size, hr.1]; exact page_info) h
theorem wpList_store_page (hgd : o.guard = none) (x y : Operand) (ho : o.op = .store 24 x y) (g : Nat) (l old : List (BitVec 8)) (hx : a.eval x = .pointer (some ⟨g, 0, none⟩)) (hy : a.eval y = .agg (pageA l)) (hl : l.length = 256) (hr : PRow w g old)
    (h : ∀ w', PRow w' g l → w.grownBy w' (some g) → wpList Tryd.prog ops Q rest (a.put o.dst undef) w') : wpList Tryd.prog ops Q (o :: rest) a w :=
  wpList_store_row hgd 24 x y ho g (pageA l) hx hy 24 (pageA old) hr.2 (by rw [pageA_size, hl]; exact page_info) (by rw [pageA_size, pageA_size, hl, hr.1]) (pageA_one l)
    (h _ ⟨hl, hr.2.setRow _⟩ (setRow_grownBy _ _ _))
end
theorem results_page {fn : Func} {p : Tmp} (h : fn.results = #[.cell p 24]) (tmps : Array Value) (hp : tmps.getD p undef = .pointer (some ⟨g, 0, none⟩)) (hr : PRow w g l) :
    (results fn tmps).run Tryd.prog w = .ok (.agg (pageA l)) w :=
  results_cell_row h tmps w g 24 (pageA l) (0, 0) _ hp hr.2 Tryd.underlying24 rfl (by rw [pageA_size, hr.1]; exact page_info)
theorem results_page_two {fn : Func} {p q : Tmp} (h : fn.results = #[.cell p 24, .tmp q]) (tmps : Array Value) (v : Value) (hp : tmps.getD p undef = .pointer (some ⟨g, 0, none⟩)) (hq : tmps.getD q undef = v) (hr : PRow w g l) :
    (results fn tmps).run Tryd.prog w = .ok (.tuple #[.agg (pageA l), v]) w := by
  have hp' : tmps[p]?.getD undef = .pointer (some ⟨g, 0, none⟩) := by simpa using hp
  have hq' : tmps[q]?.getD undef = v := by simpa using hq
  simp [results, h, hp', hq', asAddr, run_load_page hr]
end
end Go.Proofs.YtjcommodiihcdaaDoor
