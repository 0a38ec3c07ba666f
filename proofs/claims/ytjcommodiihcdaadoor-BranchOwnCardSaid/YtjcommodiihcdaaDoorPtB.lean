/- PtFits PtOf PtNums -/
import Derived.Test.YtjcommodiihcdaaDoorPtA
import Derived.Test.YtjcommodiihcdaaDoorCrcC
import Derived.Test.YtjcommodiihcdaaDoorBaseB
/- A page's sum; does a pointer fit a page? -/
namespace Go.Proofs.YtjcommodiihcdaaDoor
open Go.RowKit
set_option linter.unusedVariables false
set_option linter.unusedSimpArgs false
theorem pageA_map (l : List (BitVec 8)) : pageA l = (l.map byteV).toArray := rfl
end Go.Proofs.YtjcommodiihcdaaDoor
/- The pointer of these; a pointer as its numbers, and back. -/
namespace Go.Proofs.YtjcommodiihcdaaDoor
open Go.RowKit
set_option linter.unusedVariables false
set_option linter.unusedSimpArgs false
def nouA : Array Value := #[.int .u8 0, .int .u16 0, .int .u16 0, .int .u32 0, .int .u64 0]
theorem grown_grows {w0 w w' : World} {g : Nat} (h : Grows w0 w) (hg : w.grownBy w' (some g)) (hn : w0.heap.size ≤ g) : Grows w0 w' := h.grown hg h.size (fun k e => by cases e; exact hn)
theorem setc_grown (W : World) (b i : Nat) (v : Value) : W.grownBy (W.setCell ⟨b, i, none⟩ v) (some b) :=
  ⟨rfl, rfl, rfl, by simp, fun k hk hne => Below.heap_setCell W ⟨b, i, none⟩ v k (fun e => hne (by rw [e]))⟩
end Go.Proofs.YtjcommodiihcdaaDoor
/- A pointer as its numbers, and back. -/
namespace Go.Proofs.YtjcommodiihcdaaDoor
open Go.RowKit
set_option linter.unusedVariables false
set_option linter.unusedSimpArgs false
def nuA (l : List (BitVec 64)) : Array Value := (l.map fun n => Value.int .u64 (uI n)).toArray
theorem nuA_size (l : List (BitVec 64)) : (nuA l).size = l.length := by simp [nuA]
theorem nuA_get (l : List (BitVec 64)) (i : Nat) (n : BitVec 64) (h : l[i]? = some n) : (nuA l)[i]? = some (.int .u64 (uI n)) := by simp [nuA, h]
theorem nuA_set (l : List (BitVec 64)) (i : Nat) (n : BitVec 64) : (nuA l).setIfInBounds i (.int .u64 (uI n)) = nuA (l.set i n) := by
  apply Array.ext'
  simp [nuA, List.map_set]
theorem nuA_one (l : List (BitVec 64)) : (nuA l).all (·.oneCell') = true := by
  rw [Array.all_eq_true]
  intro i hi
  simp [nuA, Value.oneCell']
theorem nu_info : (Tryd.prog.info? 68).map (·.size) = some 5 := by kernel_rfl
section
variable {w : World} {g : Nat} {l : List (BitVec 64)}
theorem run_load_nu (hl : l.length = 5) (h : Row w g 68 (nuA l)) : (loadVar 68 ⟨g, 0, none⟩).run Tryd.prog w = .ok (.agg (nuA l)) w :=
  run_loadVar_row w g 68 68 (nuA l) (0, 0) _ h Tryd.underlying68 rfl (by rw [nuA_size, hl]; exact nu_info)
section
variable {ops : Array Oper} {rest : List Oper} {o : Oper} {a : Act} {Q : Exit → Act → World → Prop}
theorem wpList_store_nu (hgd : o.guard = none) (y z : Operand) (ho : o.op = .store 68 y z) (g : Nat) (l : List (BitVec 64)) (old : Array Value) (hx : a.eval y = .pointer (some ⟨g, 0, none⟩)) (hy : a.eval z = .agg (nuA l)) (hl : l.length = 5) (h5 : old.size = 5) (hr : Row w g 68 old)
    (h : ∀ w', Row w' g 68 (nuA l) → w.grownBy w' (some g) → wpList Tryd.prog ops Q rest (a.put o.dst undef) w') : wpList Tryd.prog ops Q (o :: rest) a w :=
  wpList_store_row hgd 68 y z ho g (nuA l) hx hy 68 old hr (by rw [nuA_size, hl]; exact nu_info) (by rw [h5, nuA_size, hl]) (nuA_one l)
    (h _ (hr.setRow _) (setRow_grownBy _ _ _))
theorem wpList_load_nu (hgd : o.guard = none) (y : Operand) (ho : o.op = .load 68 y) (g : Nat) (l : List (BitVec 64)) (hx : a.eval y = .pointer (some ⟨g, 0, none⟩)) (hl : l.length = 5) (hr : Row w g 68 (nuA l))
    (h : wpList Tryd.prog ops Q rest (a.put o.dst (.agg (nuA l))) w) : wpList Tryd.prog ops Q (o :: rest) a w :=
  wpList_load_row hgd 68 y ho g hx 68 (nuA l) (0, 0) _ hr Tryd.underlying68 rfl (by rw [nuA_size, hl]; exact nu_info) h
end
theorem results_nu {fn : Func} {p : Tmp} (h : fn.results = #[.cell p 68]) (tmps : Array Value) (hp : tmps.getD p undef = .pointer (some ⟨g, 0, none⟩)) (hl : l.length = 5) (hr : Row w g 68 (nuA l)) :
    (results fn tmps).run Tryd.prog w = .ok (.agg (nuA l)) w :=
  results_cell_row h tmps w g 68 (nuA l) (0, 0) _ hp hr Tryd.underlying68 rfl (by rw [nuA_size, hl]; exact nu_info)
end
theorem numbers_length (x : Pt) : (PtM.numbers x).length = 5 := rfl
theorem numbers_any (x : Pt) (w : World) : Calls Tryd.prog 41 #[.agg (ptA x)] w fun e w' => e = .returned (.agg (nuA (PtM.numbers x))) ∧ Grows w w' := by
  have HG := Lib.hid ((Grows.alloc w (.cells (ptA x) 45)).trans (Grows.alloc _ (.cells #[.int .u64 0, .int .u64 0, .int .u64 0, .int .u64 0, .int .u64 0] 68)))
  have HR : Hid (Row ((w.alloc (.cells (ptA x) 45)).alloc (.cells #[.int .u64 0, .int .u64 0, .int .u64 0, .int .u64 0, .int .u64 0] 68)) (w.heap.size + 1) 68 #[.int .u64 0, .int .u64 0, .int .u64 0, .int .u64 0, .int .u64 0]) := by
    have := Row.new (w.alloc (.cells (ptA x) 45)) 68 #[.int .u64 0, .int .u64 0, .int .u64 0, .int .u64 0, .int .u64 0]
    rwa [World.size_alloc] at this
  have e0 := wrap_u64_bI x.kind
  have e1 := wrap_u64_hI x.a
  have e2 := wrap_u64_hI x.b
  have e3 := wrap_u64_wI x.birth
  have HN : Hid (nuA (PtM.numbers x) = #[.int .u64 (uI (x.kind.setWidth 64)), .int .u64 (uI (x.a.setWidth 64)), .int .u64 (uI (x.b.setWidth 64)), .int .u64 (uI (x.birth.setWidth 64)), .int .u64 (uI x.sum)]) := rfl
  go_enter Tryd.func41, Tryd.ntmps41
  go_wp2_with (first
    | ((with_reducible refine wpList_store_nu ?_ (.tmp 2) (.tmp 19) ?_ (w.heap.size + 1) (PtM.numbers x) #[.int .u64 0, .int .u64 0, .int .u64 0, .int .u64 0, .int .u64 0] ?_ ?_ ?_ ?_ ?_ ?_); exact rfl; exact rfl; exact rfl; (rw [HN.out]; exact rfl); exact rfl; exact rfl; exact HR.out; intro w3 hr3 hg3))
  refine bodyPost_ret (results_nu (p := 2) (by exact rfl) _ (by exact rfl) (numbers_length x) hr3) rfl ?_
  exact ⟨rfl, grown_grows HG.out hg3 (by omega)⟩
theorem ofNumbers_any (n0 n1 n2 n3 n4 : BitVec 64) (w : World) : Calls Tryd.prog 65 #[.agg (nuA [n0, n1, n2, n3, n4])] w fun e w' => e = .returned (.agg (ptA (PtM.ofNumbers n0 n1 n2 n3 n4))) ∧ Grows w w' := by
  rw [show nuA [n0, n1, n2, n3, n4] = #[.int .u64 (uI n0), .int .u64 (uI n1), .int .u64 (uI n2), .int .u64 (uI n3), .int .u64 (uI n4)] from rfl]
  have HG := Lib.hid ((Grows.alloc w (.cells #[.int .u64 (uI n0), .int .u64 (uI n1), .int .u64 (uI n2), .int .u64 (uI n3), .int .u64 (uI n4)] 68)).trans (Grows.alloc _ (.cells #[.int .u8 0, .int .u16 0, .int .u16 0, .int .u32 0, .int .u64 0] 45)))
  have HR : Hid (Row ((w.alloc (.cells #[.int .u64 (uI n0), .int .u64 (uI n1), .int .u64 (uI n2), .int .u64 (uI n3), .int .u64 (uI n4)] 68)).alloc (.cells #[.int .u8 0, .int .u16 0, .int .u16 0, .int .u32 0, .int .u64 0] 45)) (w.heap.size + 1) 45 #[.int .u8 0, .int .u16 0, .int .u16 0, .int .u32 0, .int .u64 0]) := by
    have := Row.new (w.alloc (.cells #[.int .u64 (uI n0), .int .u64 (uI n1), .int .u64 (uI n2), .int .u64 (uI n3), .int .u64 (uI n4)] 68)) 45 #[.int .u8 0, .int .u16 0, .int .u16 0, .int .u32 0, .int .u64 0]
    rwa [World.size_alloc] at this
  have e0 := wrap_u8_uI n0
  have e1 := wrap_u16_uI n1
  have e2 := wrap_u16_uI n2
  have e3 := wrap_u32_uI n3
  have HN : Hid (ptA (PtM.ofNumbers n0 n1 n2 n3 n4) = #[.int .u8 (bI (n0.setWidth 8)), .int .u16 (hI (n1.setWidth 16)), .int .u16 (hI (n2.setWidth 16)), .int .u32 (wI (n3.setWidth 32)), .int .u64 (uI n4)]) := rfl
  go_enter Tryd.func65, Tryd.ntmps65
  go_wp2_with (first
    | ((with_reducible refine wpList_store_pt ?_ (.tmp 2) (.tmp 18) ?_ (w.heap.size + 1) (PtM.ofNumbers n0 n1 n2 n3 n4) #[.int .u8 0, .int .u16 0, .int .u16 0, .int .u32 0, .int .u64 0] ?_ ?_ ?_ ?_ ?_); exact rfl; exact rfl; exact rfl; (rw [HN.out]; exact rfl); exact rfl; exact HR.out; intro w3 hr3 hg3))
  refine bodyPost_ret (results_pt (p := 2) (by exact rfl) _ (by exact rfl) hr3) rfl ?_
  exact ⟨rfl, grown_grows HG.out hg3 (by omega)⟩
end Go.Proofs.YtjcommodiihcdaaDoor
