/- VdRef VdIter VdvMay VdGreat VdvOwn VdRead VdWrite VdNew VdvWrite VdIn -/
import Derived.Test.YtjcommodiihcdaaDoorBaseB
import Derived.Test.YtjcommodiihcdaaDoorBaseA
import Derived.BigQuiet
import Derived.Lib.Hide
import Derived.RangeFuncBox
import Derived.RangeFuncNested
import Derived.RangeFuncBound
import Derived.RangeFuncCalls
import Derived.RangeFuncLeaves
import Derived.OwnWalkIn
import Derived.TacticsInMore
import Derived.LoopNIn
import Derived.LoopIn
import Derived.BigRegionIn
import Derived.Shelf.Abstract
import Derived.ProofKit
import Derived.OpenShut
import Derived.Stop.RegionWithIn
import Derived.Scope
import Derived.Lib.AppendZerosOnto
import Derived.Shelf.Spec.SlicesGrow
import Derived.Laws.CopyOwn
import Derived.Laws.Tables
import Derived.Laws.Build
/- The document's answers for layer 3: numbers compared, which disks may be. -/
namespace Go.Proofs.YtjcommodiihcdaaDoor
open Go.RowKit
set_option linter.unusedVariables false
set_option linter.unusedSimpArgs false
/-- What a slice of numbers gives at a place. -/
theorem Els.ints {B : Nat} {W : World} {v : Value} {l : List Int} (h : Els 1 intE B W v l) : ∃ A cap, v = .slice A l.length cap ∧ l.length ≤ cap ∧ cap ≤ maxLen ∧ (0 < l.length → ∃ b o, A = some ⟨b, o, none⟩ ∧ b < B ∧ ∀ j x, l[j]? = some x → W.cell? ⟨b, o + j, none⟩ = some (.int .i64 x)) := by
  obtain ⟨A, cap, hv, h1, h2, h3⟩ := h.form
  refine ⟨A, cap, hv, h1, h2, fun hp => ?_⟩
  obtain ⟨b, o, ha, hb, hr⟩ := h3 hp
  refine ⟨b, o, ha, hb, fun j x hx => ?_⟩
  have := hr j x hx 0 (.int .i64 x) rfl
  simpa using this
theorem take_eq_step {a b : List Int} {k : Nat} (h : a.take k = b.take k) {x : Int} (ha : a[k]? = some x) (hb : b[k]? = some x) : a.take (k + 1) = b.take (k + 1) := by
  rw [List.take_add_one, List.take_add_one, h, ha, hb]
theorem below_drewN' {B : Nat} {a w : World} (h : Below B a w) (n : Nat) : Below B a (w.drewN n) := ⟨h.os, h.tape, h.output, h.size, h.block⟩
end Go.Proofs.YtjcommodiihcdaaDoor
/- Layer 3's small answers and its iterator: sizes, places; a cache's writes, from the last one on. -/
namespace Go.Proofs.YtjcommodiihcdaaDoor
open Go.RowKit
set_option linter.unusedVariables false
set_option linter.unusedSimpArgs false
attribute [local go_sem] Oper.semAt_some
/-- The places from the last one down to k. -/
def backs (n k : Nat) : List (Fin n) := ((List.finRange n).drop k).reverse
theorem backs_full (n : Nat) : backs n n = [] := by unfold backs; rw [List.drop_eq_nil_of_le (by simp)]; rfl
theorem backs_step {n k : Nat} (h : k < n) : backs n k = backs n (k + 1) ++ [⟨k, h⟩] := by
  unfold backs
  rw [List.drop_eq_getElem_cons (by simpa using h), List.reverse_cons]
  simp
theorem backs_zero (n : Nat) : backs n 0 = (List.finRange n).reverse := rfl
theorem backs_prefix (n k : Nat) : backs n k <+: (List.finRange n).reverse := by
  refine ⟨((List.finRange n).take k).reverse, ?_⟩
  unfold backs
  rw [← List.reverse_append, List.take_append_drop]
theorem backs_len (n k : Nat) : (backs n k).length = n - k := by simp [backs]
theorem prefix_backs {n : Nat} {pre : List (Fin n)} (h : pre <+: (List.finRange n).reverse) : pre = backs n (n - pre.length) := by
  obtain ⟨t, ht⟩ := h
  have hl := congrArg List.length ht
  simp only [List.length_append, List.length_reverse, List.length_finRange] at hl
  obtain ⟨s, hs⟩ := backs_prefix n (n - pre.length)
  refine List.append_inj_left (hs.symm ▸ ht : pre ++ t = backs n (n - pre.length) ++ s) ?_
  rw [backs_len]; omega
/-- Where a cache's write stands. -/
def wrAt (g o : Nat) (j : Nat) : Value := .pointer (some ⟨g, o + j * 257, none⟩)
end Go.Proofs.YtjcommodiihcdaaDoor
/- vdev.May: which disks may be. -/
namespace Go.Proofs.YtjcommodiihcdaaDoor
open Go.RowKit Go.Shelf
set_option linter.unusedVariables false
set_option linter.unusedSimpArgs false
attribute [local go_sem] Oper.semAt_some
theorem results_bool_cell {fn : Func} {p : Tmp} {w : World} {g : Nat} {b : Bool} (h : fn.results = #[.cell p 4]) (tmps : Array Value) (hp : tmps.getD p undef = .pointer (some ⟨g, 0, none⟩)) (hr : Row w g 4 #[.bool b]) :
    (results fn tmps).run Tryd.prog w = .ok (.bool b) w := by
  have hp' : tmps[p]?.getD undef = .pointer (some ⟨g, 0, none⟩) := by simpa using hp
  have hc : w.cell? ⟨g, 0, none⟩ = some (.bool b) := hr.cell 0
  have hagg : (isAgg 4).run Tryd.prog w = .ok false w := by
    unfold isAgg
    rw [Sem.run_bind, run_underlying Tryd.underlying4 w]
    rfl
  simp [results, h, hp', asAddr, loadVar, hagg, go_sem, hc]
def LeftM (w : World) (n : Nat) (c : List (Int × Pg)) (cd : Code) (pre : List (Fin c.length)) (W : World) : Prop :=
  (cd = .ret ∧ ∃ j : Fin c.length, ¬ (0 ≤ (c[j.val]).1 ∧ (c[j.val]).1 < n)) ∧ Row W (w.heap.size + 1) 4 #[.bool false] ∧ Below w.heap.size w W
end Go.Proofs.YtjcommodiihcdaaDoor
/- The document's Great: disks too great to be asked. -/
namespace Go.Proofs.YtjcommodiihcdaaDoor
open Go.RowKit
set_option linter.unusedVariables false
set_option linter.unusedSimpArgs false
/-- A slice of disks. -/
def Disks (B : Nat) (W : World) (v : Value) (ds : List Dk) : Prop :=
  ∃ vs : List (List Value), Els 4 id B W v vs ∧ vs.length = ds.length ∧ ∀ (i : Nat) (x : List Value) (d : Dk), vs[i]? = some x → ds[i]? = some d → IsDisk B W (.agg x.toArray) d
theorem disk_cells {B : Nat} {W : World} {x : List Value} {d : Dk} (h : IsDisk B W (.agg x.toArray) d) : ∃ A cap A' cap' A'' cap'', x = [.slice A d.pages.length cap, .slice A' d.cache.length cap', .slice A'' d.bad.length cap'', .bool d.off] := by
  obtain ⟨pv, cv, bv, h0, h1, h2, h3⟩ := h
  obtain ⟨A, cap, rfl, _⟩ := h1.form
  obtain ⟨A', cap', rfl, _⟩ := h2.form
  obtain ⟨A'', cap'', rfl, _⟩ := h3.form
  simp only [Value.agg.injEq] at h0
  exact ⟨A, cap, A', cap', A'', cap'', by simpa using congrArg Array.toList h0⟩
end Go.Proofs.YtjcommodiihcdaaDoor
/- slices.Grow from nil; vdev.own: a list, and more behind it, in memory of its own. -/
namespace Go.Proofs.YtjcommodiihcdaaDoor
open Go.RowKit
set_option linter.unusedVariables false
set_option linter.unusedSimpArgs false
section
variable {α : Type} {s : Nat} {f : α → List Value}
/-- A fresh row of noughts of which nothing is in the slice. -/
theorem own_fresh {e : TypeId} {base : Nat} {w w' : World} {cs : Array Value} {G : Nat} (hb : base ≤ w.heap.size) (hw : w' = w.drew.alloc (.cells cs e)) (h1 : G ≤ maxLen) (h2 : cs.size = G * s) :
    Own' (α := α) e s f base w' (.slice (some ⟨w.heap.size, 0, none⟩) 0 G) [] := by
  subst hw
  refine ⟨fun _ h => by simp at h, by simp, .inr ⟨w.heap.size, G, cs, rfl, hb, Row.new w.drew e cs, Nat.zero_le _, h1, h2, by simp⟩⟩
end
end Go.Proofs.YtjcommodiihcdaaDoor
/- The document's Read. -/
namespace Go.Proofs.YtjcommodiihcdaaDoor
open Go.RowKit
set_option linter.unusedVariables false
set_option linter.unusedSimpArgs false
theorem blank_len : VdM.blank.length = 256 := List.length_replicate
theorem zero_pg (w : World) : (zeroValue 24).run Tryd.prog w = .ok (.agg (pgA VdM.blank)) w := by kernel_rfl
theorem pg_info : (Tryd.prog.info? 24).map (·.size) = some 256 := by kernel_rfl
theorem pgA_one (p : Pg) : (pgA p).all (·.oneCell') = true := all_oneCell_toArray (pageE_one p)
section
variable {w : World} {ops : Array Oper} {rest : List Oper} {o : Oper} {a : Act} {Q : Exit → Act → World → Prop}
theorem built_pg : Tryd.prog.built 24 [] = some (pgA VdM.blank) := by kernel_rfl
theorem wpList_build_pg (hgd : o.guard = none) (ho : o.op = .build 24 #[]) (h : wpList Tryd.prog ops Q rest (a.put o.dst (.agg (pgA VdM.blank))) w) : wpList Tryd.prog ops Q (o :: rest) a w := by
  refine wpList_plain hgd fun K hK => ?_
  have e : Tryd.prog.built 24 ((#[] : Array (Nat × Operand)).map fun (i, x) => (i, a.eval x)).toList = some (pgA VdM.blank) := by simpa using built_pg
  refine wp_build 24 #[] ho (by rw [e]; rfl) ?_
  rw [e]
  exact hK _ _ h
theorem wpList_store_pgrow (hgd : o.guard = none) (x y : Operand) (ho : o.op = .store 24 x y) (g : Nat) (p old : Pg) (hx : a.eval x = .pointer (some ⟨g, 0, none⟩)) (hy : a.eval y = .agg (pgA p)) (hl : p.length = 256) (ho2 : old.length = 256) (hr : Row w g 24 (pgA old))
    (h : ∀ w', Row w' g 24 (pgA p) → w.grownBy w' (some g) → wpList Tryd.prog ops Q rest (a.put o.dst undef) w') : wpList Tryd.prog ops Q (o :: rest) a w :=
  wpList_store_row hgd 24 x y ho g (pgA p) hx hy 24 (pgA old) hr (by rw [pgA_size, hl]; exact pg_info) (by rw [pgA_size, pgA_size, hl, ho2]) (pgA_one p)
    (h _ (hr.setRow _) (setRow_grown _ _ _))
end
theorem results_pg_two {fn : Func} {p q : Tmp} {w : World} {g : Nat} {l : Pg} (h : fn.results = #[.cell p 24, .tmp q]) (tmps : Array Value) (v : Value) (hp : tmps.getD p undef = .pointer (some ⟨g, 0, none⟩)) (hq : tmps.getD q undef = v) (hl : l.length = 256) (hr : Row w g 24 (pgA l)) :
    (results fn tmps).run Tryd.prog w = .ok (.tuple #[.agg (pgA l), v]) w := by
  have hp' : tmps[p]?.getD undef = .pointer (some ⟨g, 0, none⟩) := by simpa using hp
  have hq' : tmps[q]?.getD undef = v := by simpa using hq
  have hload : (loadVar 24 ⟨g, 0, none⟩).run Tryd.prog w = .ok (.agg (pgA l)) w :=
    run_loadVar_row w g 24 24 (pgA l) (0, 0) _ hr Tryd.underlying24 rfl (by rw [pgA_size, hl]; exact pg_info)
  simp [results, h, hp', hq', asAddr, hload]
theorem range_data {W : World} {b o : Nat} {x : Int × Pg} (h : W.rangeAt b o (writeE x)) : W.rangeAt b (o + 1) (pageE x.2) := fun j v hv => by
  have := h (j + 1) v (by simpa [writeE, pageE] using hv)
  rwa [show o + (j + 1) = o + 1 + j by omega] at this
end Go.Proofs.YtjcommodiihcdaaDoor
/- The document's Write. -/
namespace Go.Proofs.YtjcommodiihcdaaDoor
open Go.RowKit
set_option linter.unusedVariables false
set_option linter.unusedSimpArgs false
/-- A disk's four cells, each of them one cell. -/
theorem dk_one {B : Nat} {W : World} {D : Array Value} {d : Dk} (h : IsDisk B W (.agg D) d) : D.size = 4 ∧ D.all (·.oneCell') = true := by
  obtain ⟨pv, cv, bv, h0, h1, h2, h3⟩ := h
  obtain ⟨A, cap, rfl, _⟩ := h1.form
  obtain ⟨A', cap', rfl, _⟩ := h2.form
  obtain ⟨A'', cap'', rfl, _⟩ := h3.form
  simp only [Value.agg.injEq] at h0
  subst h0
  exact ⟨rfl, by simp [Value.oneCell']⟩
def noDk : Array Value := #[.slice none 0 0, .slice none 0 0, .slice none 0 0, .bool false]
section
variable {w : World} {ops : Array Oper} {rest : List Oper} {o : Oper} {a : Act} {Q : Exit → Act → World → Prop}
theorem wpList_load_pgrow (hgd : o.guard = none) (x : Operand) (ho : o.op = .load 24 x) (g : Nat) (p : Pg) (hx : a.eval x = .pointer (some ⟨g, 0, none⟩)) (hl : p.length = 256) (hr : Row w g 24 (pgA p))
    (h : wpList Tryd.prog ops Q rest (a.put o.dst (.agg (pgA p))) w) : wpList Tryd.prog ops Q (o :: rest) a w :=
  wpList_load_row hgd 24 x ho g hx 24 (pgA p) (0, 0) _ hr Tryd.underlying24 rfl (by rw [pgA_size, hl]; exact pg_info) h
end
section
variable {w : World} {ops : Array Oper} {rest : List Oper} {o : Oper} {a : Act} {Q : Exit → Act → World → Prop}
end
end Go.Proofs.YtjcommodiihcdaaDoor
/- The document's New. -/
namespace Go.Proofs.YtjcommodiihcdaaDoor
open Go.RowKit
set_option linter.unusedVariables false
set_option linter.unusedSimpArgs false
theorem pageE_blank : pageE VdM.blank = List.replicate 256 (.int .u8 0) := by
  unfold pageE VdM.blank
  rw [List.map_replicate]; rfl
theorem madeCells_pages (m : Nat) : (madeCells (pgA VdM.blank) (m * 256)).toList = (List.replicate m VdM.blank).flatMap pageE := by
  have hb : (pgA VdM.blank) = Array.replicate 256 (.int .u8 0) := by unfold pgA; rw [pageE_blank, List.toArray_replicate]
  have h2 : ∀ m, (List.replicate m VdM.blank).flatMap pageE = List.replicate (m * 256) (.int .u8 0) := by
    intro m
    induction m with
    | zero => rw [Nat.zero_mul]; rfl
    | succ m ih => rw [List.replicate_succ, List.flatMap_cons, ih, Nat.add_mul, Nat.one_mul, Nat.add_comm (m * 256) 256, ← List.replicate_append_replicate, pageE_blank]
  rw [h2, hb]
  apply List.ext_getElem
  · rw [Array.length_toList, size_madeCells, List.length_replicate]
  · intro i h1 h2
    have : i % 256 < 256 := Nat.mod_lt _ (by omega)
    simp [madeCells, this]
theorem Own'.nil {α : Type} (e : TypeId) (s : Nat) (f : α → List Value) (base : Nat) (w : World) : Own' e s f base w (.slice none 0 0) ([] : List α) := ⟨fun _ h => by simp at h, by simp, .inl ⟨rfl, rfl⟩⟩
def newD (n : Int) : Dk := if n < 32 ∨ 256 < n then ⟨[], [], [], false⟩ else ⟨List.replicate n.toNat VdM.blank, [], [], false⟩
def newE (n : Int) : Int := if n < 32 ∨ 256 < n then 2 else 0
end Go.Proofs.YtjcommodiihcdaaDoor
/- vdev.Write. -/
namespace Go.Proofs.YtjcommodiihcdaaDoor
open Go.RowKit
set_option linter.unusedVariables false
set_option linter.unusedSimpArgs false
theorem pg_run_load_row {w : World} {g : Nat} {p : Pg} (hl : p.length = 256) (hr : Row w g 24 (pgA p)) : (loadVar 24 ⟨g, 0, none⟩).run Tryd.prog w = .ok (.agg (pgA p)) w :=
  run_loadVar_row w g 24 24 (pgA p) (0, 0) _ hr Tryd.underlying24 rfl (by rw [pgA_size, hl]; kernel_rfl)
/-- A list that grows with the heap. -/
def ElsAt {α : Type} (s : Nat) (f : α → List Value) (l : List α) (v : Value) (w : World) : Prop := Els s f w.heap.size w v l
theorem ElsAt.mono {α : Type} {s : Nat} {f : α → List Value} (l : List α) : ∀ v w w', ElsAt s f l v w → Grows w w' → ElsAt s f l v w' := fun v w w' h hg => h.grows hg
end Go.Proofs.YtjcommodiihcdaaDoor
/- Pages, disks, writes inside a fence: loaded, stored, laid; appends; how a function that ranged over an iterator ends. No function of the program. -/
namespace Go.Proofs.YtjcommodiihcdaaDoor
open Go.RowKit Go.Deep
set_option linter.unusedVariables false
set_option linter.unusedSimpArgs false
section
variable {F : Fence} {nn : Nat}
theorem wpListIn_does {P : Program} {w : World} {ops : Array Oper} {rest : List Oper} {o : Oper} {a : Act} {Q : Exit → Act → World → Prop} {R : Value → World → Prop} (hF : WideF F) (hgd : o.guard = none) (hnd : ∀ c, o.op ≠ .defer c) (h : Does P o a.eval w R)
    (hK : ∀ v w', R v w' → wpListIn F nn P ops Q rest (a.put o.dst v) w') : wpListIn F nn P ops Q (o :: rest) a w :=
  wpListIn_plain hgd fun K hK' => Does.wpIn hF hnd h (fun v w' hR => hK' _ _ (hK v w' hR))
theorem does_store_row {P : Program} {ρ : Operand → Value} {o : Oper} {w : World} {R : Value → World → Prop} (ty : TypeId) (x y : Operand) (ho : o.op = .store ty x y) (g : Nat) (cells : Array Value) (hx : ρ x = .pointer (some ⟨g, 0, none⟩)) (hy : ρ y = .agg cells)
    (old : Array Value) (t : TypeId) (hg : Row w g t old) (hi : (P.info? ty).map (·.size) = some cells.size) (hold : old.size = cells.size) (h1 : cells.all (·.oneCell') = true)
    (hR : ∀ w', Row w' g t cells → w.grownBy w' (some g) → R undef w') : Does P o ρ w R := by
  unfold Does execOp
  simp only [ho, hx, hy, Instr.storeAt, Instr.sureAddr, Sem.run_bind, Sem.run_pure, Result.andThen_ok, run_storeVar_row w g t ty old cells hg hi hold h1]
  exact hR _ (hg.setRow _) (setRow_grown _ _ _)
theorem does_store_mid {P : Program} {ρ : Operand → Value} {o : Oper} {w : World} {R : Value → World → Prop} (ty : TypeId) (x y : Operand) (ho : o.op = .store ty x y) (b off : Nat) (cells : Array Value) (hx : ρ x = .pointer (some ⟨b, off, none⟩)) (hy : ρ y = .agg cells)
    (ht : w.there b off cells.size) (hi : (P.info? ty).map (·.size) = some cells.size) (h1 : cells.all (·.oneCell') = true)
    (hR : R undef (w.setCells b off cells.toList)) : Does P o ρ w R := by
  unfold Does execOp
  simp only [ho, hx, hy, Instr.storeAt, Instr.sureAddr, Sem.run_bind, Sem.run_pure, Result.andThen_ok, run_storeVar_mid w b off ty cells ht hi h1]
  exact hR
theorem does_build_pg {ρ : Operand → Value} {o : Oper} {w : World} {R : Value → World → Prop} (ho : o.op = .build 24 #[]) (hR : R (.agg (pgA VdM.blank)) w) : Does Tryd.prog o ρ w R := by
  have hc : Tryd.prog.built 24 ((#[] : Array (Nat × Operand)).map fun (i, x) => (i, ρ x)).toList = some (pgA VdM.blank) := by simpa using built_pg
  unfold Does execOp
  simp only [ho, Sem.run_bind, run_build w 24 _ _ hc, Result.andThen_ok]
  exact hR
theorem does_append_els {α : Type} {s : Nat} {f : α → List Value} {P : Program} {t e : TypeId} {by' : Nat} (T : ElT P t e s by') (h1c : ∀ x : α, ∀ u ∈ f x, u.oneCell' = true) {w : World} {o : Oper} {ρ : Operand → Value} {R : Value → World → Prop} (y x : Operand)
    (ho : o.op = .call { callee := .builtin .append, args := #[y, x], argTypes := #[t, t] }) (base B : Nat) (l m : List α) (hv : Own' e s f base w (ρ y) l) (hx : Els s f B w (ρ x) m)
    (hlen : l.length + m.length ≤ maxLen) (hby : (l.length + m.length) * by' ≤ 140737488355328) (hb : base ≤ w.heap.size)
    (h : ∀ v' w', Own' e s f base w' v' (l ++ m) → w.grownBy w' (ρ y).ownBlock → (v'.ownBlock = (ρ y).ownBlock ∨ v'.ownBlock = some w.heap.size) → R v' w') : Does P o ρ w R := by
  obtain ⟨v', w', hr, h2, h3, h4⟩ := run_append_els T h1c o.type hv hx hlen hby hb
  unfold Does execOp
  simp only [ho, resolve, invoke, builtin, Sem.run_bind, Sem.run_pure, Result.andThen_ok, List.map_toArray, List.map_cons, List.map_nil, hr]
  exact h v' w' h2 h3 h4
section
variable {w : World} {ops : Array Oper} {rest : List Oper} {o : Oper} {a : Act} {Q : Exit → Act → World → Prop}
theorem wpListIn_load_pg (hF : WideF F) (hgd : o.guard = none) (x : Operand) (ho : o.op = .load 24 x) (b off : Nat) (p : Pg) (hx : a.eval x = .pointer (some ⟨b, off, none⟩)) (hl : p.length = 256) (hr : w.rangeAt b off (pageE p))
    (h : wpListIn F nn Tryd.prog ops Q rest (a.put o.dst (.agg (pgA p))) w) : wpListIn F nn Tryd.prog ops Q (o :: rest) a w :=
  wpListIn_does hF hgd (by intro c; rw [ho]; simp) (R := fun v w' => v = .agg (pgA p) ∧ w' = w) (dk_load 24 x ⟨b, off, none⟩ _ ho hx (page_run_load hl hr) ⟨rfl, rfl⟩) (by rintro v w' ⟨rfl, rfl⟩; exact h)
theorem wpListIn_load_pgrow (hF : WideF F) (hgd : o.guard = none) (x : Operand) (ho : o.op = .load 24 x) (g : Nat) (p : Pg) (hx : a.eval x = .pointer (some ⟨g, 0, none⟩)) (hl : p.length = 256) (hr : Row w g 24 (pgA p))
    (h : wpListIn F nn Tryd.prog ops Q rest (a.put o.dst (.agg (pgA p))) w) : wpListIn F nn Tryd.prog ops Q (o :: rest) a w :=
  wpListIn_does hF hgd (by intro c; rw [ho]; simp) (R := fun v w' => v = .agg (pgA p) ∧ w' = w) (dk_load 24 x ⟨g, 0, none⟩ _ ho hx (pg_run_load_row hl hr) ⟨rfl, rfl⟩) (by rintro v w' ⟨rfl, rfl⟩; exact h)
theorem wpListIn_build_pg (hF : WideF F) (hgd : o.guard = none) (ho : o.op = .build 24 #[]) (h : wpListIn F nn Tryd.prog ops Q rest (a.put o.dst (.agg (pgA VdM.blank))) w) : wpListIn F nn Tryd.prog ops Q (o :: rest) a w :=
  wpListIn_does hF hgd (by intro c; rw [ho]; simp) (R := fun v w' => v = .agg (pgA VdM.blank) ∧ w' = w) (does_build_pg ho ⟨rfl, rfl⟩) (by rintro v w' ⟨rfl, rfl⟩; exact h)
theorem wpListIn_store_pgrow (hF : WideF F) (hgd : o.guard = none) (x y : Operand) (ho : o.op = .store 24 x y) (g : Nat) (p old : Pg) (hx : a.eval x = .pointer (some ⟨g, 0, none⟩)) (hy : a.eval y = .agg (pgA p)) (hl : p.length = 256) (ho2 : old.length = 256) (hr : Row w g 24 (pgA old))
    (h : ∀ w', Row w' g 24 (pgA p) → w.grownBy w' (some g) → wpListIn F nn Tryd.prog ops Q rest (a.put o.dst undef) w') : wpListIn F nn Tryd.prog ops Q (o :: rest) a w :=
  wpListIn_does hF hgd (by intro c; rw [ho]; simp) (R := fun v w' => v = undef ∧ Row w' g 24 (pgA p) ∧ w.grownBy w' (some g))
    (does_store_row 24 x y ho g (pgA p) hx hy (pgA old) _ hr (by rw [pgA_size, hl]; exact pg_info) (by rw [pgA_size, pgA_size, hl, ho2]) (pgA_one p) fun w' h1 h2 => ⟨rfl, h1, h2⟩)
    (by rintro v w' ⟨rfl, h1, h2⟩; exact h w' h1 h2)
theorem wpListIn_append_els {α : Type} {s : Nat} {f : α → List Value} {P : Program} {t e : TypeId} {by' : Nat} (T : ElT P t e s by') (h1c : ∀ x : α, ∀ u ∈ f x, u.oneCell' = true) (hF : WideF F) (hgd : o.guard = none) (y x : Operand)
    (ho : o.op = .call { callee := .builtin .append, args := #[y, x], argTypes := #[t, t] }) (base B : Nat) (l m : List α) (hv : Own' e s f base w (a.eval y) l) (hx : Els s f B w (a.eval x) m)
    (hlen : l.length + m.length ≤ maxLen) (hby : (l.length + m.length) * by' ≤ 140737488355328) (hb : base ≤ w.heap.size)
    (h : ∀ v' w', Own' e s f base w' v' (l ++ m) → w.grownBy w' (a.eval y).ownBlock → (v'.ownBlock = (a.eval y).ownBlock ∨ v'.ownBlock = some w.heap.size) → wpListIn F nn P ops Q rest (a.put o.dst v') w') : wpListIn F nn P ops Q (o :: rest) a w :=
  wpListIn_does hF hgd (by intro c; rw [ho]; simp) (R := fun v' w' => Own' e s f base w' v' (l ++ m) ∧ w.grownBy w' (a.eval y).ownBlock ∧ (v'.ownBlock = (a.eval y).ownBlock ∨ v'.ownBlock = some w.heap.size))
    (does_append_els T h1c y x ho base B l m hv hx hlen hby hb fun v' w' h1 h2 h3 => ⟨h1, h2, h3⟩) (by rintro v w' ⟨h1, h2, h3⟩; exact h v w' h1 h2 h3)
end
end
end Go.Proofs.YtjcommodiihcdaaDoor
