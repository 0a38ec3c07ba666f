/- VdRead -/
import Derived.Test.YtnigflobmiiefaaDoorBaseA
import Derived.Test.YtnigflobmiiefaaDoorVdGreat
import Derived.Test.YtnigflobmiiefaaDoorVdRef
import Derived.Laws.Build
import Derived.Laws.CopyOwn
import Derived.Laws.Tables
/- The document's Read. -/
namespace Go.Proofs.YtnigflobmiiefaaDoor
open Go.RowKit
set_option linter.unusedVariables false
set_option linter.unusedSimpArgs false
theorem blank_len : VdM.blank.length = 256 := List.length_replicate
theorem zero_pg (w : World) : (zeroValue 29).run Tryd.prog w = .ok (.agg (pgA VdM.blank)) w := by kernel_rfl
theorem pg_info : (Tryd.prog.info? 29).map (·.size) = some 256 := by kernel_rfl
theorem pgA_one (p : Pg) : (pgA p).all (·.oneCell') = true := all_oneCell_toArray (pageE_one p)
section
variable {w : World} {ops : Array Oper} {rest : List Oper} {o : Oper} {a : Act} {Q : Exit → Act → World → Prop}
theorem built_pg : Tryd.prog.built 29 [] = some (pgA VdM.blank) := by kernel_rfl
theorem wpList_build_pg (hgd : o.guard = none) (ho : o.op = .build 29 #[]) (h : wpList Tryd.prog ops Q rest (a.put o.dst (.agg (pgA VdM.blank))) w) : wpList Tryd.prog ops Q (o :: rest) a w := by
  refine wpList_plain hgd fun K hK => ?_
  have e : Tryd.prog.built 29 ((#[] : Array (Nat × Operand)).map fun (i, x) => (i, a.eval x)).toList = some (pgA VdM.blank) := by simpa using built_pg
  refine wp_build 29 #[] ho (by rw [e]; rfl) ?_
  rw [e]
  exact hK _ _ h
theorem wpList_store_pgrow (hgd : o.guard = none) (x y : Operand) (ho : o.op = .store 29 x y) (g : Nat) (p old : Pg) (hx : a.eval x = .pointer (some ⟨g, 0, none⟩)) (hy : a.eval y = .agg (pgA p)) (hl : p.length = 256) (ho2 : old.length = 256) (hr : Row w g 29 (pgA old))
    (h : ∀ w', Row w' g 29 (pgA p) → w.grownBy w' (some g) → wpList Tryd.prog ops Q rest (a.put o.dst undef) w') : wpList Tryd.prog ops Q (o :: rest) a w :=
  wpList_store_row hgd 29 x y ho g (pgA p) hx hy 29 (pgA old) hr (by rw [pgA_size, hl]; exact pg_info) (by rw [pgA_size, pgA_size, hl, ho2]) (pgA_one p)
    (h _ (hr.setRow _) (setRow_grown _ _ _))
end
theorem results_pg_two {fn : Func} {p q : Tmp} {w : World} {g : Nat} {l : Pg} (h : fn.results = #[.cell p 29, .tmp q]) (tmps : Array Value) (v : Value) (hp : tmps.getD p undef = .pointer (some ⟨g, 0, none⟩)) (hq : tmps.getD q undef = v) (hl : l.length = 256) (hr : Row w g 29 (pgA l)) :
    (results fn tmps).run Tryd.prog w = .ok (.tuple #[.agg (pgA l), v]) w := by
  have hp' : tmps[p]?.getD undef = .pointer (some ⟨g, 0, none⟩) := by simpa using hp
  have hq' : tmps[q]?.getD undef = v := by simpa using hq
  have hload : (loadVar 29 ⟨g, 0, none⟩).run Tryd.prog w = .ok (.agg (pgA l)) w :=
    run_loadVar_row w g 29 29 (pgA l) (0, 0) _ hr Tryd.underlying29 rfl (by rw [pgA_size, hl]; exact pg_info)
  simp [results, h, hp', hq', asAddr, hload]
theorem range_data {W : World} {b o : Nat} {x : Int × Pg} (h : W.rangeAt b o (writeE x)) : W.rangeAt b (o + 1) (pageE x.2) := fun j v hv => by
  have := h (j + 1) v (by simpa [writeE, pageE] using hv)
  rwa [show o + (j + 1) = o + 1 + j by omega] at this
end Go.Proofs.YtnigflobmiiefaaDoor
