/- PackPagesAny -/
import Derived.Test.YtjcommodiihcdaaDoorPackBackAny
/- The law on pages, as a call. -/
namespace Go.Proofs.YtjcommodiihcdaaDoor
open Go.RowKit
set_option linter.unusedVariables false
set_option linter.unusedSimpArgs false
attribute [local go_sem high] sliced_cut
attribute [local go_sem] cutA_zero Nat.sub_zero
theorem does_load {P : Program} {ρ : Operand → Value} {o : Oper} {w : World} {R : Value → World → Prop} (ty : TypeId) (x : Operand) (a : Addr) (v : Value) (ho : o.op = .load ty x) (hx : ρ x = .pointer (some a)) (hl : (loadVar ty a).run P w = .ok v w) (hR : R v w) : Does P o ρ w R := by
  unfold Does execOp
  simp only [ho, hx, Instr.loadAt, Instr.sureAddr, Sem.run_bind, Sem.run_pure, Result.andThen_ok, hl]
  exact hR
theorem page_eql (l : List (BitVec 8)) (hl : l.length = 256) (w : World) : (binOp .eql 24 (.agg (pageA l)) (.agg (pageA l))).run Tryd.prog w = .ok (.bool true) w := by
  obtain ⟨i0, hi, _⟩ := info_u8
  exact run_eql_arr_self (P := Tryd.prog) (e := 5) (n := 256) (k := .u8) Tryd.underlying24 Tryd.underlying5 hi (by kernel_rfl) (pageA l) (fun j hj => ⟨_, pageA_get l j _ (List.getElem?_eq_getElem (by omega))⟩) w
theorem page_equalIn (l : List (BitVec 8)) (hl : l.length = 256) (w : World) : (Op.equalIn 10000 24 (.agg (pageA l)) (.agg (pageA l))).run Tryd.prog w = .ok true w := by
  obtain ⟨i0, hi, _⟩ := info_u8
  have hc : Tryd.prog.cellsOf 5 = 1 := by kernel_rfl
  rw [show (10000 : Nat) = 9999 + 1 from rfl, run_equalIn_array w 9999 (pageA l) (pageA l) Tryd.underlying24 hi, hc, eqItems_self 9998 Tryd.underlying5 (pageA l) w _ fun j hj => ⟨_, pageA_get l j _ (List.getElem?_eq_getElem (by have := List.mem_range.1 hj; omega))⟩]
section
variable {w : World} {o : Oper} {a : Act} {K : Act → World → Prop} {Q : Exit → Act → World → Prop}
theorem wp_load_page (x : Operand) (ho : o.op = .load 24 x) (g : Nat) (l : List (BitVec 8)) (hx : a.eval x = .pointer (some ⟨g, 0, none⟩)) (hr : PRow w g l) (h : K (a.put o.dst (.agg (pageA l))) w) : o.wp Tryd.prog a w K Q :=
  wp_load_row 24 x ho g hx 24 (pageA l) (0, 0) _ hr.2 Tryd.underlying24 rfl (by rw [pageA_size, hr.1]; exact page_info) h
theorem built_page : Tryd.prog.built 24 [] = some (pageA noughts) := by kernel_rfl
theorem wp_build_page (ho : o.op = .build 24 #[]) (h : K (a.put o.dst (.agg (pageA noughts))) w) : o.wp Tryd.prog a w K Q := by
  have e : Tryd.prog.built 24 ((#[] : Array (Nat × Operand)).map fun (i, x) => (i, a.eval x)).toList = some (pageA noughts) := by simpa using built_page
  refine wp_build 24 #[] ho (by rw [e]; rfl) ?_
  rw [e]
  exact h
end
theorem bytes_mono (l : List (BitVec 8)) : ∀ v w w', Bytes (World.heap w).size w v l → Grows w w' → Bytes (World.heap w').size w' v l := fun _ _ _ h hg => Bytes.more (Sl.below h hg) (Below.size hg)
theorem halves_self (old : List (BitVec 8)) : PackM.halves old old = old := List.take_append_drop 128 old
theorem halves_again (old now : List (BitVec 8)) (h : now.length = 256) (h' : old.length = 256) : PackM.halves (PackM.halves old now) now = PackM.halves old now := by
  unfold PackM.halves
  congr 1
  rw [List.drop_append_of_le_length (by rw [List.length_take]; omega), List.drop_eq_nil_of_le (by rw [List.length_take]; omega), List.nil_append]
/-- What a page has from a place on, as the language cuts it: at its end nothing, from its head on. -/
theorem PRow.cutAt {w : World} {g : Nat} {l : List (BitVec 8)} (h : PRow w g l) (k : Nat) (hk : k ≤ 256) : Bytes w.heap.size w (.slice (some (if 256 = k then ⟨g, 0, none⟩ else ⟨g, k, none⟩)) (256 - k) (256 - k)) (l.drop k) := by
  by_cases hk' : k = 256
  · subst hk'
    rw [if_pos rfl, List.drop_of_length_le (by rw [h.1]; exact Nat.le_refl _)]
    exact ⟨_, 0, rfl, Nat.le_refl _, Nat.zero_le _, fun hp => absurd hp (by simp)⟩
  · rw [if_neg (by omega)]
    exact h.tail k (256 - k) (by omega) rfl
end Go.Proofs.YtjcommodiihcdaaDoor
