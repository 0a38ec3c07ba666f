/- VdCopy -/
import Derived.Test.YtiagmlokocpboaaVdGreat
import Derived.Test.YtiagmlokocpboaaBaseA
import Derived.Laws.CopyOwn
import Derived.Laws.Tables
/- The document's Copy: a disk in memory of its own. -/
namespace Go.Proofs.Ytiagmlokocpboaa
open Go.RowKit
set_option linter.unusedVariables false
set_option linter.unusedSimpArgs false
/-- The value v is this disk, each of its rows in a block of the call's own (from base on), or nil. -/
def OwnDisk (base : Nat) (w : World) (v : Value) (d : Dk) : Prop :=
  ∃ pv cv bv, v = .agg #[pv, cv, bv, .bool d.off] ∧ Own' 40 256 pageE base w pv d.pages ∧ Own' 42 257 writeE base w cv d.cache ∧ Own' 3 1 intE base w bv d.bad
theorem OwnDisk.disk {base : Nat} {w : World} {v : Value} {d : Dk} (h : OwnDisk base w v d) : IsDisk w.heap.size w v d := by
  obtain ⟨pv, cv, bv, h0, h1, h2, h3⟩ := h
  exact ⟨pv, cv, bv, h0, h1.els, h2.els, h3.els⟩
theorem OwnDisk.grows {base : Nat} {w w' : World} {v : Value} {d : Dk} (h : OwnDisk base w v d) (hg : Grows w w') : OwnDisk base w' v d := by
  obtain ⟨pv, cv, bv, h0, h1, h2, h3⟩ := h
  exact ⟨pv, cv, bv, h0, h1.grows hg, h2.grows hg, h3.grows hg⟩
theorem OwnDisk.more {base b : Nat} {w : World} {v : Value} {d : Dk} (h : OwnDisk base w v d) (hb : b ≤ base) : OwnDisk b w v d := by
  obtain ⟨pv, cv, bv, h0, h1, h2, h3⟩ := h
  exact ⟨pv, cv, bv, h0, h1.more hb, h2.more hb, h3.more hb⟩
/-- A literal of no elements, just laid. -/
def NoneYet (base : Nat) (e : TypeId) (v : Value) (w : World) : Prop := ∃ g, v = .slice (some ⟨g, 0, none⟩) 0 0 ∧ base ≤ g ∧ Row w g e #[]
theorem NoneYet.mono (base : Nat) (e : TypeId) : ∀ v w w', NoneYet base e v w → Grows w w' → NoneYet base e v w' := fun v w w' ⟨g, e1, e2, e3⟩ hg => ⟨g, e1, e2, Row.grows e3 hg⟩
theorem own_mono {α : Type} {s : Nat} {f : α → List Value} (e : TypeId) (base : Nat) (l : List α) : ∀ v w w', Own' e s f base w v l → Grows w w' → Own' e s f base w' v l := fun v w w' h hg => h.grows hg
theorem does_append_els_new {α : Type} {s : Nat} {f : α → List Value} {P : Program} {t e : TypeId} {by' : Nat} (T : ElT P t e s by') (h1c : ∀ x : α, ∀ u ∈ f x, u.oneCell' = true) {base B : Nat} {w : World} {o : Oper} {ρ : Operand → Value} {m : List α} (y x : Operand)
    (ho : o.op = .call { callee := .builtin .append, args := #[y, x], argTypes := #[t, t] }) (hs : NoneYet base e (ρ y) w) (hx : Els s f B w (ρ x) m) (hlen : m.length ≤ 1000000) (hby : by' ≤ 1000) :
    Does P o ρ w fun v' w' => Grows w w' ∧ Own' e s f base w' v' m := by
  obtain ⟨g, e1, e2, e3⟩ := hs
  have m1 : m.length * by' ≤ 1000000 * 1000 := Nat.mul_le_mul hlen hby
  have m2 : (m.length + m.length / 4 + 192) * by' ≤ 2000000 * 1000 := Nat.mul_le_mul (by omega) hby
  obtain ⟨v', w', hrun, h2, h3⟩ := run_append_els_empty T h1c o.type e3 hx (by unfold maxLen; omega) (by omega) (by omega)
  unfold Does execOp
  simp only [ho, resolve, invoke, builtin, Sem.run_bind, Sem.run_pure, Result.andThen_ok, List.map_toArray, List.map_cons, List.map_nil, e1, hrun]
  exact ⟨h2, h3.more e2⟩
theorem setRow_grown (w : World) (g : Nat) (cs : Array Value) : w.grownBy (w.setRow g cs) (some g) :=
  ⟨rfl, rfl, rfl, by simp [World.setRow], fun k _ hk => setRow_other w g k cs (fun e => hk (by rw [e]))⟩
/-- A row of one's own stays where a block of another type is written. -/
theorem Own'.aside {α : Type} {e t : TypeId} {s : Nat} {f : α → List Value} {base g : Nat} {w w' : World} {v : Value} {l : List α} {cs : Array Value} (h : Own' e s f base w v l) (hg : w.grownBy w' (some g)) (hr : Row w g t cs) (hne : e ≠ t) : Own' e s f base w' v l := by
  refine ⟨h.1, h.2.kept hg (.inr fun hb => ?_)⟩
  rcases h.2.2 with ⟨rfl, _⟩ | ⟨g', cap', cur, rfl, _, hh, _⟩
  · cases hb
  · exact own_ne_row h.2 hr hne (by simpa [Value.ownBlock] using hb)
/-- A disk of one's own stays where another block of a disk is written. -/
theorem OwnDisk.beside {base : Nat} {w w' : World} {v : Value} {d : Dk} (h : OwnDisk base w v d) {j : Nat} (hg : w.grownBy w' (some j)) {cs : Array Value} (hr : Row w j 26 cs) : OwnDisk base w' v d := by
  obtain ⟨pv, cv, bv, h0, h1, h2, h3⟩ := h
  exact ⟨pv, cv, bv, h0, h1.aside hg hr (by decide), h2.aside hg hr (by decide), h3.aside hg hr (by decide)⟩
/-- A disk's block, as it is stored and told. -/
theorem disk_info : (Try.prog.info? 26).map (·.size) = some 4 := by kernel_rfl
set_option maxRecDepth 20000 in
set_option maxHeartbeats 2000000 in
theorem rcopy_any (v : Value) (d : Dk) (w : World) (hv : IsDisk w.heap.size w v d) (l1 : d.pages.length ≤ 1000000) (l2 : d.cache.length ≤ 1000000) (l3 : d.bad.length ≤ 1000000) :
    Calls Try.prog 35 #[v] w fun e w' => ∃ r, e = .returned r ∧ OwnDisk w.heap.size w' r d ∧ Grows w w' := by
  obtain ⟨pv, cv, bv, rfl, hp, hc, hb⟩ := hv
  have HP := Lib.hid hp; have HC := Lib.hid hc; have HB := Lib.hid hb
  have L1 := Lib.hid l1; have L2 := Lib.hid l2; have L3 := Lib.hid l3
  clear hp hc hb l1 l2 l3
  obtain ⟨ps, cs, bs, off⟩ := d
  simp only at *
  have RD : Hid (Row (w.alloc (.cells #[pv, cv, bv, .bool off] 26)) w.heap.size 26 #[pv, cv, bv, .bool off]) := Row.new w _ _
  have RZ : Hid (Row ((w.alloc (.cells #[pv, cv, bv, .bool off] 26)).alloc (.cells #[.slice none 0 0, .slice none 0 0, .slice none 0 0, .bool false] 26)) (w.heap.size + 1) 26 #[.slice none 0 0, .slice none 0 0, .slice none 0 0, .bool false]) := by
    have := Row.new (w.alloc (.cells #[pv, cv, bv, .bool off] 26)) 26 #[.slice none 0 0, .slice none 0 0, .slice none 0 0, .bool false]
    rwa [World.size_alloc] at this
  have RD2 := Lib.hid (RD.out.alloc (.cells #[.slice none 0 0, .slice none 0 0, .slice none 0 0, .bool false] 26))
  have HG := Lib.hid ((Grows.alloc w (.cells #[pv, cv, bv, .bool off] 26)).trans (Grows.alloc _ (.cells #[.slice none 0 0, .slice none 0 0, .slice none 0 0, .bool false] 26)))
  have b0 : _ = some pv := RD2.out.cell 0
  have b1 : _ = some cv := RD2.out.cell 1
  have b2 : _ = some bv := RD2.out.cell 2
  have b3 : _ = some (Value.bool off) := RD2.out.cell 3
  go_enter Try.func35, Try.ntmps35
  go_wp2
  generalize (w.alloc (.cells #[pv, cv, bv, .bool off] 26)).alloc (.cells #[.slice none 0 0, .slice none 0 0, .slice none 0 0, .bool false] 26) = W0 at *
  refine wp_region_free 14 18 (by kernel_rfl) (by kernel_rfl) rfl (by kernel_rfl) ?_; simp only [List.take_succ_cons, List.take_zero, List.drop_succ_cons, List.drop_zero]
  refine free_op (NoneYet w.heap.size 40) rfl (NoneYet.mono _ _) (fun vs wq hg hd => by
    (try simp [Region.binds] at hd); simp only [Does]; simp only [execOp, resolve, Option.map_some, Option.map_none, List.map_toArray, List.map_cons, List.map_nil, rho_const, rho_func]; (repeat (conv in rho _ _ _ _ (Operand.tmp _) => whnf)); (try simp only [hd]); go_simp; (repeat (conv in rho _ _ _ _ (Operand.tmp _) => whnf))
    exact ⟨Grows.alloc _ _, wq.heap.size, rfl, Nat.le_trans HG.out.size (Below.size (Grows.of_drew hg)), Row.new _ _ _⟩) ?_
  repeat (apply free_pure rfl; focus (intro vs w hg hd; have q0 := hg.cell b0; have q1 := hg.cell b1; have q2 := hg.cell b2; have q3 := hg.cell b3; (try simp [Region.binds] at hd); simp only [execOp, resolve, Option.map_some, Option.map_none, List.map_toArray, List.map_cons, List.map_nil, rho_const, rho_func]; (repeat (conv in rho _ _ _ _ (Operand.tmp _) => whnf)); (try simp only [hd]); go_simp; (repeat (conv in rho _ _ _ _ (Operand.tmp _) => whnf)); (try simp only [hd]); rfl))
  refine free_op (fun v_ w_ => Own' 40 256 pageE w.heap.size w_ v_ ps) rfl (own_mono _ _ _) (fun vs wq hg hd => by
    simp [Region.binds] at hd
    have hx : Els 256 pageE w.heap.size wq (vs 2) ps := by rw [hd.2]; exact HP.out.below (HG.out.trans (Grows.of_drew hg))
    refine does_append_els_new elT_page pageE_one (.tmp 3) (.tmp 5) (B := w.heap.size) (m := ps) rfl ?_ ?_ L1.out (by omega)
    · (conv in rho _ _ _ _ (Operand.tmp _) => whnf)
      exact hd.1
    · (conv in rho _ _ _ _ (Operand.tmp _) => whnf)
      exact hx) ?_
  refine free_op (NoneYet w.heap.size 42) rfl (NoneYet.mono _ _) (fun vs wq hg hd => by
    (try simp [Region.binds] at hd); simp only [Does]; simp only [execOp, resolve, Option.map_some, Option.map_none, List.map_toArray, List.map_cons, List.map_nil, rho_const, rho_func]; (repeat (conv in rho _ _ _ _ (Operand.tmp _) => whnf)); (try simp only [hd]); go_simp; (repeat (conv in rho _ _ _ _ (Operand.tmp _) => whnf))
    exact ⟨Grows.alloc _ _, wq.heap.size, rfl, Nat.le_trans HG.out.size (Below.size (Grows.of_drew hg)), Row.new _ _ _⟩) ?_
  repeat (apply free_pure rfl; focus (intro vs w hg hd; have q0 := hg.cell b0; have q1 := hg.cell b1; have q2 := hg.cell b2; have q3 := hg.cell b3; (try simp [Region.binds] at hd); simp only [execOp, resolve, Option.map_some, Option.map_none, List.map_toArray, List.map_cons, List.map_nil, rho_const, rho_func]; (repeat (conv in rho _ _ _ _ (Operand.tmp _) => whnf)); (try simp only [hd]); go_simp; (repeat (conv in rho _ _ _ _ (Operand.tmp _) => whnf)); (try simp only [hd]); rfl))
  refine free_op (fun v_ w_ => Own' 42 257 writeE w.heap.size w_ v_ cs) rfl (own_mono _ _ _) (fun vs wq hg hd => by
    simp [Region.binds] at hd
    have hx : Els 257 writeE w.heap.size wq (vs 6) cs := by rw [hd.2.1]; exact HC.out.below (HG.out.trans (Grows.of_drew hg))
    refine does_append_els_new elT_write writeE_one (.tmp 7) (.tmp 9) (B := w.heap.size) (m := cs) rfl ?_ ?_ L2.out (by omega)
    · (conv in rho _ _ _ _ (Operand.tmp _) => whnf)
      exact hd.1
    · (conv in rho _ _ _ _ (Operand.tmp _) => whnf)
      exact hx) ?_
  refine free_op (NoneYet w.heap.size 3) rfl (NoneYet.mono _ _) (fun vs wq hg hd => by
    (try simp [Region.binds] at hd); simp only [Does]; simp only [execOp, resolve, Option.map_some, Option.map_none, List.map_toArray, List.map_cons, List.map_nil, rho_const, rho_func]; (repeat (conv in rho _ _ _ _ (Operand.tmp _) => whnf)); (try simp only [hd]); go_simp; (repeat (conv in rho _ _ _ _ (Operand.tmp _) => whnf))
    exact ⟨Grows.alloc _ _, wq.heap.size, rfl, Nat.le_trans HG.out.size (Below.size (Grows.of_drew hg)), Row.new _ _ _⟩) ?_
  repeat (apply free_pure rfl; focus (intro vs w hg hd; have q0 := hg.cell b0; have q1 := hg.cell b1; have q2 := hg.cell b2; have q3 := hg.cell b3; (try simp [Region.binds] at hd); simp only [execOp, resolve, Option.map_some, Option.map_none, List.map_toArray, List.map_cons, List.map_nil, rho_const, rho_func]; (repeat (conv in rho _ _ _ _ (Operand.tmp _) => whnf)); (try simp only [hd]); go_simp; (repeat (conv in rho _ _ _ _ (Operand.tmp _) => whnf)); (try simp only [hd]); rfl))
  refine free_op (fun v_ w_ => Own' 3 1 intE w.heap.size w_ v_ bs) rfl (own_mono _ _ _) (fun vs wq hg hd => by
    simp [Region.binds] at hd
    have hx : Els 1 intE w.heap.size wq (vs 10) bs := by rw [hd.2.1]; exact HB.out.below (HG.out.trans (Grows.of_drew hg))
    refine does_append_els_new elT_int intE_one (.tmp 11) (.tmp 13) (B := w.heap.size) (m := bs) rfl ?_ ?_ L3.out (by omega)
    · (conv in rho _ _ _ _ (Operand.tmp _) => whnf)
      exact hd.1
    · (conv in rho _ _ _ _ (Operand.tmp _) => whnf)
      exact hx) ?_
  repeat (apply free_pure rfl; focus (intro vs w hg hd; have q0 := hg.cell b0; have q1 := hg.cell b1; have q2 := hg.cell b2; have q3 := hg.cell b3; (try simp [Region.binds] at hd); simp only [execOp, resolve, Option.map_some, Option.map_none, List.map_toArray, List.map_cons, List.map_nil, rho_const, rho_func]; (repeat (conv in rho _ _ _ _ (Operand.tmp _) => whnf)); (try simp only [hd]); go_simp; (repeat (conv in rho _ _ _ _ (Operand.tmp _) => whnf)); (try simp only [hd]); rfl))
  intro vs w' hg hv; have h3 := hv 3 (by omega); simp at h3; have h7 := hv 7 (by omega); simp at h7; have h11 := hv 11 (by omega); simp at h11; have h13 := hv 13 (by omega); simp at h13; simp only [putL, dstAt, List.range, List.range.loop, if_true, List.getElem?_toArray, List.getElem?_cons_zero, List.getElem?_cons_succ, Option.bind_some, Act.put, List.setIfInBounds_toArray, List.set_cons_zero, List.set_cons_succ]
  rw [h13]
  have H3 := Lib.hid h3; have H7 := Lib.hid h7; have H11 := Lib.hid h11
  have RZ' := Lib.hid (Row.grows RZ.out (Grows.of_drew hg))
  have HG' := Lib.hid (HG.out.trans (Grows.of_drew hg))
  clear hv h3 h7 h11 h13 hg b0 b1 b2 b3
  generalize vs 0 = z0, vs 1 = z1, vs 2 = z2, vs 3 = z3, vs 4 = z4, vs 5 = z5, vs 6 = z6, vs 7 = z7, vs 8 = z8, vs 9 = z9, vs 10 = z10, vs 11 = z11, vs 12 = z12 at *
  obtain ⟨A3, c3, rfl, _⟩ := H3.out.els.form
  obtain ⟨A7, c7, rfl, _⟩ := H7.out.els.form
  obtain ⟨A11, c11, rfl, _⟩ := H11.out.els.form
  have hone : Hid ((#[Value.slice A3 ps.length c3, Value.slice A7 cs.length c7, Value.slice A11 bs.length c11, Value.bool off] : Array Value).all (·.oneCell') = true) := by unfold Hid; simp [Value.oneCell']
  go_wp2_with (first
    | ((with_reducible refine wpList_store_row ?_ 26 (.tmp 2) (.tmp 17) ?_ (w.heap.size + 1) #[.slice A3 ps.length c3, .slice A7 cs.length c7, .slice A11 bs.length c11, .bool off] ?_ ?_ 26 #[.slice none 0 0, .slice none 0 0, .slice none 0 0, .bool false] ?_ ?_ ?_ ?_ ?_); exact rfl; exact rfl; exact rfl; exact rfl; exact RZ'.out; exact disk_info; exact rfl; exact hone.out))
  have G2 := setRow_grown w' (w.heap.size + 1) #[Value.slice A3 ps.length c3, Value.slice A7 cs.length c7, Value.slice A11 bs.length c11, Value.bool off]
  have R2 := RZ'.out.setRow #[Value.slice A3 ps.length c3, Value.slice A7 cs.length c7, Value.slice A11 bs.length c11, Value.bool off]
  refine bodyPost_ret (results_cell_row (p := 2) (by exact rfl) _ _ (w.heap.size + 1) 26 _ (0, 0) _ (by exact rfl) R2 Try.underlying26 rfl disk_info) rfl ?_
  exact ⟨_, rfl, ⟨_, _, _, rfl, H3.out.aside G2 RZ'.out (by decide), H7.out.aside G2 RZ'.out (by decide), H11.out.aside G2 RZ'.out (by decide)⟩, HG'.out.grown G2 HG'.out.size (fun k e => by cases e; exact Nat.le_succ _)⟩
end Go.Proofs.Ytiagmlokocpboaa
