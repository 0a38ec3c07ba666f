/- Cells Disk VdMath DiskOps DiskLay -/
import Derived.Test.YtiagmlokocpboaaBaseA
import Derived.Test.YtiagmlokocpboaaRows
import Derived.Deep.MidRow
import Derived.Maps.AppendAt
import Derived.Laws.OwnMore
import Derived.Laws.StructEq
import Derived.Deep.DeepAppendWide
import Derived.Lib.SmallJoins
import Derived.Great.FillDense
import Derived.Great.Walk
import Derived.Laws.Tables
/- Slices whose elements take several cells each: read, opened, copied by append. No function of the program. -/
namespace Go.Proofs.Ytiagmlokocpboaa
open Go.ChangeShapes Go.WideShapes Go.ChangeAt Go.RowKit Go.Deep
/-- The slice v holds the elements l; each stands in s cells, as f tells. -/
def Els {α : Type} (s : Nat) (f : α → List Value) (B : Nat) (W : World) (v : Value) (l : List α) : Prop :=
  (∀ x ∈ l, (f x).length = s) ∧ ∃ A cap, v = .slice A l.length cap ∧ l.length ≤ cap ∧ cap ≤ maxLen ∧
    (0 < l.length → ∃ b o, A = some ⟨b, o, none⟩ ∧ b < B ∧ W.rangeAt b o (l.flatMap f))
section
variable {α : Type} {s : Nat} {f : α → List Value}
theorem flat_length {l : List α} (h : ∀ x ∈ l, (f x).length = s) : (l.flatMap f).length = l.length * s := by
  induction l with
  | nil => simp
  | cons a l ih =>
    rw [List.flatMap_cons, List.length_append, h a (by simp), ih fun x hx => h x (by simp [hx]), List.length_cons, Nat.add_mul, Nat.one_mul, Nat.add_comm]
theorem flat_get {l : List α} (h : ∀ x ∈ l, (f x).length = s) : ∀ (j : Nat) (x : α), l[j]? = some x → ∀ i, i < s → (l.flatMap f)[j * s + i]? = (f x)[i]? := by
  induction l with
  | nil => intro j x hx; simp at hx
  | cons a l ih =>
    intro j x hx i hi
    have ha : (f a).length = s := h a (by simp)
    rw [List.flatMap_cons]
    cases j with
    | zero =>
      simp only [List.getElem?_cons_zero, Option.some.injEq] at hx
      subst hx
      rw [Nat.zero_mul, Nat.zero_add, List.getElem?_append_left (by omega)]
    | succ j =>
      simp only [List.getElem?_cons_succ] at hx
      have e : (j + 1) * s + i = (f a).length + (j * s + i) := by rw [ha, Nat.add_mul]; omega
      rw [e, List.getElem?_append_right (by omega), Nat.add_sub_cancel_left]
      exact ih (fun x hx => h x (by simp [hx])) j x hx i hi
theorem range_flat {W : World} {b o : Nat} {l : List α} (h : ∀ x ∈ l, (f x).length = s) (hr : W.rangeAt b o (l.flatMap f)) {j : Nat} {x : α} (hj : l[j]? = some x) : W.rangeAt b (o + j * s) (f x) := by
  intro i u hu
  have hx : (f x).length = s := h x (List.mem_of_getElem? hj)
  have hi : i < s := by have := (List.getElem?_eq_some_iff.1 hu).1; omega
  rw [Nat.add_assoc]
  exact hr _ _ ((flat_get h j x hj i hi).trans hu)
theorem rangeAt_keep {W W' : World} {b o : Nat} {cs : List Value} (h : W.rangeAt b o cs) (hk : ∀ p : Addr, p.block = b → W'.cell? p = W.cell? p) : W'.rangeAt b o cs := fun j v hv => (hk _ rfl).trans (h j v hv)
theorem Els.keep {B : Nat} {W W' : World} {v : Value} {l : List α} (h : Els s f B W v l) (hk : ∀ p : Addr, p.block < B → W'.cell? p = W.cell? p) : Els s f B W' v l := by
  obtain ⟨h0, A, cap, hv, h1, h2, h3⟩ := h
  refine ⟨h0, A, cap, hv, h1, h2, fun hp => ?_⟩
  obtain ⟨b, o, ha, hb, hr⟩ := h3 hp
  exact ⟨b, o, ha, hb, rangeAt_keep hr fun p hp => hk p (by omega)⟩
theorem Els.below {B : Nat} {W W' : World} {v : Value} {l : List α} (h : Els s f B W v l) (hb : Below B W W') : Els s f B W' v l := h.keep fun _ hp => hb.cell hp
theorem Els.more {B B' : Nat} {W : World} {v : Value} {l : List α} (h : Els s f B W v l) (hB : B ≤ B') : Els s f B' W v l := by
  obtain ⟨h0, A, cap, hv, h1, h2, h3⟩ := h
  refine ⟨h0, A, cap, hv, h1, h2, fun hp => ?_⟩
  obtain ⟨b, o, ha, hb, hr⟩ := h3 hp
  exact ⟨b, o, ha, by omega, hr⟩
theorem Els.grows {W W' : World} {v : Value} {l : List α} (h : Els s f W.heap.size W v l) (hg : Grows W W') : Els s f W'.heap.size W' v l := (h.below hg).more (Below.size hg)
theorem Els.nil (B : Nat) (W : World) : Els s f B W (.slice none 0 0) [] := ⟨fun _ h => by simp at h, none, 0, rfl, Nat.le_refl _, Nat.zero_le _, fun h => absurd h (by simp)⟩
theorem Els.form {B : Nat} {W : World} {v : Value} {l : List α} (h : Els s f B W v l) : ∃ A cap, v = .slice A l.length cap ∧ l.length ≤ cap ∧ cap ≤ maxLen ∧ (0 < l.length → ∃ b o, A = some ⟨b, o, none⟩ ∧ b < B ∧ ∀ j x, l[j]? = some x → W.rangeAt b (o + j * s) (f x)) := by
  obtain ⟨h0, A, cap, hv, h1, h2, h3⟩ := h
  refine ⟨A, cap, hv, h1, h2, fun hp => ?_⟩
  obtain ⟨b, o, ha, hb, hr⟩ := h3 hp
  exact ⟨b, o, ha, hb, fun j x hx => range_flat h0 hr hx⟩
/-- A slice that is read when a law begins. -/
theorem els_of_trod [Inhabited α] {H : Type} {enc : TypeId × Value → H} {P : Program} {W : World} {t e : TypeId} {fuel : Nat} {v : Value} {x : DataW H × List MemPlace} (ht : P.underlying t = some (.slice e)) (hc : P.cellsOf e = s) (hs : 0 < s)
    (each : ∀ (n : Nat) (cs : List Value) (y : DataW H × List MemPlace), cs.length = s → DataW.trod enc P W 0 (fun _ => true) true n e cs = some y → ∃ a : α, f a = cs)
    (h : DataW.trod enc P W 0 (fun _ => true) true fuel t [v] = some x) : ∃ l : List α, Els s f W.heap.size W v l := by
  rcases open_slice ht h with ⟨hcs, _⟩ | ⟨a, len, cap, m, n, D, Pl, hcs, _, hl, hm, hmm, _, hx⟩
  · simp only [List.cons.injEq, and_true] at hcs
    subst hcs
    exact ⟨[], Els.nil _ _⟩
  · simp only [List.cons.injEq, and_true] at hcs
    subst hcs
    simp only [if_true] at hmm
    rw [hc] at hx
    have all : ∀ i, i < len → ∃ z : α, (f z).length = s ∧ ∀ j, j < s → W.cell? ((a.add (i * s)).add j) = (f z)[j]? := fun i hi => by
      obtain ⟨cs', h1, h2⟩ := hx i (by omega)
      obtain ⟨_, h3, h4⟩ := World.cells?_some h1
      obtain ⟨z, rfl⟩ := each _ _ _ h3 h2
      exact ⟨z, h3, h4⟩
    obtain ⟨Z, hZ⟩ := choose_lt all
    have hmem : ∀ x ∈ (List.range len).map Z, (f x).length = s := by
      intro x hx
      obtain ⟨i, hi, rfl⟩ := List.mem_map.1 hx
      exact (hZ i (by simpa using hi)).1
    refine ⟨(List.range len).map Z, hmem, some a, cap, by simp, by simpa using hl, hm, fun hp => ?_⟩
    simp only [List.length_map, List.length_range] at hp
    have h0 := (hZ 0 hp).2 0 hs
    rw [Nat.zero_mul, show (a.add 0).add 0 = a by simp [Addr.add]] at h0
    have hl0 : 0 < (f (Z 0)).length := by rw [(hZ 0 hp).1]; exact hs
    rw [List.getElem?_eq_getElem hl0] at h0
    have ha := spot_none h0
    refine ⟨a.block, a.off, by rw [← ha], block_lt_of_cell h0, fun k u hu => ?_⟩
    have hk : k < len * s := by
      have := (List.getElem?_eq_some_iff.1 hu).1
      rw [flat_length hmem] at this
      simpa using this
    have hki : k / s < len := Nat.div_lt_of_lt_mul (by rw [Nat.mul_comm]; exact hk)
    have hkj : k % s < s := Nat.mod_lt _ hs
    have e : k = k / s * s + k % s := by rw [Nat.mul_comm]; exact (Nat.div_add_mod k s).symm
    have hg := flat_get (f := f) hmem (k / s) (Z (k / s)) (by rw [List.getElem?_map, List.getElem?_range hki]; rfl) (k % s) hkj
    rw [← e, hu] at hg
    have h3 := (hZ (k / s) hki).2 (k % s) hkj
    rw [← hg, ha, add_lit, add_lit, Nat.add_assoc, ← e] at h3
    exact h3
/-- What append needs of an element type. -/
structure ElT (P : Program) (t e : TypeId) (s by' : Nat) : Prop where
  und : P.underlying t = some (.slice e)
  info : ∃ i z, P.info? e = some i ∧ i.zero = some z ∧ i.size = s ∧ i.bytes = by' ∧ z.cells.size = s
  pos : 0 < s
theorem elT_mk {P : Program} {t e : TypeId} {s by' : Nat} (hu : P.underlying t = some (.slice e)) (h : (P.info? e).map (fun i => (i.zero.map (·.cells.size), i.size, i.bytes)) = some (some s, s, by')) (hs : 0 < s) : ElT P t e s by' := by
  refine ⟨hu, ?_, hs⟩
  obtain ⟨i, hi, hzz⟩ := Option.map_eq_some_iff.1 h
  simp only [Prod.mk.injEq] at hzz
  obtain ⟨h1, h2, h3⟩ := hzz
  obtain ⟨z, hz, hzs⟩ := Option.map_eq_some_iff.1 h1
  exact ⟨i, z, hi, hz, h2, h3, hzs⟩
/-- v holds these elements, in a block of the call's own (from base on), or is nil. -/
def Own' (e : TypeId) (s : Nat) (f : α → List Value) (base : Nat) (w : World) (v : Value) (l : List α) : Prop := (∀ x ∈ l, (f x).length = s) ∧ w.ownsRow base e s v l.length (l.flatMap f)
theorem Own'.els {e : TypeId} {base : Nat} {w : World} {v : Value} {l : List α} (h : Own' e s f base w v l) : Els s f w.heap.size w v l := by
  obtain ⟨h0, hl, h⟩ := h
  rcases h with ⟨rfl, h'⟩ | ⟨g, cap, cur, rfl, _, hh, h1, h2, h3, h4⟩
  · obtain rfl : l = [] := List.length_eq_zero_iff.1 h'
    exact Els.nil _ _
  · refine ⟨h0, _, cap, rfl, h1, h2, fun _ => ⟨g, 0, rfl, (Array.getElem?_eq_some_iff.1 hh).1, fun j u hu => ?_⟩⟩
    rw [Nat.zero_add, cell_of_row w g j cur e (0, 0) hh]
    have hj := (List.getElem?_eq_some_iff.1 hu).1
    rw [← h4, List.getElem?_take_of_lt (by omega)] at hu
    simpa using hu
theorem Own'.grows {e : TypeId} {base : Nat} {w w' : World} {v : Value} {l : List α} (h : Own' e s f base w v l) (hg : Grows w w') : Own' e s f base w' v l := ⟨h.1, own_grows h.2 hg⟩
theorem Own'.more {e : TypeId} {base b : Nat} {w : World} {v : Value} {l : List α} (h : Own' e s f base w v l) (hb : b ≤ base) : Own' e s f b w v l :=
  ⟨h.1, h.2.1, h.2.2.imp id fun ⟨g, cap, cur, h1, h2, h3⟩ => ⟨g, cap, cur, h1, Nat.le_trans hb h2, h3⟩⟩
/-- append onto a row of one's own, whatever elements. -/
theorem run_append_els {P : Program} {t e : TypeId} {by' : Nat} (T : ElT P t e s by') (h1c : ∀ x : α, ∀ u ∈ f x, u.oneCell' = true) {base B : Nat} {w : World} {v x : Value} {l m : List α} (ty : TypeId) (hv : Own' e s f base w v l) (hx : Els s f B w x m)
    (hlen : l.length + m.length ≤ maxLen) (hby : (l.length + m.length) * by' ≤ 140737488355328) (hb : base ≤ w.heap.size) :
    ∃ v' w', (Builtin.append_ #[t, t] ty #[v, x]).run P w = .ok v' w' ∧ Own' e s f base w' v' (l ++ m) ∧ w.grownBy w' v.ownBlock ∧ (v'.ownBlock = v.ownBlock ∨ v'.ownBlock = some w.heap.size) := by
  obtain ⟨i0, z, hi, hz0, hz1, hz2, hz3⟩ := T.info
  obtain ⟨hx0, A, cap, rfl, h1, h2, h3⟩ := hx
  have hall : ∀ y ∈ l ++ m, (f y).length = s := fun y hy => (List.mem_append.1 hy).elim (hv.1 y) (hx0 y)
  cases A with
  | none =>
    have hm : m = [] := by
      by_cases hp : 0 < m.length
      · obtain ⟨_, _, h, _⟩ := h3 hp; cases h
      · exact List.length_eq_zero_iff.1 (by omega)
    subst hm
    have hr : (Builtin.append_ #[t, t] ty #[v, .slice none 0 cap]).run P w = .ok v w := by
      have hv' := hv.2
      rcases hv'.2 with ⟨rfl, h0⟩ | ⟨g, cp, cur, rfl, _, _, hnc, _⟩
      · simp [Builtin.append_, run_underlying T.und, sizeOf, typeInfo, hi, Builtin.lenOf, Builtin.firstCells]
      · simp [Builtin.append_, run_underlying T.und, sizeOf, typeInfo, hi, Builtin.lenOf, Builtin.firstCells, hnc, storeCells]
    exact ⟨v, w, hr, by simpa using hv, World.grownBy.refl _ _, .inl rfl⟩
  | some a =>
    have hc : ∀ j u, (m.flatMap f)[j]? = some u → w.cell? (a.add j) = some u := fun j u hu => by
      have hp : 0 < m.length := by
        cases m with
        | nil => simp at hu
        | cons _ _ => simp
      obtain ⟨b, o, ha, _, hcell⟩ := h3 hp
      cases ha
      rw [add_lit]
      exact hcell j u hu
    obtain ⟨v', w', hr, ho, hg, _, hat⟩ := run_append_own_at (P := P) w base t ty e i0 z s by' T.und hi hz0 hz1 hz2 hz3 T.pos v l.length (l.flatMap f) hv.2 a m.length cap (m.flatMap f) (flat_length hx0) hc
      (fun u hu => by obtain ⟨y, _, hy⟩ := List.mem_flatMap.1 hu; exact h1c y u hy) hlen hby hb
    exact ⟨v', w', hr, ⟨hall, by rw [List.length_append, List.flatMap_append]; exact ho⟩, hg, hat⟩
/-- append onto a literal of no elements: nothing that lay before is turned. -/
theorem run_append_els_empty {P : Program} {t e : TypeId} {by' : Nat} (T : ElT P t e s by') (h1c : ∀ x : α, ∀ u ∈ f x, u.oneCell' = true) {B : Nat} {w : World} {g : Nat} {x : Value} {m : List α} (ty : TypeId) (hr : Row w g e #[]) (hx : Els s f B w x m)
    (hlen : m.length ≤ maxLen) (hby : m.length * by' ≤ 140737488355328) (hby2 : (m.length + m.length / 4 + 192) * by' ≤ 281474976710656) :
    ∃ v' w', (Builtin.append_ #[t, t] ty #[.slice (some ⟨g, 0, none⟩) 0 0, x]).run P w = .ok v' w' ∧ Grows w w' ∧ Own' e s f g w' v' m := by
  obtain ⟨i0, z, hi, hz0, hz1, hz2, hz3⟩ := T.info
  have hv : Own' e s f g w (.slice (some ⟨g, 0, none⟩) 0 0) ([] : List α) := ⟨fun _ h => by simp at h, by simp, .inr ⟨g, 0, #[], rfl, Nat.le_refl _, hr, Nat.le_refl _, Nat.zero_le _, by simp, by simp⟩⟩
  by_cases hm : m.length = 0
  · obtain rfl : m = [] := List.length_eq_zero_iff.1 hm
    obtain ⟨_, A, cap, rfl, h1, h2, h3⟩ := hx
    cases A with
    | none =>
      refine ⟨.slice (some ⟨g, 0, none⟩) 0 0, w, ?_, Grows.refl _, hv⟩
      simp [Builtin.append_, run_underlying T.und, sizeOf, typeInfo, hi, Builtin.lenOf, Builtin.firstCells, storeCells]
    | some a =>
      have hrun := run_append_room (P := P) w t ty e i0 T.und hi g 0 0 #[] hr a 0 cap [] (by simp) (fun j u hu => by simp at hu) (by simp) (by omega) (by simp)
      have he : ((#[] : Array Value).toList.take (0 * i0.size) ++ [] ++ (#[] : Array Value).toList.drop (0 * i0.size + ([] : List Value).length)).toArray = (#[] : Array Value) := by simp
      rw [he] at hrun
      have hrow := Row.setRow hr #[]
      refine ⟨_, _, hrun, ⟨rfl, rfl, rfl, by simp [World.setRow], fun k hk => ?_⟩, ⟨fun _ h => by simp at h, by simp, .inr ⟨g, 0, #[], rfl, Nat.le_refl _, hrow, Nat.le_refl _, Nat.zero_le _, by simp, by simp⟩⟩⟩
      by_cases hkg : k = g
      · subst hkg
        exact (Row.setRow hr _).trans hr.symm
      · exact setRow_other w g k _ hkg
  · have hx' := hx
    obtain ⟨hx0, A, cap, rfl, h1, h2, h3⟩ := hx
    obtain ⟨b, o, rfl, _, hcell⟩ := h3 (by omega)
    have hrun := run_append_grow (P := P) w t ty e i0 z T.und hi hz0 ⟨g, 0, none⟩ 0 0 [] (by simp) (fun j u hu => by simp at hu) ⟨b, o, none⟩ m.length cap (m.flatMap f) (by rw [hz1]; exact flat_length hx0) (fun j u hu => by rw [add_lit]; exact hcell j u hu) (by omega) (by unfold maxLen at hlen; omega)
      (growslice_fits_wide (by omega) (by rw [hz2, Nat.zero_add]; exact hby2))
    obtain ⟨v', w', hr', h2', h3', h4'⟩ := run_append_els T h1c ty hv hx' (by simpa using hlen) (by simpa using hby) (Nat.le_of_lt hr.lt)
    rw [hrun] at hr'
    injection hr' with e1 e2
    subst e1 e2
    exact ⟨_, _, hrun, (Grows.drew w).trans (Grows.alloc _ _), h2'⟩
theorem does_append_els_empty {P : Program} {t e : TypeId} {by' : Nat} (T : ElT P t e s by') (h1c : ∀ x : α, ∀ u ∈ f x, u.oneCell' = true) {B : Nat} {w : World} {o : Oper} {ρ : Operand → Value} {g : Nat} {m : List α} (y x : Operand)
    (ho : o.op = .call { callee := .builtin .append, args := #[y, x], argTypes := #[t, t] })
    (hs : ρ y = .slice (some ⟨g, 0, none⟩) 0 0) (hr : Row w g e #[]) (hx : Els s f B w (ρ x) m)
    (hlen : m.length ≤ maxLen) (hby : m.length * by' ≤ 140737488355328) (hby2 : (m.length + m.length / 4 + 192) * by' ≤ 281474976710656) :
    Does P o ρ w fun v' w' => Grows w w' ∧ Own' e s f g w' v' m := by
  obtain ⟨v', w', hrun, h2, h3⟩ := run_append_els_empty T h1c o.type hr hx hlen hby hby2
  unfold Does execOp
  simp only [ho, resolve, invoke, builtin, Sem.run_bind, Sem.run_pure, Result.andThen_ok, List.map_toArray, List.map_cons, List.map_nil, hs, hrun]
  exact ⟨h2, h3⟩
theorem wpList_append_els {P : Program} {t e : TypeId} {by' : Nat} (T : ElT P t e s by') (h1c : ∀ x : α, ∀ u ∈ f x, u.oneCell' = true) {w : World} {ops : Array Oper} {rest : List Oper} {o : Oper} {a : Act} {Q : Exit → Act → World → Prop} (hgd : o.guard = none) (y x : Operand)
    (ho : o.op = .call { callee := .builtin .append, args := #[y, x], argTypes := #[t, t] }) (base B : Nat) (l m : List α)
    (hv : Own' e s f base w (a.eval y) l) (hx : Els s f B w (a.eval x) m) (hlen : l.length + m.length ≤ maxLen) (hby : (l.length + m.length) * by' ≤ 140737488355328) (hb : base ≤ w.heap.size)
    (h : ∀ v' w', Own' e s f base w' v' (l ++ m) → w.grownBy w' (a.eval y).ownBlock → (v'.ownBlock = (a.eval y).ownBlock ∨ v'.ownBlock = some w.heap.size) → wpList P ops Q rest (a.put o.dst v') w') :
    wpList P ops Q (o :: rest) a w := by
  refine wpList_plain hgd fun K hK => ?_
  obtain ⟨v', w', hr, h2, h3, h4⟩ := run_append_els T h1c o.type hv hx hlen hby hb
  unfold Oper.wp execOp
  simp only [ho, resolve, invoke, builtin, Sem.run_bind, Sem.run_pure, Result.andThen_ok, List.map_toArray, List.map_cons, List.map_nil, hr]
  exact hK _ _ (h v' w' h2 h3 h4)
end
/-- Rows of numbers under the language's '=='. -/
theorem eqItems_ints {P : Program} (d : Nat) {e : TypeId} {k : IntKind} (he : P.underlying e = some (.int k)) (cs ds : Array Value) (w : World) : ∀ (is : List Nat) (F G : Nat → Int), (∀ j ∈ is, cs[j]? = some (.int k (F j)) ∧ ds[j]? = some (.int k (G j))) →
    (Op.eqItems (d + 1) e 1 cs ds is).run P w = .ok (is.all fun j => F j == G j) w
  | [], _, _, _ => by simp [Op.eqItems]
  | j :: is, F, G, h => by
    obtain ⟨h1, h2⟩ := h j (by simp)
    have hagg : (isAgg e).run P w = .ok false w := by
      unfold isAgg
      rw [Sem.run_bind, run_underlying he w]
      rfl
    have hp1 : (part e cs (j * 1)).run P w = .ok (.int k (F j)) w := by simp [part, hagg, h1]
    have hp2 : (part e ds (j * 1)).run P w = .ok (.int k (G j)) w := by simp [part, hagg, h2]
    have hq := run_equalIn_int (P := P) w d e k k (F j) (G j) he
    have ih := eqItems_ints d he cs ds w is F G fun j' hj' => h j' (by simp [hj'])
    simp only [Op.eqItems, Sem.run_bind, hp1, hp2, Result.andThen_ok, hq]
    by_cases hh : F j = G j
    · simpa [hh] using ih
    · simp [hh]
end Go.Proofs.Ytiagmlokocpboaa
/- Pages, writes, disks as values: what they hold, how a law's stand in the heap, the language's '==' on them. No function of the program. -/
namespace Go.Proofs.Ytiagmlokocpboaa
open Go.ChangeShapes Go.WideShapes Go.ChangeAt Go.RowKit Go.Deep Go.Joins
abbrev Pg := List (BitVec 8)
structure Dk where
  pages : List Pg
  cache : List (Int × Pg)
  bad : List Int
  off : Bool
def pageE (p : Pg) : List Value := p.map byteV
def writeE (x : Int × Pg) : List Value := .int .i64 x.1 :: x.2.map byteV
def intE (n : Int) : List Value := [.int .i64 n]
theorem pageE_one : ∀ x : Pg, ∀ u ∈ pageE x, u.oneCell' = true := fun x u hu => by
  obtain ⟨_, _, rfl⟩ := List.mem_map.1 hu
  rfl
theorem writeE_one : ∀ x : Int × Pg, ∀ u ∈ writeE x, u.oneCell' = true := fun x u hu => by
  rcases List.mem_cons.1 hu with rfl | hu
  · rfl
  · exact pageE_one x.2 u hu
theorem intE_one : ∀ x : Int, ∀ u ∈ intE x, u.oneCell' = true := fun x u hu => by
  rw [List.mem_singleton.1 hu]; rfl
/-- The value v is this disk. -/
def IsDisk (B : Nat) (W : World) (v : Value) (d : Dk) : Prop :=
  ∃ pv cv bv, v = .agg #[pv, cv, bv, .bool d.off] ∧ Els 256 pageE B W pv d.pages ∧ Els 257 writeE B W cv d.cache ∧ Els 1 intE B W bv d.bad
theorem IsDisk.below {B : Nat} {W W' : World} {v : Value} {d : Dk} (h : IsDisk B W v d) (hb : Below B W W') : IsDisk B W' v d := by
  obtain ⟨pv, cv, bv, h0, h1, h2, h3⟩ := h
  exact ⟨pv, cv, bv, h0, h1.below hb, h2.below hb, h3.below hb⟩
theorem IsDisk.more {B B' : Nat} {W : World} {v : Value} {d : Dk} (h : IsDisk B W v d) (hb : B ≤ B') : IsDisk B' W v d := by
  obtain ⟨pv, cv, bv, h0, h1, h2, h3⟩ := h
  exact ⟨pv, cv, bv, h0, h1.more hb, h2.more hb, h3.more hb⟩
theorem IsDisk.grows {W W' : World} {v : Value} {d : Dk} (h : IsDisk W.heap.size W v d) (hg : Grows W W') : IsDisk W'.heap.size W' v d := (h.below hg).more (Below.size hg)
theorem elT_page : ElT Try.prog 22 40 256 256 := elT_mk Try.underlying22 (by kernel_rfl) (by omega)
theorem elT_write : ElT Try.prog 23 42 257 264 := elT_mk Try.underlying23 (by kernel_rfl) (by omega)
theorem elT_int : ElT Try.prog 24 3 1 8 := elT_mk Try.underlying24 (by kernel_rfl) (by omega)
section
variable {H : Type} {enc : TypeId × Value → H} {W : World}
theorem page_of_cells {n : Nat} {cs : List Value} {y : DataW H × List MemPlace} (hl : cs.length = 256) (h : DataW.trod enc Try.prog W 0 (fun _ => true) true n 40 cs = some y) : ∃ p : Pg, pageE p = cs := by
  obtain ⟨xs, m, rfl, _, _, hxl, hx⟩ := DataW.trod_array Try.underlying40 h
  have hc : Try.prog.cellsOf 5 = 1 := by kernel_rfl
  have each : ∀ i, i < 256 → ∃ z : Int, cs[i]? = some (.int .u8 z) ∧ (Lit.int .u8 z).wf = true := by
    intro i hi
    have h1 := hx i hi
    rw [hc, Nat.mul_one] at h1
    have hi' : i < cs.length := by omega
    have h2 : (cs.drop i).take 1 = [cs[i]] := by
      rw [List.drop_eq_getElem_cons hi']; rfl
    rw [h2, List.getElem?_eq_getElem (by omega)] at h1
    obtain ⟨z, hz, _, hw⟩ := DataW.trod_int Try.underlying5 h1
    simp only [List.cons.injEq, and_true] at hz
    exact ⟨z, by rw [List.getElem?_eq_getElem hi', hz], hw⟩
  obtain ⟨Z, hZ⟩ := choose_lt each
  obtain ⟨l, h1, h2⟩ := bytes_of_ints ((List.range 256).map Z) fun z hz => by
    obtain ⟨i, hi, rfl⟩ := List.mem_map.1 hz
    exact (hZ i (by simpa using hi)).2
  refine ⟨l, ?_⟩
  unfold pageE
  rw [h2]
  apply List.ext_getElem
  · simp [hl]
  · intro i hi hi2
    have h3 := (hZ i (by omega)).1
    rw [List.getElem?_eq_getElem hi2] at h3
    simp only [Option.some.injEq] at h3
    simp [h3]
theorem write_of_cells {n : Nat} {cs : List Value} {y : DataW H × List MemPlace} (hl : cs.length = 257) (h : DataW.trod enc Try.prog W 0 (fun _ => true) true n 42 cs = some y) : ∃ x : Int × Pg, writeE x = cs := by
  obtain ⟨y0, y1, m, _, _, h0, h1⟩ := trod_struct2 Try.underlying42 h
  have c0 : Try.prog.cellsOf 3 = 1 := by kernel_rfl
  have c1 : Try.prog.cellsOf 40 = 256 := by kernel_rfl
  match cs, hl with
  | c :: cs, hl =>
    simp only [List.length_cons] at hl
    simp only [c0, List.drop_zero, List.take_succ_cons, List.take_zero] at h0
    simp only [c1, List.drop_succ_cons, List.drop_zero] at h1
    rw [List.take_of_length_le (by omega)] at h1
    obtain ⟨z, hz, _, hw⟩ := DataW.trod_int Try.underlying3 h0
    simp only [List.cons.injEq, and_true] at hz
    obtain ⟨p, hp⟩ := page_of_cells (by omega) h1
    exact ⟨(z, p), by unfold writeE; rw [hz, ← hp]; rfl⟩
theorem int_of_cells {n : Nat} {cs : List Value} {y : DataW H × List MemPlace} (hl : cs.length = 1) (h : DataW.trod enc Try.prog W 0 (fun _ => true) true n 3 cs = some y) : ∃ x : Int, intE x = cs := by
  match cs, hl with
  | [c], _ =>
    obtain ⟨z, hz, _, hw⟩ := DataW.trod_int Try.underlying3 h
    exact ⟨z, hz.symm⟩
/-- A disk that a law is given. -/
theorem open_disk {b0 : Nat} {v : Value} {d : DataW H} {ps : List MemPlace} (hval : Value.okWide Try.prog W .any b0 26 v) (hd : DataW.Trod enc Try.prog W 0 (fun _ => true) true 26 v d ps) : ∃ dk, IsDisk W.heap.size W v dk := by
  obtain ⟨v0, v1, v2, v3, y0, y1, y2, y3, n, rfl, _, _, h0, h1, h2, h3⟩ := open_agg4 Try.underlying26 (by kernel_rfl) (by kernel_rfl) hval hd
  obtain ⟨ps, hp⟩ := els_of_trod (f := pageE) Try.underlying22 (show Try.prog.cellsOf 40 = 256 by kernel_rfl) (by omega) (fun n cs y => page_of_cells) h0
  obtain ⟨cs, hc⟩ := els_of_trod (f := writeE) Try.underlying23 (show Try.prog.cellsOf 42 = 257 by kernel_rfl) (by omega) (fun n cs y => write_of_cells) h1
  obtain ⟨bs, hb⟩ := els_of_trod (f := intE) Try.underlying24 (show Try.prog.cellsOf 3 = 1 by kernel_rfl) (by omega) (fun n cs y => int_of_cells) h2
  obtain ⟨z, hz, _⟩ := DataW.trod_bool Try.underlying4 h3
  simp only [List.cons.injEq, and_true] at hz
  subst hz
  exact ⟨⟨ps, cs, bs, z⟩, _, _, _, rfl, hp, hc, hb⟩
end
end Go.Proofs.Ytiagmlokocpboaa
/- What may be said of a disk, as numbers. No function of the program. -/
namespace Go.Proofs.Ytiagmlokocpboaa
namespace VdM
def mayC (n : Nat) (c : List (Int × Pg)) : Bool := c.all fun x => decide (0 ≤ x.1) && decide (x.1 < n)
def okB (n : Nat) (l : List Int) (i : Nat) : Bool := decide (0 ≤ l[i]?.getD 0) && decide (l[i]?.getD 0 < n) && (decide (i = 0) || decide (l[i - 1]?.getD 0 < l[i]?.getD 0))
def mayB (n : Nat) (l : List Int) : Bool := (List.range l.length).all (okB n l)
def shape (d : Dk) : Bool := decide (32 ≤ d.pages.length) && decide (d.pages.length ≤ 256) && decide (d.cache.length ≤ 2000) && !(d.off && decide (0 < d.cache.length))
def may (d : Dk) : Bool := shape d && mayC d.pages.length d.cache && mayB d.pages.length d.bad
def great (d : Dk) : Bool := decide (300 < d.pages.length) || decide (60 < d.cache.length) || decide (300 < d.bad.length)
instance : DecidableEq Dk := fun a b => by
  obtain ⟨a1, a2, a3, a4⟩ := a
  obtain ⟨b1, b2, b3, b4⟩ := b
  exact decidable_of_iff (a1 = b1 ∧ a2 = b2 ∧ a3 = b3 ∧ a4 = b4) (by simp)
theorem mayC_step (n : Nat) (c : List (Int × Pg)) (k : Nat) (x : Int × Pg) (h : c[k]? = some x) : mayC n (c.take (k + 1)) = (mayC n (c.take k) && (decide (0 ≤ x.1) && decide (x.1 < n))) := by
  unfold mayC
  rw [List.take_add_one, h]
  simp
theorem mayC_false (n : Nat) (c : List (Int × Pg)) (k : Nat) (x : Int × Pg) (h : c[k]? = some x) (hx : ¬ (0 ≤ x.1 ∧ x.1 < n)) : mayC n c = false := by
  unfold mayC
  rw [List.all_eq_false]
  refine ⟨x, List.mem_of_getElem? h, ?_⟩
  simpa using hx
theorem mayB_false (n : Nat) (l : List Int) (k : Nat) (hk : k < l.length) (hx : okB n l k = false) : mayB n l = false := by
  unfold mayB
  rw [List.all_eq_false]
  exact ⟨k, List.mem_range.2 hk, by simp [hx]⟩
def atE (d : Dk) (n : Int) : Int := if may d = true ∧ 0 ≤ n ∧ n < d.pages.length then (if d.off then 30 else 0) else 2
def blank : Pg := List.replicate 256 0#8
/-- The last write at a place. -/
def lastW (c : List (Int × Pg)) (n : Int) : Option Pg := (c.reverse.find? fun x => x.1 == n).map (·.2)
def readP (d : Dk) (n : Int) : Pg := if atE d n = 0 then (match lastW d.cache n with | some p => p | none => if d.bad.contains n then blank else d.pages[n.toNat]?.getD blank) else blank
def readE (d : Dk) (n : Int) : Int := if atE d n = 0 then (match lastW d.cache n with | some _ => 0 | none => if d.bad.contains n then 31 else 0) else atE d n
theorem lastW_none (c : List (Int × Pg)) (n : Int) (h : c.all (fun x => !(x.1 == n)) = true) : lastW c n = none := by
  unfold lastW
  rw [List.find?_eq_none.2]
  · rfl
  · intro x hx
    have := List.all_eq_true.1 h x (List.mem_reverse.1 hx)
    simpa using this
theorem lastW_some (c : List (Int × Pg)) (n : Int) (k : Nat) (x : Int × Pg) (hk : c[k]? = some x) (hx : x.1 = n) (h : (c.drop (k + 1)).all (fun x => !(x.1 == n)) = true) : lastW c n = some x.2 := by
  have hlt := (List.getElem?_eq_some_iff.1 hk).1
  have e : c = c.take k ++ x :: c.drop (k + 1) := by
    have h2 := List.drop_eq_getElem_cons hlt
    rw [(List.getElem?_eq_some_iff.1 hk).2] at h2
    rw [← h2, List.take_append_drop]
  unfold lastW
  rw [e, List.reverse_append, List.reverse_cons, List.find?_append, List.find?_append, List.find?_eq_none.2]
  · simp [hx]
  · intro y hy
    have := List.all_eq_true.1 h y (List.mem_reverse.1 hy)
    simpa using this
theorem drop_all_step (c : List (Int × Pg)) (n : Int) (k : Nat) (x : Int × Pg) (hk : c[k]? = some x) (hx : ¬ x.1 = n) (h : (c.drop (k + 1)).all (fun x => !(x.1 == n)) = true) : (c.drop k).all (fun x => !(x.1 == n)) = true := by
  have hlt := (List.getElem?_eq_some_iff.1 hk).1
  rw [List.drop_eq_getElem_cons hlt, (List.getElem?_eq_some_iff.1 hk).2, List.all_cons, h]
  simpa using hx
theorem take_not_step (l : List Int) (n : Int) (k : Nat) (x : Int) (hk : l[k]? = some x) (hx : ¬ x = n) (h : (l.take k).contains n = false) : (l.take (k + 1)).contains n = false := by
  rw [List.take_add_one, hk]
  rw [List.contains_eq_mem, decide_eq_false_iff_not] at h ⊢
  simp only [Option.toList_some, List.mem_append, List.mem_singleton]
  rintro (h' | h')
  · exact h h'
  · exact hx h'.symm
theorem contains_of (l : List Int) (n : Int) (k : Nat) (hk : l[k]? = some n) : l.contains n = true := by
  rw [List.contains_eq_mem, decide_eq_true_iff]
  exact List.mem_of_getElem? hk
def writeErr (d : Dk) (n : Int) : Int := if atE d n = 0 ∧ d.cache.length = 2000 then 32 else atE d n
def writeD (d : Dk) (n : Int) (p : Pg) : Dk := if writeErr d n = 0 then { d with cache := d.cache ++ [(n, p)] } else d
end VdM
end Go.Proofs.Ytiagmlokocpboaa
/- Pages and writes under the language's '==', loaded and stored in the midst of a block. No function of the program. -/
namespace Go.Proofs.Ytiagmlokocpboaa
open Go.RowKit
theorem dk_load {P : Program} {ρ : Operand → Value} {o : Oper} {w : World} {R : Value → World → Prop} (ty : TypeId) (x : Operand) (a : Addr) (v : Value) (ho : o.op = .load ty x) (hx : ρ x = .pointer (some a)) (hl : (loadVar ty a).run P w = .ok v w) (hR : R v w) : Does P o ρ w R := by
  unfold Does execOp
  simp only [ho, hx, Instr.loadAt, Instr.sureAddr, Sem.run_bind, Sem.run_pure, Result.andThen_ok, hl]
  exact hR
theorem dk_mono (v : Value) : ∀ u (w w' : World), u = v → Grows w w' → u = v := fun _ _ _ h _ => h
theorem range_grows {W W' : World} {b o : Nat} {cs : List Value} (h : W.rangeAt b o cs) (hg : Grows W W') : W'.rangeAt b o cs := fun j v hv => hg.cell (h j v hv)
def pgA (p : Pg) : Array Value := (pageE p).toArray
def wrA (x : Int × Pg) : Array Value := (writeE x).toArray
theorem pgA_size (p : Pg) : (pgA p).size = p.length := by simp [pgA, pageE]
theorem wrA_size (x : Int × Pg) : (wrA x).size = x.2.length + 1 := by simp [wrA, writeE]
theorem pageE_len (p : Pg) : (pageE p).length = p.length := by simp [pageE]
theorem writeE_len (x : Int × Pg) : (writeE x).length = x.2.length + 1 := by simp [writeE]
theorem info_u8' : ∃ i, Try.prog.info? 5 = some i := Option.isSome_iff_exists.1 (by kernel_rfl)
theorem pages_equalIn (d : Nat) (a b : Pg) (ha : a.length = 256) (hb : b.length = 256) (w : World) : (Op.equalIn (d + 2) 40 (.agg (pgA a)) (.agg (pgA b))).run Try.prog w = .ok (decide (a = b)) w := by
  obtain ⟨i0, hi⟩ := info_u8'
  have hc : Try.prog.cellsOf 5 = 1 := by kernel_rfl
  rw [run_equalIn_array w (d + 1) (pgA a) (pgA b) Try.underlying40 hi, hc,
    eqItems_ints d Try.underlying5 (pgA a) (pgA b) w (List.range 256) (fun j => bI (a[j]?.getD 0)) (fun j => bI (b[j]?.getD 0)) fun j hj => by
      have hj := List.mem_range.1 hj
      have e1 : a[j]? = some (a[j]'(by omega)) := List.getElem?_eq_getElem (by omega)
      have e2 : b[j]? = some (b[j]'(by omega)) := List.getElem?_eq_getElem (by omega)
      simp [pgA, pageE, byteV, e1, e2]]
  congr 1
  rw [Bool.eq_iff_iff, List.all_eq_true]
  simp only [beq_iff_eq, decide_eq_true_eq, List.mem_range]
  constructor
  · intro h
    apply List.ext_getElem (by omega)
    intro i h1 h2
    have := bI_inj (h i (by omega))
    rwa [List.getElem?_eq_getElem h1, List.getElem?_eq_getElem h2] at this
  · rintro rfl _ _; rfl
theorem page_eq_run (a b : Pg) (ha : a.length = 256) (hb : b.length = 256) (w : World) : (Op.equalIn 10000 40 (.agg (pgA a)) (.agg (pgA b))).run Try.prog w = .ok (decide (a = b)) w := pages_equalIn 9998 a b ha hb w
theorem part_page (x : Int × Pg) (hx : x.2.length = 256) (w : World) : (part 40 (wrA x) 1).run Try.prog w = .ok (.agg (pgA x.2)) w := by
  have hagg : (isAgg 40).run Try.prog w = .ok true w := by
    unfold isAgg
    rw [Sem.run_bind, run_underlying Try.underlying40 w]
    rfl
  obtain ⟨i, hi, hs⟩ : ∃ i, Try.prog.info? 40 = some i ∧ i.size = 256 := Option.map_eq_some_iff.1 (show (Try.prog.info? 40).map (·.size) = some 256 by kernel_rfl)
  have he : (wrA x).extract 1 257 = pgA x.2 := by
    apply Array.ext'
    rw [Array.toList_extract]
    simp only [wrA, writeE, pgA, pageE, List.extract]
    exact List.take_of_length_le (by simp [hx])
  simp [part, hagg, sizeOf, typeInfo, hi, hs, he]
theorem write_eq_run (a b : Int × Pg) (ha : a.2.length = 256) (hb : b.2.length = 256) (w : World) : (Op.equalIn 10000 42 (.agg (wrA a)) (.agg (wrA b))).run Try.prog w = .ok (decide (a = b)) w := by
  have hf : (Try.prog.fieldsOf 42).toList.map (fun f => (f.name, f.type, f.offset)) = [("At", 3, 0), ("Data", 40, 1)] := by kernel_rfl
  rw [show (10000 : Nat) = 9999 + 1 from rfl, run_equalIn_struct w 9999 _ _ _ (show Try.prog.underlying 42 = some (.struct (Try.prog.fieldsOf 42)) by unfold Program.fieldsOf; rw [Try.underlying42]) (by kernel_rfl)]
  generalize (Try.prog.fieldsOf 42).toList = fs at *
  rcases fs with _ | ⟨f0, _ | ⟨f1, _ | ⟨f2, fs⟩⟩⟩
  · simp at hf
  · simp at hf
  · simp only [List.map_cons, List.map_nil, List.cons.injEq, Prod.mk.injEq, and_true] at hf
    obtain ⟨⟨n0, t0, o0⟩, n1, t1, o1⟩ := hf
    have hagg : (isAgg 3).run Try.prog w = .ok false w := by
      unfold isAgg
      rw [Sem.run_bind, run_underlying Try.underlying3 w]
      rfl
    have p1 : (part 3 (wrA a) 0).run Try.prog w = .ok (.int .i64 a.1) w := by simp [part, hagg, wrA, writeE]
    have p2 : (part 3 (wrA b) 0).run Try.prog w = .ok (.int .i64 b.1) w := by simp [part, hagg, wrA, writeE]
    have q : (Op.equalIn 9999 3 (.int .i64 a.1) (.int .i64 b.1)).run Try.prog w = .ok (a.1 == b.1) w := run_equalIn_int (P := Try.prog) w 9998 3 .i64 .i64 a.1 b.1 Try.underlying3
    have q2 : (Op.equalIn 9999 40 (.agg (pgA a.2)) (.agg (pgA b.2))).run Try.prog w = .ok (decide (a.2 = b.2)) w := pages_equalIn 9997 a.2 b.2 ha hb w
    simp [Op.eqFields, n0, n1, t0, t1, o0, o1, p1, p2, q, part_page a ha, part_page b hb, q2]
    obtain ⟨a1, a2⟩ := a
    obtain ⟨b1, b2⟩ := b
    by_cases h1 : a1 = b1 <;> by_cases h2 : a2 = b2 <;> simp [h1, h2]
  · simp at hf
theorem dk_neq_writes {ρ : Operand → Value} {o : Oper} {w : World} (x y : Operand) (p q : Int × Pg) (ty : TypeId) (ho : o.op = .binOp .neq 42 x y ty) (hx : ρ x = .agg (wrA p)) (hy : ρ y = .agg (wrA q)) (hp : p.2.length = 256) (hq : q.2.length = 256) :
    Does Try.prog o ρ w fun v' w' => Grows w w' ∧ v' = .bool (!decide (p = q)) := by
  have h := write_eq_run p q hp hq w
  have h2 : (binOp .neq 42 (.agg (wrA p)) (.agg (wrA q))).run Try.prog w = .ok (.bool (!decide (p = q))) w := by
    rw [run_neq_struct, h]; rfl
  have hT : Try.prog.eqGuardType Try.prog.depth 42 = false := by kernel_rfl
  have hgd : (eqGuard .neq 42 x y (.agg (wrA p)) (.agg (wrA q))).run Try.prog w = .ok () w := by
    unfold eqGuard
    simp [hT]
  unfold Does execOp
  simp only [ho, hx, hy, hgd, h2, Sem.run_bind, Sem.run_pure, Result.andThen_ok]
  exact ⟨Grows.refl _, trivial⟩
section
variable {w : World} {b o : Nat}
theorem page_run_load {p : Pg} (hl : p.length = 256) (h : w.rangeAt b o (pageE p)) : (loadVar 40 ⟨b, o, none⟩).run Try.prog w = .ok (.agg (pgA p)) w :=
  run_loadVar_mid w b o 40 (pageE p) _ h Try.underlying40 rfl (by rw [pageE_len, hl]; kernel_rfl)
theorem write_run_load {x : Int × Pg} (hl : x.2.length = 256) (h : w.rangeAt b o (writeE x)) : (loadVar 42 ⟨b, o, none⟩).run Try.prog w = .ok (.agg (wrA x)) w :=
  run_loadVar_mid w b o 42 (writeE x) _ h Try.underlying42 rfl (by rw [writeE_len, hl]; kernel_rfl)
section
variable {ops : Array Oper} {rest : List Oper} {op : Oper} {a : Act} {Q : Exit → Act → World → Prop}
theorem wpList_load_pg (hgd : op.guard = none) (x : Operand) (ho : op.op = .load 40 x) (b o : Nat) (p : Pg) (hx : a.eval x = .pointer (some ⟨b, o, none⟩)) (hl : p.length = 256) (hr : w.rangeAt b o (pageE p))
    (h : wpList Try.prog ops Q rest (a.put op.dst (.agg (pgA p))) w) : wpList Try.prog ops Q (op :: rest) a w :=
  wpList_load_mid hgd 40 x ho b o hx (pageE p) _ hr Try.underlying40 rfl (by rw [pageE_len, hl]; kernel_rfl) h
theorem wpList_load_wr (hgd : op.guard = none) (x : Operand) (ho : op.op = .load 42 x) (b o : Nat) (p : Int × Pg) (hx : a.eval x = .pointer (some ⟨b, o, none⟩)) (hl : p.2.length = 256) (hr : w.rangeAt b o (writeE p))
    (h : wpList Try.prog ops Q rest (a.put op.dst (.agg (wrA p))) w) : wpList Try.prog ops Q (op :: rest) a w :=
  wpList_load_mid hgd 42 x ho b o hx (writeE p) _ hr Try.underlying42 rfl (by rw [writeE_len, hl]; kernel_rfl) h
theorem wpList_store_pg (hgd : op.guard = none) (x y : Operand) (ho : op.op = .store 40 x y) (b o : Nat) (p : Pg) (hx : a.eval x = .pointer (some ⟨b, o, none⟩)) (hy : a.eval y = .agg (pgA p)) (hl : p.length = 256) (ht : w.there b o 256)
    (h : wpList Try.prog ops Q rest (a.put op.dst undef) (w.setCells b o (pageE p))) : wpList Try.prog ops Q (op :: rest) a w :=
  wpList_store_mid hgd 40 x y ho b o (pgA p) hx hy (by rw [pgA_size, hl]; exact ht) (by rw [pgA_size, hl]; kernel_rfl) (all_oneCell_toArray (pageE_one p)) (by simpa [pgA] using h)
end
end
end Go.Proofs.Ytiagmlokocpboaa
/- A write as it is put together, and a slice of one write. No function of the program. -/
namespace Go.Proofs.Ytiagmlokocpboaa
open Go.RowKit
theorem fill_two {places : Nat → Option (Nat × Nat)} {n : Nat} (p0 : places 0 = some (0, 1)) (p1 : places 1 = some (1, n)) (z : Array Value) (hz : z.size = n + 1) (u : Value) (hu : u.cells = #[u]) (v : Array Value) (hv : v.size = n) :
    Instr.fill places z [(0, u), (1, .agg v)] = some (u :: v.toList).toArray := by
  have h1 : (Value.agg v).cells = v := rfl
  unfold Instr.fill
  simp only [p0, hu]
  rw [if_neg (by simp; first | omega | (rintro rfl; simp at hz))]
  unfold Instr.fill
  simp only [p1, h1]
  rw [if_neg (by
    simp only [hv]
    have hs : (Array.foldl (fun cs (x : Value × Nat) => cs.setIfInBounds (0 + x.2) x.1) z (#[u].zipIdx)).size = n + 1 := by rw [← Array.foldl_toList, Array.toList_zipIdx]; exact (Great.foldl_set 0 [u] 0 z).1.trans hz
    simp only [hs]
    simp
    omega)]
  unfold Instr.fill
  congr 1
  rw [← Array.foldl_toList, Array.toList_zipIdx, ← Array.foldl_toList, Array.toList_zipIdx]
  obtain ⟨a1, a2⟩ := Great.foldl_set 0 [u] 0 z
  obtain ⟨b1, b2⟩ := Great.foldl_set 1 v.toList 0 (([u].zipIdx 0).foldl (fun cs (x : Value × Nat) => cs.setIfInBounds (0 + x.2) x.1) z)
  apply Array.ext_getElem?
  intro k
  refine (b2 k).trans ?_
  rw [a2 k, a1]
  simp only [List.length_cons, List.length_nil, Array.length_toList]
  cases k with
  | zero => simp [hz]
  | succ k =>
    by_cases hk : k < n
    · rw [if_pos (by omega)]
      simp
    · rw [if_neg (by omega), if_neg (by omega), Array.getElem?_eq_none (by omega)]
      simp
      omega
theorem built_write (n : Int) (p : Pg) (hl : p.length = 256) : Try.prog.built 42 [(0, .int .i64 n), (1, .agg (pgA p))] = some (wrA (n, p)) := by
  have hi : (Try.prog.info? 42).bind (fun i => i.zero.map (·.cells.size)) = some 257 := by kernel_rfl
  obtain ⟨it, hit, hz⟩ := Option.bind_eq_some_iff.1 hi
  obtain ⟨z, hz, hzs⟩ := Option.map_eq_some_iff.1 hz
  have hp : (Try.prog.fieldsOf 42).toList.mapM (fun f => (Try.prog.info? f.type).map fun i => (f.offset, i.size)) = some [(0, 1), (1, 256)] := by kernel_rfl
  have hu : Try.prog.underlying 42 = some (.struct (Try.prog.fieldsOf 42)) := by unfold Program.fieldsOf; rw [Try.underlying42]
  unfold Program.built
  rw [hit, hu]
  simp only [hz, hp]
  rw [fill_two (n := 256) rfl rfl z.cells (by rw [hzs]) _ rfl (pgA p) (by rw [pgA_size, hl])]
  rfl
theorem builtSlice_write (x : Int × Pg) (hl : x.2.length = 256) : Try.prog.builtSlice 42 1 [(0, .agg (wrA x))] = some (wrA x) := by
  have hi : (Try.prog.info? 42).bind (fun i => i.zero.map (fun z => (z.cells.size, i.size))) = some (257, 257) := by kernel_rfl
  obtain ⟨it, hit, hz⟩ := Option.bind_eq_some_iff.1 hi
  obtain ⟨z, hz, hzs⟩ := Option.map_eq_some_iff.1 hz
  simp only [Prod.mk.injEq] at hzs
  obtain ⟨h1, h2⟩ := hzs
  unfold Program.builtSlice
  rw [hit]
  simp only [hz, h2, Nat.one_mul]
  rw [if_neg (by omega)]
  have := Great.fill_whole (s := 257) (by omega) [.agg (wrA x)] ((Array.range 257).map (z.cells[· % z.cells.size]!)) (by intro v hv; rw [List.mem_singleton.1 hv]; show (wrA x).size = 257; rw [wrA_size, hl]) (by simp)
  simp only [List.zipIdx_cons, List.zipIdx_nil, List.map_cons, List.map_nil] at this
  rw [this]
  simp [Value.cells, wrA]
end Go.Proofs.Ytiagmlokocpboaa
