/- Slices whose elements take several cells each: read, opened, copied by append. No function of the program. -/
import Derived.Test.YtfcghkmhcfgfkaaMem
import Derived.Test.YtfcghkmhcfgfkaaOpen
import Derived.Test.YtfcghkmhcfgfkaaFree
import Derived.Test.YtfcghkmhcfgfkaaArrEq
import Derived.Deep.MidRow
import Derived.Maps.AppendAt
import Derived.Laws.OwnMore
import Derived.Laws.StructEq
import Derived.Deep.DeepAppendWide
namespace Go.Proofs.Ytfcghkmhcfgfkaa
open Go.ChangeShapes Go.WideShapes Go.ChangeAt Go.RowKit Go.Deep
/-- The slice v holds the elements l; each stands in s cells, as f tells. -/
def Els {α : Type} (s : Nat) (f : α → List Value) (B : Nat) (W : World) (v : Value) (l : List α) : Prop :=
  (∀ x ∈ l, (f x).length = s) ∧ ∃ A cap, v = .slice A l.length cap ∧ l.length ≤ cap ∧ cap ≤ maxLen ∧
    (0 < l.length → ∃ b o, A = some ⟨b, o, none⟩ ∧ b < B ∧ W.rangeAt b o (l.flatMap f))
section
variable {α : Type} {s : Nat} {f : α → List Value}
theorem flat_length {l : List α} (h : ∀ x ∈ l, (f x).length = s) : (l.flatMap f).length = l.length * s := by
  induction l with
  | nil => simp
  | cons a l ih =>
    rw [List.flatMap_cons, List.length_append, h a (by simp), ih fun x hx => h x (by simp [hx]), List.length_cons, Nat.add_mul, Nat.one_mul, Nat.add_comm]
theorem flat_get {l : List α} (h : ∀ x ∈ l, (f x).length = s) : ∀ (j : Nat) (x : α), l[j]? = some x → ∀ i, i < s → (l.flatMap f)[j * s + i]? = (f x)[i]? := by
  induction l with
  | nil => intro j x hx; simp at hx
  | cons a l ih =>
    intro j x hx i hi
    have ha : (f a).length = s := h a (by simp)
    rw [List.flatMap_cons]
    cases j with
    | zero =>
      simp only [List.getElem?_cons_zero, Option.some.injEq] at hx
      subst hx
      rw [Nat.zero_mul, Nat.zero_add, List.getElem?_append_left (by omega)]
    | succ j =>
      simp only [List.getElem?_cons_succ] at hx
      have e : (j + 1) * s + i = (f a).length + (j * s + i) := by rw [ha, Nat.add_mul]; omega
      rw [e, List.getElem?_append_right (by omega), Nat.add_sub_cancel_left]
      exact ih (fun x hx => h x (by simp [hx])) j x hx i hi
theorem range_flat {W : World} {b o : Nat} {l : List α} (h : ∀ x ∈ l, (f x).length = s) (hr : W.rangeAt b o (l.flatMap f)) {j : Nat} {x : α} (hj : l[j]? = some x) : W.rangeAt b (o + j * s) (f x) := by
  intro i u hu
  have hx : (f x).length = s := h x (List.mem_of_getElem? hj)
  have hi : i < s := by have := (List.getElem?_eq_some_iff.1 hu).1; omega
  rw [Nat.add_assoc]
  exact hr _ _ ((flat_get h j x hj i hi).trans hu)
theorem rangeAt_keep {W W' : World} {b o : Nat} {cs : List Value} (h : W.rangeAt b o cs) (hk : ∀ p : Addr, p.block = b → W'.cell? p = W.cell? p) : W'.rangeAt b o cs := fun j v hv => (hk _ rfl).trans (h j v hv)
theorem Els.keep {B : Nat} {W W' : World} {v : Value} {l : List α} (h : Els s f B W v l) (hk : ∀ p : Addr, p.block < B → W'.cell? p = W.cell? p) : Els s f B W' v l := by
  obtain ⟨h0, A, cap, hv, h1, h2, h3⟩ := h
  refine ⟨h0, A, cap, hv, h1, h2, fun hp => ?_⟩
  obtain ⟨b, o, ha, hb, hr⟩ := h3 hp
  exact ⟨b, o, ha, hb, rangeAt_keep hr fun p hp => hk p (by omega)⟩
theorem Els.below {B : Nat} {W W' : World} {v : Value} {l : List α} (h : Els s f B W v l) (hb : Below B W W') : Els s f B W' v l := h.keep fun _ hp => hb.cell hp
theorem Els.more {B B' : Nat} {W : World} {v : Value} {l : List α} (h : Els s f B W v l) (hB : B ≤ B') : Els s f B' W v l := by
  obtain ⟨h0, A, cap, hv, h1, h2, h3⟩ := h
  refine ⟨h0, A, cap, hv, h1, h2, fun hp => ?_⟩
  obtain ⟨b, o, ha, hb, hr⟩ := h3 hp
  exact ⟨b, o, ha, by omega, hr⟩
theorem Els.grows {W W' : World} {v : Value} {l : List α} (h : Els s f W.heap.size W v l) (hg : Grows W W') : Els s f W'.heap.size W' v l := (h.below hg).more (Below.size hg)
theorem Els.nil (B : Nat) (W : World) : Els s f B W (.slice none 0 0) [] := ⟨fun _ h => by simp at h, none, 0, rfl, Nat.le_refl _, Nat.zero_le _, fun h => absurd h (by simp)⟩
theorem Els.form {B : Nat} {W : World} {v : Value} {l : List α} (h : Els s f B W v l) : ∃ A cap, v = .slice A l.length cap ∧ l.length ≤ cap ∧ cap ≤ maxLen ∧ (0 < l.length → ∃ b o, A = some ⟨b, o, none⟩ ∧ b < B ∧ ∀ j x, l[j]? = some x → W.rangeAt b (o + j * s) (f x)) := by
  obtain ⟨h0, A, cap, hv, h1, h2, h3⟩ := h
  refine ⟨A, cap, hv, h1, h2, fun hp => ?_⟩
  obtain ⟨b, o, ha, hb, hr⟩ := h3 hp
  exact ⟨b, o, ha, hb, fun j x hx => range_flat h0 hr hx⟩
/-- A slice that is read when a law begins. -/
theorem els_of_trod [Inhabited α] {H : Type} {enc : TypeId × Value → H} {P : Program} {W : World} {t e : TypeId} {fuel : Nat} {v : Value} {x : DataW H × List MemPlace} (ht : P.underlying t = some (.slice e)) (hc : P.cellsOf e = s) (hs : 0 < s)
    (each : ∀ (n : Nat) (cs : List Value) (y : DataW H × List MemPlace), cs.length = s → DataW.trod enc P W 0 (fun _ => true) true n e cs = some y → ∃ a : α, f a = cs)
    (h : DataW.trod enc P W 0 (fun _ => true) true fuel t [v] = some x) : ∃ l : List α, Els s f W.heap.size W v l := by
  rcases open_slice ht h with ⟨hcs, _⟩ | ⟨a, len, cap, m, n, D, Pl, hcs, _, hl, hm, hmm, _, hx⟩
  · simp only [List.cons.injEq, and_true] at hcs
    subst hcs
    exact ⟨[], Els.nil _ _⟩
  · simp only [List.cons.injEq, and_true] at hcs
    subst hcs
    simp only [if_true] at hmm
    rw [hc] at hx
    have all : ∀ i, i < len → ∃ z : α, (f z).length = s ∧ ∀ j, j < s → W.cell? ((a.add (i * s)).add j) = (f z)[j]? := fun i hi => by
      obtain ⟨cs', h1, h2⟩ := hx i (by omega)
      obtain ⟨_, h3, h4⟩ := World.cells?_some h1
      obtain ⟨z, rfl⟩ := each _ _ _ h3 h2
      exact ⟨z, h3, h4⟩
    obtain ⟨Z, hZ⟩ := choose_lt all
    have hmem : ∀ x ∈ (List.range len).map Z, (f x).length = s := by
      intro x hx
      obtain ⟨i, hi, rfl⟩ := List.mem_map.1 hx
      exact (hZ i (by simpa using hi)).1
    refine ⟨(List.range len).map Z, hmem, some a, cap, by simp, by simpa using hl, hm, fun hp => ?_⟩
    simp only [List.length_map, List.length_range] at hp
    have h0 := (hZ 0 hp).2 0 hs
    rw [Nat.zero_mul, show (a.add 0).add 0 = a by simp [Addr.add]] at h0
    have hl0 : 0 < (f (Z 0)).length := by rw [(hZ 0 hp).1]; exact hs
    rw [List.getElem?_eq_getElem hl0] at h0
    have ha := spot_none h0
    refine ⟨a.block, a.off, by rw [← ha], block_lt_of_cell h0, fun k u hu => ?_⟩
    have hk : k < len * s := by
      have := (List.getElem?_eq_some_iff.1 hu).1
      rw [flat_length hmem] at this
      simpa using this
    have hki : k / s < len := Nat.div_lt_of_lt_mul (by rw [Nat.mul_comm]; exact hk)
    have hkj : k % s < s := Nat.mod_lt _ hs
    have e : k = k / s * s + k % s := by rw [Nat.mul_comm]; exact (Nat.div_add_mod k s).symm
    have hg := flat_get (f := f) hmem (k / s) (Z (k / s)) (by rw [List.getElem?_map, List.getElem?_range hki]; rfl) (k % s) hkj
    rw [← e, hu] at hg
    have h3 := (hZ (k / s) hki).2 (k % s) hkj
    rw [← hg, ha, add_lit, add_lit, Nat.add_assoc, ← e] at h3
    exact h3
/-- What append needs of an element type. -/
structure ElT (P : Program) (t e : TypeId) (s by' : Nat) : Prop where
  und : P.underlying t = some (.slice e)
  info : ∃ i z, P.info? e = some i ∧ i.zero = some z ∧ i.size = s ∧ i.bytes = by' ∧ z.cells.size = s
  pos : 0 < s
theorem elT_mk {P : Program} {t e : TypeId} {s by' : Nat} (hu : P.underlying t = some (.slice e)) (h : (P.info? e).map (fun i => (i.zero.map (·.cells.size), i.size, i.bytes)) = some (some s, s, by')) (hs : 0 < s) : ElT P t e s by' := by
  refine ⟨hu, ?_, hs⟩
  obtain ⟨i, hi, hzz⟩ := Option.map_eq_some_iff.1 h
  simp only [Prod.mk.injEq] at hzz
  obtain ⟨h1, h2, h3⟩ := hzz
  obtain ⟨z, hz, hzs⟩ := Option.map_eq_some_iff.1 h1
  exact ⟨i, z, hi, hz, h2, h3, hzs⟩
/-- v holds these elements, in a block of the call's own (from base on), or is nil. -/
def Own' (e : TypeId) (s : Nat) (f : α → List Value) (base : Nat) (w : World) (v : Value) (l : List α) : Prop := (∀ x ∈ l, (f x).length = s) ∧ w.ownsRow base e s v l.length (l.flatMap f)
theorem Own'.els {e : TypeId} {base : Nat} {w : World} {v : Value} {l : List α} (h : Own' e s f base w v l) : Els s f w.heap.size w v l := by
  obtain ⟨h0, hl, h⟩ := h
  rcases h with ⟨rfl, h'⟩ | ⟨g, cap, cur, rfl, _, hh, h1, h2, h3, h4⟩
  · obtain rfl : l = [] := List.length_eq_zero_iff.1 h'
    exact Els.nil _ _
  · refine ⟨h0, _, cap, rfl, h1, h2, fun _ => ⟨g, 0, rfl, (Array.getElem?_eq_some_iff.1 hh).1, fun j u hu => ?_⟩⟩
    rw [Nat.zero_add, cell_of_row w g j cur e (0, 0) hh]
    have hj := (List.getElem?_eq_some_iff.1 hu).1
    rw [← h4, List.getElem?_take_of_lt (by omega)] at hu
    simpa using hu
theorem Own'.grows {e : TypeId} {base : Nat} {w w' : World} {v : Value} {l : List α} (h : Own' e s f base w v l) (hg : Grows w w') : Own' e s f base w' v l := ⟨h.1, own_grows h.2 hg⟩
theorem Own'.more {e : TypeId} {base b : Nat} {w : World} {v : Value} {l : List α} (h : Own' e s f base w v l) (hb : b ≤ base) : Own' e s f b w v l :=
  ⟨h.1, h.2.1, h.2.2.imp id fun ⟨g, cap, cur, h1, h2, h3⟩ => ⟨g, cap, cur, h1, Nat.le_trans hb h2, h3⟩⟩
/-- append onto a row of one's own, whatever elements. -/
theorem run_append_els {P : Program} {t e : TypeId} {by' : Nat} (T : ElT P t e s by') (h1c : ∀ x : α, ∀ u ∈ f x, u.oneCell' = true) {base B : Nat} {w : World} {v x : Value} {l m : List α} (ty : TypeId) (hv : Own' e s f base w v l) (hx : Els s f B w x m)
    (hlen : l.length + m.length ≤ maxLen) (hby : (l.length + m.length) * by' ≤ 140737488355328) (hb : base ≤ w.heap.size) :
    ∃ v' w', (Builtin.append_ #[t, t] ty #[v, x]).run P w = .ok v' w' ∧ Own' e s f base w' v' (l ++ m) ∧ w.grownBy w' v.ownBlock ∧ (v'.ownBlock = v.ownBlock ∨ v'.ownBlock = some w.heap.size) := by
  obtain ⟨i0, z, hi, hz0, hz1, hz2, hz3⟩ := T.info
  obtain ⟨hx0, A, cap, rfl, h1, h2, h3⟩ := hx
  have hall : ∀ y ∈ l ++ m, (f y).length = s := fun y hy => (List.mem_append.1 hy).elim (hv.1 y) (hx0 y)
  cases A with
  | none =>
    have hm : m = [] := by
      by_cases hp : 0 < m.length
      · obtain ⟨_, _, h, _⟩ := h3 hp; cases h
      · exact List.length_eq_zero_iff.1 (by omega)
    subst hm
    have hr : (Builtin.append_ #[t, t] ty #[v, .slice none 0 cap]).run P w = .ok v w := by
      have hv' := hv.2
      rcases hv'.2 with ⟨rfl, h0⟩ | ⟨g, cp, cur, rfl, _, _, hnc, _⟩
      · simp [Builtin.append_, run_underlying T.und, sizeOf, typeInfo, hi, Builtin.lenOf, Builtin.firstCells]
      · simp [Builtin.append_, run_underlying T.und, sizeOf, typeInfo, hi, Builtin.lenOf, Builtin.firstCells, hnc, storeCells]
    exact ⟨v, w, hr, by simpa using hv, World.grownBy.refl _ _, .inl rfl⟩
  | some a =>
    have hc : ∀ j u, (m.flatMap f)[j]? = some u → w.cell? (a.add j) = some u := fun j u hu => by
      have hp : 0 < m.length := by
        cases m with
        | nil => simp at hu
        | cons _ _ => simp
      obtain ⟨b, o, ha, _, hcell⟩ := h3 hp
      cases ha
      rw [add_lit]
      exact hcell j u hu
    obtain ⟨v', w', hr, ho, hg, _, hat⟩ := run_append_own_at (P := P) w base t ty e i0 z s by' T.und hi hz0 hz1 hz2 hz3 T.pos v l.length (l.flatMap f) hv.2 a m.length cap (m.flatMap f) (flat_length hx0) hc
      (fun u hu => by obtain ⟨y, _, hy⟩ := List.mem_flatMap.1 hu; exact h1c y u hy) hlen hby hb
    exact ⟨v', w', hr, ⟨hall, by rw [List.length_append, List.flatMap_append]; exact ho⟩, hg, hat⟩
/-- append onto a literal of no elements: nothing that lay before is turned. -/
theorem run_append_els_empty {P : Program} {t e : TypeId} {by' : Nat} (T : ElT P t e s by') (h1c : ∀ x : α, ∀ u ∈ f x, u.oneCell' = true) {B : Nat} {w : World} {g : Nat} {x : Value} {m : List α} (ty : TypeId) (hr : Row w g e #[]) (hx : Els s f B w x m)
    (hlen : m.length ≤ maxLen) (hby : m.length * by' ≤ 140737488355328) (hby2 : (m.length + m.length / 4 + 192) * by' ≤ 281474976710656) :
    ∃ v' w', (Builtin.append_ #[t, t] ty #[.slice (some ⟨g, 0, none⟩) 0 0, x]).run P w = .ok v' w' ∧ Grows w w' ∧ Own' e s f g w' v' m := by
  obtain ⟨i0, z, hi, hz0, hz1, hz2, hz3⟩ := T.info
  have hv : Own' e s f g w (.slice (some ⟨g, 0, none⟩) 0 0) ([] : List α) := ⟨fun _ h => by simp at h, by simp, .inr ⟨g, 0, #[], rfl, Nat.le_refl _, hr, Nat.le_refl _, Nat.zero_le _, by simp, by simp⟩⟩
  by_cases hm : m.length = 0
  · obtain rfl : m = [] := List.length_eq_zero_iff.1 hm
    obtain ⟨_, A, cap, rfl, h1, h2, h3⟩ := hx
    cases A with
    | none =>
      refine ⟨.slice (some ⟨g, 0, none⟩) 0 0, w, ?_, Grows.refl _, hv⟩
      simp [Builtin.append_, run_underlying T.und, sizeOf, typeInfo, hi, Builtin.lenOf, Builtin.firstCells, storeCells]
    | some a =>
      have hrun := run_append_room (P := P) w t ty e i0 T.und hi g 0 0 #[] hr a 0 cap [] (by simp) (fun j u hu => by simp at hu) (by simp) (by omega) (by simp)
      have he : ((#[] : Array Value).toList.take (0 * i0.size) ++ [] ++ (#[] : Array Value).toList.drop (0 * i0.size + ([] : List Value).length)).toArray = (#[] : Array Value) := by simp
      rw [he] at hrun
      have hrow := Row.setRow hr #[]
      refine ⟨_, _, hrun, ⟨rfl, rfl, rfl, by simp [World.setRow], fun k hk => ?_⟩, ⟨fun _ h => by simp at h, by simp, .inr ⟨g, 0, #[], rfl, Nat.le_refl _, hrow, Nat.le_refl _, Nat.zero_le _, by simp, by simp⟩⟩⟩
      by_cases hkg : k = g
      · subst hkg
        exact (Row.setRow hr _).trans hr.symm
      · exact setRow_other w g k _ hkg
  · have hx' := hx
    obtain ⟨hx0, A, cap, rfl, h1, h2, h3⟩ := hx
    obtain ⟨b, o, rfl, _, hcell⟩ := h3 (by omega)
    have hrun := run_append_grow (P := P) w t ty e i0 z T.und hi hz0 ⟨g, 0, none⟩ 0 0 [] (by simp) (fun j u hu => by simp at hu) ⟨b, o, none⟩ m.length cap (m.flatMap f) (by rw [hz1]; exact flat_length hx0) (fun j u hu => by rw [add_lit]; exact hcell j u hu) (by omega) (by unfold maxLen at hlen; omega)
      (growslice_fits_wide (by omega) (by rw [hz2, Nat.zero_add]; exact hby2))
    obtain ⟨v', w', hr', h2', h3', h4'⟩ := run_append_els T h1c ty hv hx' (by simpa using hlen) (by simpa using hby) (Nat.le_of_lt hr.lt)
    rw [hrun] at hr'
    injection hr' with e1 e2
    subst e1 e2
    exact ⟨_, _, hrun, (Grows.drew w).trans (Grows.alloc _ _), h2'⟩
theorem does_append_els_empty {P : Program} {t e : TypeId} {by' : Nat} (T : ElT P t e s by') (h1c : ∀ x : α, ∀ u ∈ f x, u.oneCell' = true) {B : Nat} {w : World} {o : Oper} {ρ : Operand → Value} {g : Nat} {m : List α} (y x : Operand)
    (ho : o.op = .call { callee := .builtin .append, args := #[y, x], argTypes := #[t, t] })
    (hs : ρ y = .slice (some ⟨g, 0, none⟩) 0 0) (hr : Row w g e #[]) (hx : Els s f B w (ρ x) m)
    (hlen : m.length ≤ maxLen) (hby : m.length * by' ≤ 140737488355328) (hby2 : (m.length + m.length / 4 + 192) * by' ≤ 281474976710656) :
    Does P o ρ w fun v' w' => Grows w w' ∧ Own' e s f g w' v' m := by
  obtain ⟨v', w', hrun, h2, h3⟩ := run_append_els_empty T h1c o.type hr hx hlen hby hby2
  unfold Does execOp
  simp only [ho, resolve, invoke, builtin, Sem.run_bind, Sem.run_pure, Result.andThen_ok, List.map_toArray, List.map_cons, List.map_nil, hs, hrun]
  exact ⟨h2, h3⟩
theorem wpList_append_els {P : Program} {t e : TypeId} {by' : Nat} (T : ElT P t e s by') (h1c : ∀ x : α, ∀ u ∈ f x, u.oneCell' = true) {w : World} {ops : Array Oper} {rest : List Oper} {o : Oper} {a : Act} {Q : Exit → Act → World → Prop} (hgd : o.guard = none) (y x : Operand)
    (ho : o.op = .call { callee := .builtin .append, args := #[y, x], argTypes := #[t, t] }) (base B : Nat) (l m : List α)
    (hv : Own' e s f base w (a.eval y) l) (hx : Els s f B w (a.eval x) m) (hlen : l.length + m.length ≤ maxLen) (hby : (l.length + m.length) * by' ≤ 140737488355328) (hb : base ≤ w.heap.size)
    (h : ∀ v' w', Own' e s f base w' v' (l ++ m) → w.grownBy w' (a.eval y).ownBlock → (v'.ownBlock = (a.eval y).ownBlock ∨ v'.ownBlock = some w.heap.size) → wpList P ops Q rest (a.put o.dst v') w') :
    wpList P ops Q (o :: rest) a w := by
  refine wpList_plain hgd fun K hK => ?_
  obtain ⟨v', w', hr, h2, h3, h4⟩ := run_append_els T h1c o.type hv hx hlen hby hb
  unfold Oper.wp execOp
  simp only [ho, resolve, invoke, builtin, Sem.run_bind, Sem.run_pure, Result.andThen_ok, List.map_toArray, List.map_cons, List.map_nil, hr]
  exact hK _ _ (h v' w' h2 h3 h4)
end
/-- Rows of numbers under the language's '=='. -/
theorem eqItems_ints {P : Program} (d : Nat) {e : TypeId} {k : IntKind} (he : P.underlying e = some (.int k)) (cs ds : Array Value) (w : World) : ∀ (is : List Nat) (F G : Nat → Int), (∀ j ∈ is, cs[j]? = some (.int k (F j)) ∧ ds[j]? = some (.int k (G j))) →
    (Op.eqItems (d + 1) e 1 cs ds is).run P w = .ok (is.all fun j => F j == G j) w
  | [], _, _, _ => by simp [Op.eqItems]
  | j :: is, F, G, h => by
    obtain ⟨h1, h2⟩ := h j (by simp)
    have hagg : (isAgg e).run P w = .ok false w := by
      unfold isAgg
      rw [Sem.run_bind, run_underlying he w]
      rfl
    have hp1 : (part e cs (j * 1)).run P w = .ok (.int k (F j)) w := by simp [part, hagg, h1]
    have hp2 : (part e ds (j * 1)).run P w = .ok (.int k (G j)) w := by simp [part, hagg, h2]
    have hq := run_equalIn_int (P := P) w d e k k (F j) (G j) he
    have ih := eqItems_ints d he cs ds w is F G fun j' hj' => h j' (by simp [hj'])
    simp only [Op.eqItems, Sem.run_bind, hp1, hp2, Result.andThen_ok, hq]
    by_cases hh : F j = G j
    · simpa [hh] using ih
    · simp [hh]
end Go.Proofs.Ytfcghkmhcfgfkaa
