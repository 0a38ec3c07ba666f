/- The document's Waits: places put into a row that rises. -/
import Derived.Test.YtfcghkmhcfgfkaaVdvSort
import Derived.Test.YtfcghkmhcfgfkaaFreeG
namespace Go.Proofs.Ytfcghkmhcfgfkaa
open Go.RowKit Go.Shelf
set_option linter.unusedVariables false
set_option linter.unusedSimpArgs false
namespace VdM
theorem ins_at (n : Int) : ∀ (l : List Int) (j : Nat), j ≤ l.length → (∀ i x, i < j → l[i]? = some x → x < n) → (∀ x, l[j]? = some x → ¬ x < n) → ins n l = if l[j]? = some n then l else l.take j ++ [n] ++ l.drop j
  | [], j, hj, _, _ => by
    obtain rfl : j = 0 := by simpa using hj
    rfl
  | y :: l, 0, _, _, h => by
    have hy := h y rfl
    unfold ins
    rw [if_neg hy]
    by_cases e : y = n
    · rw [if_pos e, if_pos (by rw [e]; rfl)]
    · rw [if_neg e, if_neg (by simpa using e)]
      rfl
  | y :: l, j + 1, hj, h1, h2 => by
    have hy := h1 0 y (by omega) rfl
    unfold ins
    rw [if_pos hy, ins_at n l j (by simpa using hj) (fun i x hi hx => h1 (i + 1) x (by omega) (by simpa using hx)) (fun x hx => h2 x (by simpa using hx))]
    rw [List.getElem?_cons_succ]
    split <;> simp
theorem ins_length (n : Int) : ∀ l : List Int, (ins n l).length ≤ l.length + 1
  | [] => by simp [ins]
  | x :: l => by
    have := ins_length n l
    unfold ins
    split
    · simp only [List.length_cons]; omega
    · split <;> simp
/-- What waits, so far. -/
def outK (cs : List (Int × Pg)) (k : Nat) : List Int := (cs.take k).foldl (fun out x => ins x.1 out) []
theorem outK_zero (cs : List (Int × Pg)) : outK cs 0 = [] := rfl
theorem outK_succ (cs : List (Int × Pg)) (k : Nat) (x : Int × Pg) (h : cs[k]? = some x) : outK cs (k + 1) = ins x.1 (outK cs k) := by
  unfold outK
  rw [List.take_add_one, h]
  simp
theorem outK_all (cs : List (Int × Pg)) : outK cs cs.length = waits cs := by unfold outK waits; rw [List.take_length]
theorem outK_length (cs : List (Int × Pg)) : ∀ k, (outK cs k).length ≤ k
  | 0 => by simp [outK]
  | k + 1 => by
    cases h : cs[k]? with
    | none =>
      have e : outK cs (k + 1) = outK cs k := by unfold outK; rw [List.take_add_one, h]; simp
      rw [e]
      exact Nat.le_succ_of_le (outK_length cs k)
    | some x =>
      rw [outK_succ cs k x h]
      have := ins_length x.1 (outK cs k)
      have := outK_length cs k
      omega
end VdM
/-- From B on, each row of numbers keeps what it has of L, and a row that is just n stays. -/
def Keeps2 (B : Nat) (n : Int) (L : List Int) (w w' : World) : Prop :=
  B ≤ w.heap.size → Below B w w' ∧ ∀ g cs, Row w g 3 cs → ∃ cs', Row w' g 3 cs' ∧ cs'.size = cs.size ∧ (cs = #[.int .i64 n] → cs' = cs) ∧ ∀ (i : Nat) (x : Int), L[i]? = some x → cs[i]? = some (.int .i64 x) → cs'[i]? = some (.int .i64 x)
theorem Keeps2.rel {B : Nat} {n : Int} {L : List Int} : GRel (Keeps2 B n L) where
  refl := fun w _ => ⟨Below.refl _ _, fun g cs h => ⟨cs, h, rfl, fun _ => rfl, fun _ _ _ h => h⟩⟩
  trans := fun {a b c} h k hB => by
    obtain ⟨h1, h2⟩ := h hB
    obtain ⟨k1, k2⟩ := k (Nat.le_trans hB h1.size)
    refine ⟨h1.trans k1, fun g cs hr => ?_⟩
    obtain ⟨cs1, r1, s1, n1, c1⟩ := h2 g cs hr
    obtain ⟨cs2, r2, s2, n2, c2⟩ := k2 g cs1 r1
    refine ⟨cs2, r2, s2.trans s1, fun e => ?_, fun i x hi hx => c2 i x hi (c1 i x hi hx)⟩
    have e1 := n1 e
    rw [n2 (e1.trans e), e1]
theorem Keeps2.of_grows {B : Nat} {n : Int} {L : List Int} {w w' : World} (h : Grows w w') : Keeps2 B n L w w' := fun hB =>
  ⟨Below.mono h hB, fun g cs hr => ⟨cs, hr.grows h, rfl, fun _ => rfl, fun _ _ _ h => h⟩⟩
theorem Keeps2.below {B : Nat} {n : Int} {L : List Int} {w w' : World} (h : Keeps2 B n L w w') (hB : B ≤ w.heap.size) : Below B w w' := (h hB).1
/-- A row of one's own whose numbers are the first of L. -/
def OwnL (B : Nat) (l : List Int) (v : Value) (w : World) : Prop := B ≤ w.heap.size ∧ Own' 3 1 intE B w v l
theorem OwnL.mono {B : Nat} {n : Int} {L l : List Int} (hl : ∀ (i : Nat) (x : Int), l[i]? = some x → L[i]? = some x) : ∀ v w w', OwnL B l v w → Keeps2 B n L w w' → OwnL B l v w' := fun v w w' ⟨hB, h⟩ hk => by
  obtain ⟨k1, k2⟩ := hk hB
  refine ⟨Nat.le_trans hB k1.size, h.1, h.2.1, ?_⟩
  rcases h.2.2 with h' | ⟨g, cap, cur, e, hb, hh, h1, h2, h3, h4⟩
  · exact .inl h'
  · obtain ⟨cs', r, s, _, c⟩ := k2 g cur hh
    refine .inr ⟨g, cap, cs', e, hb, r, h1, h2, by rw [s]; exact h3, ?_⟩
    rw [flat_ints, Nat.mul_one] at h4 ⊢
    rw [Nat.mul_one] at h3
    apply List.ext_getElem?
    intro i
    by_cases hi : i < l.length
    · have e1 : l[i]? = some l[i] := List.getElem?_eq_getElem hi
      have e2 : (List.map (Value.int IntKind.i64) l)[i]? = some (.int .i64 l[i]) := by rw [List.getElem?_map, e1]; rfl
      rw [e2, List.getElem?_take_of_lt hi, Array.getElem?_toList]
      refine c i _ (hl i _ e1) ?_
      rw [← h4, List.getElem?_take_of_lt hi, Array.getElem?_toList] at e2
      exact e2
    · rw [List.getElem?_eq_none (by rw [List.length_take]; omega), List.getElem?_eq_none (by rw [List.length_map]; omega)]
/-- A row of one number. -/
def OneN (B : Nat) (n : Int) (v : Value) (w : World) : Prop := B ≤ w.heap.size ∧ ∃ g, v = .slice (some ⟨g, 0, none⟩) 1 1 ∧ Row w g 3 #[.int .i64 n]
theorem OneN.mono {B : Nat} {n : Int} {L : List Int} : ∀ v w w', OneN B n v w → Keeps2 B n L w w' → OneN B n v w' := fun v w w' ⟨hB, g, e, hr⟩ hk => by
  obtain ⟨k1, k2⟩ := hk hB
  obtain ⟨cs', r, _, c, _⟩ := k2 g _ hr
  rw [c rfl] at r
  exact ⟨Nat.le_trans hB k1.size, g, e, r⟩
/-- A literal of nothing. -/
def NoneL (B : Nat) (v : Value) (w : World) : Prop := B ≤ w.heap.size ∧ NoneYet B 3 v w
theorem NoneL.mono {B : Nat} {n : Int} {L : List Int} : ∀ v w w', NoneL B v w → Keeps2 B n L w w' → NoneL B v w' := fun v w w' ⟨hB, g, e, hb, hr⟩ hk => by
  obtain ⟨k1, k2⟩ := hk hB
  obtain ⟨cs', r, s, _, _⟩ := k2 g _ hr
  obtain rfl : cs' = #[] := Array.eq_empty_of_size_eq_zero s
  exact ⟨Nat.le_trans hB k1.size, g, e, hb, r⟩
theorem OneN.els {B : Nat} {n : Int} {v : Value} {w : World} (h : OneN B n v w) : Els 1 intE w.heap.size w v [n] := by
  obtain ⟨_, g, rfl, hr⟩ := h
  exact ⟨fun x _ => rfl, _, 1, rfl, Nat.le_refl _, by decide, fun _ => ⟨g, 0, rfl, hr.lt, fun j u hu => by
    rw [Nat.zero_add, hr.cell]
    simp [intE] at hu
    cases j with
    | zero => simpa using hu
    | succ j => simp at hu⟩⟩
/-- One number put behind a row of one's own, in place or anew. -/
theorem run_append_one {B : Nat} {w : World} {v x : Value} {l : List Int} {n : Int} (ty : TypeId) (hv : OwnL B l v w) (hx : OneN B n x w) (hlen : l.length ≤ 1000000) :
    ∃ v' w', (Builtin.append_ #[24, 24] ty #[v, x]).run Try.prog w = .ok v' w' ∧ OwnL B (l ++ [n]) v' w' ∧ Keeps2 B n (l ++ [n]) w w' := by
  obtain ⟨hB, hv⟩ := hv
  obtain ⟨v', w', hr, ho, hg, hat⟩ := run_append_els elT_int intE_one ty hv hx.els (by unfold maxLen; simp; omega) (by simp; omega) hB
  have hB' : B ≤ w'.heap.size := Nat.le_trans hB hg.size
  refine ⟨v', w', hr, ⟨hB', ho⟩, ?_⟩
  obtain ⟨i0, z, hi, hz0, hz1, hz2, hz3⟩ := elT_int.info
  have hfl := hv.2
  rcases hv.2.2 with ⟨rfl, h0⟩ | ⟨g, cap, cur, rfl, hb, hh, h1, h2, h3, h4⟩
  · exact Keeps2.of_grows ⟨hg.os, hg.tape, hg.output, hg.size, fun k hk => hg.block k hk (by simp [Value.ownBlock])⟩
  · obtain ⟨_, gx, rfl, hrx⟩ := hx
    rw [Nat.mul_one] at h3
    by_cases hroom : l.length + 1 ≤ cap
    · have hrun := run_append_room (P := Try.prog) w 24 ty 3 i0 elT_int.und hi g l.length cap cur hh ⟨gx, 0, none⟩ 1 1 [.int .i64 n] (by rw [hz1]; rfl)
        (fun j u hu => by
          rw [add_lit, Nat.zero_add, hrx.cell]
          cases j with
          | zero => simpa using hu
          | succ j => simp at hu) (fun u hu => by rw [List.mem_singleton.1 hu]; rfl) hroom (by rw [hz1]; simp; omega)
      rw [hr] at hrun
      injection hrun with e1 e2
      subst e1 e2
      have ecs : (cur.toList.take (l.length * i0.size) ++ [Value.int .i64 n] ++ cur.toList.drop (l.length * i0.size + [Value.int .i64 n].length)).toArray = cur.setIfInBounds l.length (.int .i64 n) := by
        rw [hz1, Nat.mul_one]
        apply Array.ext'
        rw [Array.toList_setIfInBounds, List.set_eq_take_append_cons_drop, if_pos (by simp; omega)]
        simp
      rw [ecs]
      intro _
      refine ⟨⟨rfl, rfl, rfl, by simp [World.setRow], fun k hk => setRow_other w g k _ (by omega)⟩, fun g' cs hr' => ?_⟩
      by_cases hgg : g' = g
      · subst hgg
        have e := Option.some.inj (hr'.symm.trans hh)
        injection e with e _
        subst e
        refine ⟨_, hr'.setRow _, by simp, fun e => ?_, fun i x hi hx => ?_⟩
        · subst e
          simp at h3
          have : l.length = 0 := by omega
          rw [this]
          rfl
        · rw [Array.getElem?_setIfInBounds]
          by_cases hil : l.length = i
          · subst hil
            rw [List.getElem?_append_right (Nat.le_refl _), Nat.sub_self] at hi
            cases hi
            rw [if_pos rfl, if_pos (by omega)]
          · rw [if_neg hil]
            exact hx
      · exact ⟨cs, hr'.setRow_far hgg _, rfl, fun _ => rfl, fun _ _ _ h => h⟩
    · have hrun := run_append_grow (P := Try.prog) w 24 ty 3 i0 z elT_int.und hi hz0 ⟨g, 0, none⟩ l.length cap (l.map (Value.int .i64)) (by rw [hz1]; simp)
        (fun j u hu => by
          rw [add_lit, Nat.zero_add, cell_of_row w g j cur 3 (0, 0) hh]
          rw [flat_ints, Nat.mul_one] at h4
          have hj := (List.getElem?_eq_some_iff.1 hu).1
          rw [← h4, List.getElem?_take_of_lt (by simpa using hj)] at hu
          simpa using hu) ⟨gx, 0, none⟩ 1 1 [.int .i64 n] (by rw [hz1]; rfl)
        (fun j u hu => by
          rw [add_lit, Nat.zero_add, hrx.cell]
          cases j with
          | zero => simpa using hu
          | succ j => simp at hu) (by omega) (by omega) (growslice_fits_wide (by omega) (by rw [hz2]; omega))
      rw [hr] at hrun
      injection hrun with e1 e2
      subst e1 e2
      exact Keeps2.of_grows ((Grows.drew w).trans (Grows.alloc _ _))
theorem sl_of_ints {B : Nat} {W : World} {v : Value} {l : List Int} (h : Els 1 intE B W v l) : Sl B W v (l.map (Value.int .i64)) := by
  obtain ⟨A, cap, rfl, h1, h2, h3⟩ := h.ints
  refine ⟨A, cap, by simp, by simpa using h1, h2, fun hp => ?_⟩
  obtain ⟨b, o, ha, hb, hc⟩ := h3 (by simpa using hp)
  refine ⟨b, o, ha, hb, fun j u hu => ?_⟩
  rw [List.getElem?_map] at hu
  obtain ⟨x, hx, rfl⟩ := Option.map_eq_some_iff.1 hu
  exact hc j x hx
theorem ints_of_sl {B : Nat} {W : World} {v : Value} {l : List Int} (h : Sl B W v (l.map (Value.int .i64))) : Els 1 intE B W v l := by
  obtain ⟨A, cap, rfl, h1, h2, h3⟩ := h
  refine ⟨fun x _ => rfl, A, cap, by simp, by simpa using h1, h2, fun hp => ?_⟩
  obtain ⟨b, o, ha, hb, hc⟩ := h3 (by simpa using hp)
  refine ⟨b, o, ha, hb, fun j u hu => ?_⟩
  rw [flat_ints] at hu
  exact hc j u hu
theorem does_append_one {B : Nat} {w : World} {o : Oper} {ρ : Operand → Value} {l : List Int} {n : Int} (y x : Operand)
    (ho : o.op = .call { callee := .builtin .append, args := #[y, x], argTypes := #[24, 24] }) (hs : OwnL B l (ρ y) w) (hx : OneN B n (ρ x) w) (hlen : l.length ≤ 1000000) :
    Does Try.prog o ρ w fun v' w' => Keeps2 B n (l ++ [n]) w w' ∧ OwnL B (l ++ [n]) v' w' := by
  obtain ⟨v', w', hrun, h2, h3⟩ := run_append_one o.type hs hx hlen
  unfold Does execOp
  simp only [ho, resolve, invoke, builtin, Sem.run_bind, Sem.run_pure, Result.andThen_ok, List.map_toArray, List.map_cons, List.map_nil, hrun]
  exact ⟨h3, h2⟩
theorem does_append_none {B : Nat} {w : World} {o : Oper} {ρ : Operand → Value} {l L : List Int} {n : Int} (y x : Operand)
    (ho : o.op = .call { callee := .builtin .append, args := #[y, x], argTypes := #[24, 24] }) (hs : NoneL B (ρ y) w) (hx : Els 1 intE B w (ρ x) l) (hlen : l.length ≤ 1000000) :
    Does Try.prog o ρ w fun v' w' => Keeps2 B n L w w' ∧ OwnL B l v' w' := by
  obtain ⟨hB, g, e1, e2, e3⟩ := hs
  obtain ⟨v', w', hrun, h2, h3⟩ := run_append_els_empty elT_int intE_one o.type e3 hx (by unfold maxLen; omega) (by omega) (by omega)
  unfold Does execOp
  simp only [ho, resolve, invoke, builtin, Sem.run_bind, Sem.run_pure, Result.andThen_ok, List.map_toArray, List.map_cons, List.map_nil, e1, hrun]
  exact ⟨Keeps2.of_grows h2, Nat.le_trans hB h2.size, h3.more e2⟩
attribute [local go_sem high] sliced_cut
set_option maxRecDepth 20000 in
set_option maxHeartbeats 4000000 in
theorem rwaits_any (v : Value) (d : Dk) (w : World) (hv : IsDisk w.heap.size w v d) (l2 : d.cache.length ≤ 900000) :
    Calls Try.prog 21 #[v] w fun e w' => ∃ r, e = .returned r ∧ Own' 3 1 intE w.heap.size w' r (VdM.waits d.cache) ∧ Grows w w' := by
  obtain ⟨pv, cv, bv, rfl, _, hc, _⟩ := hv
  obtain ⟨C, cup, rfl, r1, r2, r3⟩ := hc.form
  have HR := Lib.hid r3
  clear r3 hc
  unfold maxLen at r2
  obtain ⟨D, hD⟩ : ∃ D, D = #[pv, .slice C d.cache.length cup, bv, .bool d.off] := ⟨_, rfl⟩
  have Ds : Hid (D[1]? = some (.slice C d.cache.length cup)) := by subst hD; rfl
  rw [← hD]
  clear hD
  have R0 := Lib.hid (Row.new w 26 D)
  have HG0 := Lib.hid (Grows.alloc w (.cells D 26))
  generalize d.cache = cs at *
  go_enter Try.func21, Try.ntmps21
  go_wp2
  go_loopw [3, 4] (fun o i wr => ∃ k : Nat, k ≤ cs.length ∧ i = .int .i64 k ∧ Own' 3 1 intE w.heap.size wr o (VdM.outK cs k) ∧ Row wr w.heap.size 26 D ∧ Grows w wr) (fun _ i _ => cs.length - (intOf i).toNat)
  case atStart => exact ⟨0, Nat.zero_le _, rfl, Own'.nil _ _ _ _ _, R0.out, HG0.out⟩
  case round =>
    obtain ⟨k, hk, rfl, ho, hr, hg⟩ := hrel
    have a1 : _ = some _ := (hr.cell 1).trans Ds.out
    have HO := Lib.hid ho; have HRW := Lib.hid hr; have HGW := Lib.hid hg
    clear hr hg
    by_cases hlt : k < cs.length
    · obtain ⟨g, o, rfl, hgl, hcA⟩ := HR.out (by omega)
      have hki : (k : Int) < cs.length := by omega
      have e1 : cs[k]? = some cs[k] := List.getElem?_eq_getElem hlt
      have HSC := Lib.hid (VdM.outK_succ cs k _ e1)
      have HLL := VdM.outK_length cs k
      have c0 := (Below.cell HGW.out (p := ⟨g, o + k * 257, none⟩) hgl).trans (hcA k _ e1 0 _ rfl)
      clear e1 hcA
      generalize cs[k].1 = n at *
      generalize hl : VdM.outK cs k = l at *
      clear hl
      obtain ⟨A, cap, rfl, q1, q2, q3⟩ := ho.els.ints
      have HX := Lib.hid q3
      have HET : Hid (∀ j, j ≤ l.length → Els 1 intE wr.heap.size wr (.slice A j cap) (l.take j)) := fun j hj => ints_of_sl (by rw [List.map_take]; exact (sl_of_ints ho.els).take (by simpa using hj))
      have HED : Hid (∀ j, j ≤ l.length → Els 1 intE wr.heap.size wr (.slice (cutA A j cap 1) (l.length - j) (cap - j)) (l.drop j)) := fun j hj => ints_of_sl (by
        have := (sl_of_ints ho.els).cut (l := j) (h := l.length) hj (by simp)
        rw [List.map_drop]
        rwa [List.take_of_length_le (by simp)] at this)
      clear ho q3
      unfold maxLen at q2
      go_wp2
      go_loopw [6] (fun a wr2 => ∃ j : Nat, j ≤ l.length ∧ a = .int .i64 j ∧ Hid (∀ (i : Nat) (x : Int), i < j → l[i]? = some x → x < n) ∧ wr2 = wr) (fun a _ => l.length - (intOf a).toNat)
      case atStart => exact ⟨0, Nat.zero_le _, rfl, fun i x hi => absurd hi (by omega), rfl⟩
      case round =>
        obtain ⟨j, hj, rfl, HLo, rfl⟩ := hrel
        by_cases hjl : j < l.length
        · have hji : (j : Int) < l.length := by omega
          have hjne : ¬ (j : Int) = l.length := by omega
          obtain ⟨gb, ob, rfl, hgb, hcx⟩ := HX.out (by omega)
          have e1 : l[j]? = some l[j] := List.getElem?_eq_getElem hjl
          have x0 := hcx j _ e1
          have E1 := Lib.hid e1
          clear e1 hcx
          generalize l[j] = x at *
          by_cases hxn : x < n
          · go_wp2
            go_roundw
            case rel =>
              refine ⟨j + 1, by omega, by go_num, fun i y hi hy => ?_, by first | trivial | rfl⟩
              by_cases hij : i = j
              · subst hij
                rw [E1.out] at hy
                cases hy
                exact hxn
              · exact HLo.out i y (by omega) hy
            case measure => simp [intOf]; omega
          · have HI := Lib.hid (VdM.ins_at n l j hj HLo.out (fun y hy => by rw [E1.out] at hy; cases hy; exact hxn))
            rw [E1.out] at HI
            by_cases hxe : x = n
            · subst hxe
              have HI2 : Hid (VdM.ins x l = l) := by have := HI.out; rwa [if_pos rfl] at this
              go_wp2
              go_roundw
              case rel => exact ⟨k + 1, by omega, by go_num, by rw [HSC.out, HI2.out]; exact HO.out, HRW.out, HGW.out⟩
              case measure => simp [intOf]; omega
            · have HI2 : Hid (VdM.ins n l = l.take j ++ [n] ++ l.drop j) := by have := HI.out; rwa [if_neg (by simpa using hxe)] at this
              have bb1 : ((j : Int) == (l.length : Int)) = false := by simpa using hjne
              have bb2 : (x != n) = true := by simpa using hxe
              go_wp2
              clear x0 bb1 bb2
              have hjcap : (j : Int) ≤ cap := by omega
              have hjlen : (j : Int) ≤ l.length := by omega
              have hgeR : GRel (Keeps2 wr.heap.size n (l.take j ++ [n])) := Keeps2.rel
              have hGR := hgeR
              have hjl1 : (l.take j).length = j := by rw [List.length_take]; omega
              have pfx : ∀ (i : Nat) (x : Int), (l.take j)[i]? = some x → (l.take j ++ [n])[i]? = some x := fun i x hx => by
                rw [List.getElem?_append_left (List.getElem?_eq_some_iff.1 hx).1]
                exact hx
              have PFX := Lib.hid pfx
              clear pfx
              have hET := HET.out j hj
              have hED := HED.out j hj
              have ET := Lib.hid hET; have ED := Lib.hid hED
              clear hET hED
              refine wp_region_freeG hGR 11 59 (by kernel_rfl) (by kernel_rfl) rfl (by kernel_rfl) ?_; simp only [List.take_succ_cons, List.take_zero, List.drop_succ_cons, List.drop_zero]
              refine free_opG (NoneL wr.heap.size) rfl NoneL.mono (fun vs wq hg hd => by
                have hbs : wr.heap.size ≤ wq.heap.size := (hg.below (Nat.le_refl _)).size
                (try simp [Region.binds] at hd); simp only [Does]; simp only [execOp, resolve, Option.map_some, Option.map_none, List.map_toArray, List.map_cons, List.map_nil, rho_const, rho_func]; (repeat (conv in rho _ _ _ _ (Operand.tmp _) => whnf)); (try simp only [hd]); go_simp; (repeat (conv in rho _ _ _ _ (Operand.tmp _) => whnf))
                exact ⟨Keeps2.of_grows (Grows.alloc _ _), Nat.le_trans hbs (Below.size (Grows.alloc _ _)), wq.heap.size, rfl, hbs, Row.new _ _ _⟩) ?_
              repeat (apply free_pureG hGR rfl; focus (intro vs w hg hd;  (try simp [Region.binds] at hd); simp only [execOp, resolve, Option.map_some, Option.map_none, List.map_toArray, List.map_cons, List.map_nil, rho_const, rho_func]; (repeat (conv in rho _ _ _ _ (Operand.tmp _) => whnf)); (try simp only [hd]); go_simp; (repeat (conv in rho _ _ _ _ (Operand.tmp _) => whnf)); (try simp only [hd]); rfl))
              refine free_opG (OwnL wr.heap.size (l.take j)) rfl (OwnL.mono PFX.out) (fun vs wq hg hd => by
                have hbe := hg.below (Nat.le_refl _)
                simp [Region.binds] at hd
                refine does_append_none (.tmp 46) (.tmp 49) rfl ?_ ?_ (by omega)
                · (conv in rho _ _ _ _ (Operand.tmp _) => whnf)
                  exact hd.1
                · (conv in rho _ _ _ _ (Operand.tmp _) => whnf)
                  rw [hd.2]
                  exact ET.out.below (Grows.of_drew hbe)) ?_
              repeat (apply free_pureG hGR rfl; focus (intro vs w hg hd;  (try simp [Region.binds] at hd); simp only [execOp, resolve, Option.map_some, Option.map_none, List.map_toArray, List.map_cons, List.map_nil, rho_const, rho_func]; (repeat (conv in rho _ _ _ _ (Operand.tmp _) => whnf)); (try simp only [hd]); go_simp; (repeat (conv in rho _ _ _ _ (Operand.tmp _) => whnf)); (try simp only [hd]); rfl))
              refine free_opG (OneN wr.heap.size n) rfl OneN.mono (fun vs wq hg hd => by
                have hbs : wr.heap.size ≤ wq.heap.size := (hg.below (Nat.le_refl _)).size
                (try simp [Region.binds] at hd); simp only [Does]; simp only [execOp, resolve, Option.map_some, Option.map_none, List.map_toArray, List.map_cons, List.map_nil, rho_const, rho_func]; (repeat (conv in rho _ _ _ _ (Operand.tmp _) => whnf)); (try simp only [hd]); go_simp; (repeat (conv in rho _ _ _ _ (Operand.tmp _) => whnf))
                exact ⟨Keeps2.of_grows (Grows.alloc _ _), Nat.le_trans hbs (Below.size (Grows.alloc _ _)), wq.heap.size, rfl, Row.new _ _ _⟩) ?_
              refine free_opG (OwnL wr.heap.size (l.take j ++ [n])) rfl (OwnL.mono (fun _ _ h => h)) (fun vs wq hg hd => by
                simp [Region.binds] at hd
                refine does_append_one (.tmp 50) (.tmp 52) rfl ?_ ?_ (by omega)
                · (conv in rho _ _ _ _ (Operand.tmp _) => whnf)
                  exact hd.1
                · (conv in rho _ _ _ _ (Operand.tmp _) => whnf)
                  exact hd.2.1) ?_
              repeat (apply free_pureG hGR rfl; focus (intro vs w hg hd;  (try simp [Region.binds] at hd); simp only [execOp, resolve, Option.map_some, Option.map_none, List.map_toArray, List.map_cons, List.map_nil, rho_const, rho_func]; (repeat (conv in rho _ _ _ _ (Operand.tmp _) => whnf)); (try simp only [hd]); go_simp; (repeat (conv in rho _ _ _ _ (Operand.tmp _) => whnf)); (try simp only [hd]); rfl))
              intro vs w' hg hv; have h7 := hv 7 (by omega); simp at h7; have h10 := hv 10 (by omega); simp at h10; simp only [putL, dstAt, List.range, List.range.loop, if_true, List.getElem?_toArray, List.getElem?_cons_zero, List.getElem?_cons_succ, Option.bind_some, Act.put, List.setIfInBounds_toArray, List.set_cons_zero, List.set_cons_succ]
              have hgW : Grows wr w' := Grows.of_drew (hg.below (Nat.le_refl _))
              have H7 := Lib.hid h7
              have ED2 : Hid (Els 1 intE wr.heap.size w' (vs 10) (l.drop j)) := by
                have := ED.out.below hgW
                unfold Hid
                rw [h10]
                unfold cutA at this
                simpa [add_lit] using this
              have HGN := Lib.hid hgW
              have HRN := Lib.hid (Row.grows HRW.out hgW)
              have hbw : w.heap.size ≤ wr.heap.size := HGW.out.size
              have HGV := Lib.hid (HGW.out.trans hgW)
              clear hv h7 h10 hg hgW
              generalize vs 0 = z0, vs 1 = z1, vs 2 = z2, vs 3 = z3, vs 4 = z4, vs 5 = z5, vs 6 = z6, vs 7 = z7, vs 8 = z8, vs 9 = z9, vs 10 = z10 at *
              go_wp2_with (first
                | ((with_reducible refine wpList_append_els elT_int intE_one ?_ (.tmp 53) (.tmp 56) ?_ wr.heap.size wr.heap.size (l.take j ++ [n]) (l.drop j) ?_ ?_ ?_ ?_ ?_ ?_); exact rfl; exact rfl; exact H7.out.2; exact ED2.out; simp; unfold maxLen; omega; simp; omega; exact H7.out.1; intro v5 w5 h51 h52 _; have X0 := Lib.hid (h51.more hbw); have XR := Lib.hid (row_other H7.out.2 HRN.out (by decide) h52); have XG := Lib.hid (HGV.out.grown h52 HGV.out.size (fun jj e => Nat.le_trans hbw (own_low H7.out.2 jj e))); clear h51 h52))
              go_roundw
              case rel => exact ⟨k + 1, by omega, by go_num, by rw [HSC.out, HI2.out]; exact X0.out, XR.out, XG.out⟩
              case measure => simp [intOf]; omega
        · obtain rfl : j = l.length := by omega
          have HI2 : Hid (VdM.ins n l = l ++ [n] ++ []) := by
            have := VdM.ins_at n l l.length hj HLo.out (fun y hy => by rw [List.getElem?_eq_none (by omega)] at hy; cases hy)
            rwa [List.getElem?_eq_none (by omega), if_neg (by simp), List.take_length, List.drop_length] at this
          go_wp2
          have hjcap : (l.length : Int) ≤ cap := by omega
          have hjlen : (l.length : Int) ≤ l.length := by omega
          have hgeR : GRel (Keeps2 wr.heap.size n (l ++ [n])) := Keeps2.rel
          have hGR := hgeR
          have hjl1 : l.length = l.length := rfl
          have pfx : ∀ (i : Nat) (x : Int), l[i]? = some x → (l ++ [n])[i]? = some x := fun i x hx => by
            rw [List.getElem?_append_left (List.getElem?_eq_some_iff.1 hx).1]
            exact hx
          have PFX := Lib.hid pfx
          clear pfx
          have hET := HET.out l.length hj
          have hED := HED.out l.length hj
          rw [List.take_length] at hET
          rw [List.drop_length] at hED
          have ET := Lib.hid hET; have ED := Lib.hid hED
          clear hET hED
          refine wp_region_freeG hGR 11 59 (by kernel_rfl) (by kernel_rfl) rfl (by kernel_rfl) ?_; simp only [List.take_succ_cons, List.take_zero, List.drop_succ_cons, List.drop_zero]
          refine free_opG (NoneL wr.heap.size) rfl NoneL.mono (fun vs wq hg hd => by
            have hbs : wr.heap.size ≤ wq.heap.size := (hg.below (Nat.le_refl _)).size
            (try simp [Region.binds] at hd); simp only [Does]; simp only [execOp, resolve, Option.map_some, Option.map_none, List.map_toArray, List.map_cons, List.map_nil, rho_const, rho_func]; (repeat (conv in rho _ _ _ _ (Operand.tmp _) => whnf)); (try simp only [hd]); go_simp; (repeat (conv in rho _ _ _ _ (Operand.tmp _) => whnf))
            exact ⟨Keeps2.of_grows (Grows.alloc _ _), Nat.le_trans hbs (Below.size (Grows.alloc _ _)), wq.heap.size, rfl, hbs, Row.new _ _ _⟩) ?_
          repeat (apply free_pureG hGR rfl; focus (intro vs w hg hd;  (try simp [Region.binds] at hd); simp only [execOp, resolve, Option.map_some, Option.map_none, List.map_toArray, List.map_cons, List.map_nil, rho_const, rho_func]; (repeat (conv in rho _ _ _ _ (Operand.tmp _) => whnf)); (try simp only [hd]); go_simp; (repeat (conv in rho _ _ _ _ (Operand.tmp _) => whnf)); (try simp only [hd]); rfl))
          refine free_opG (OwnL wr.heap.size l) rfl (OwnL.mono PFX.out) (fun vs wq hg hd => by
            have hbe := hg.below (Nat.le_refl _)
            simp [Region.binds] at hd
            refine does_append_none (.tmp 46) (.tmp 49) rfl ?_ ?_ (by omega)
            · (conv in rho _ _ _ _ (Operand.tmp _) => whnf)
              exact hd.1
            · (conv in rho _ _ _ _ (Operand.tmp _) => whnf)
              rw [hd.2]
              exact ET.out.below (Grows.of_drew hbe)) ?_
          repeat (apply free_pureG hGR rfl; focus (intro vs w hg hd;  (try simp [Region.binds] at hd); simp only [execOp, resolve, Option.map_some, Option.map_none, List.map_toArray, List.map_cons, List.map_nil, rho_const, rho_func]; (repeat (conv in rho _ _ _ _ (Operand.tmp _) => whnf)); (try simp only [hd]); go_simp; (repeat (conv in rho _ _ _ _ (Operand.tmp _) => whnf)); (try simp only [hd]); rfl))
          refine free_opG (OneN wr.heap.size n) rfl OneN.mono (fun vs wq hg hd => by
            have hbs : wr.heap.size ≤ wq.heap.size := (hg.below (Nat.le_refl _)).size
            (try simp [Region.binds] at hd); simp only [Does]; simp only [execOp, resolve, Option.map_some, Option.map_none, List.map_toArray, List.map_cons, List.map_nil, rho_const, rho_func]; (repeat (conv in rho _ _ _ _ (Operand.tmp _) => whnf)); (try simp only [hd]); go_simp; (repeat (conv in rho _ _ _ _ (Operand.tmp _) => whnf))
            exact ⟨Keeps2.of_grows (Grows.alloc _ _), Nat.le_trans hbs (Below.size (Grows.alloc _ _)), wq.heap.size, rfl, Row.new _ _ _⟩) ?_
          refine free_opG (OwnL wr.heap.size (l ++ [n])) rfl (OwnL.mono (fun _ _ h => h)) (fun vs wq hg hd => by
            simp [Region.binds] at hd
            refine does_append_one (.tmp 50) (.tmp 52) rfl ?_ ?_ (by omega)
            · (conv in rho _ _ _ _ (Operand.tmp _) => whnf)
              exact hd.1
            · (conv in rho _ _ _ _ (Operand.tmp _) => whnf)
              exact hd.2.1) ?_
          repeat (apply free_pureG hGR rfl; focus (intro vs w hg hd;  (try simp [Region.binds] at hd); simp only [execOp, resolve, Option.map_some, Option.map_none, List.map_toArray, List.map_cons, List.map_nil, rho_const, rho_func]; (repeat (conv in rho _ _ _ _ (Operand.tmp _) => whnf)); (try simp only [hd]); go_simp; (repeat (conv in rho _ _ _ _ (Operand.tmp _) => whnf)); (try simp only [hd]); rfl))
          intro vs w' hg hv; have h7 := hv 7 (by omega); simp at h7; have h10 := hv 10 (by omega); simp at h10; simp only [putL, dstAt, List.range, List.range.loop, if_true, List.getElem?_toArray, List.getElem?_cons_zero, List.getElem?_cons_succ, Option.bind_some, Act.put, List.setIfInBounds_toArray, List.set_cons_zero, List.set_cons_succ]
          have hgW : Grows wr w' := Grows.of_drew (hg.below (Nat.le_refl _))
          have H7 := Lib.hid h7
          have ED2 : Hid (Els 1 intE wr.heap.size w' (vs 10) ([] : List Int)) := by
            have := ED.out.below hgW
            unfold Hid
            rw [h10]
            unfold cutA at this
            simpa [add_lit] using this
          have HGN := Lib.hid hgW
          have HRN := Lib.hid (Row.grows HRW.out hgW)
          have hbw : w.heap.size ≤ wr.heap.size := HGW.out.size
          have HGV := Lib.hid (HGW.out.trans hgW)
          clear hv h7 h10 hg hgW
          generalize vs 0 = z0, vs 1 = z1, vs 2 = z2, vs 3 = z3, vs 4 = z4, vs 5 = z5, vs 6 = z6, vs 7 = z7, vs 8 = z8, vs 9 = z9, vs 10 = z10 at *
          go_wp2_with (first
            | ((with_reducible refine wpList_append_els elT_int intE_one ?_ (.tmp 53) (.tmp 56) ?_ wr.heap.size wr.heap.size (l ++ [n]) ([] : List Int) ?_ ?_ ?_ ?_ ?_ ?_); exact rfl; exact rfl; exact H7.out.2; exact ED2.out; simp; unfold maxLen; omega; simp; omega; exact H7.out.1; intro v5 w5 h51 h52 _; have X0 := Lib.hid (h51.more hbw); have XR := Lib.hid (row_other H7.out.2 HRN.out (by decide) h52); have XG := Lib.hid (HGV.out.grown h52 HGV.out.size (fun jj e => Nat.le_trans hbw (own_low H7.out.2 jj e))); clear h51 h52))
          go_roundw
          case rel => exact ⟨k + 1, by omega, by go_num, by rw [HSC.out, HI2.out]; exact X0.out, XR.out, XG.out⟩
          case measure => simp [intOf]; omega
    · obtain rfl : k = cs.length := by omega
      have hki : ¬ ((cs.length : Nat) : Int) < cs.length := by omega
      go_wp2
      go_ret
      exact ⟨_, rfl, by rw [← VdM.outK_all]; exact HO.out, HGW.out⟩
end Go.Proofs.Ytfcghkmhcfgfkaa
