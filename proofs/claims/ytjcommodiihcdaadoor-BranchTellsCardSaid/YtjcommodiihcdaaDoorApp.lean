/- App -/
import Derived.Test.YtjcommodiihcdaaDoorBaseA
import Derived.Test.YtjcommodiihcdaaDoorRows
import Derived.Maps.AppendAt
import Derived.Laws.OwnMore
import Derived.OwnWalkIn
import Derived.RangeFuncBox
import Derived.Lib.Hide
/- Rows of bytes in memory of a call's own, and append to them, whatever is appended. No function of the program. -/
namespace Go.Proofs.YtjcommodiihcdaaDoor
open Go.RowKit
/-- v holds these bytes, in a block of the call's own (from base on), or is nil. -/
def Mine (base : Nat) (w : World) (v : Value) (l : List (BitVec 8)) : Prop := w.ownsRow base 5 1 v l.length (l.map byteV)
theorem Mine.bytes {base : Nat} {w : World} {v : Value} {l : List (BitVec 8)} (h : Mine base w v l) : Bytes w.heap.size w v l := Sl.of_own h
theorem Mine.more {base b : Nat} {w : World} {v : Value} {l : List (BitVec 8)} (h : Mine base w v l) (hb : b ≤ base) : Mine b w v l :=
  ⟨h.1, h.2.imp id fun ⟨g, cap, cur, h1, h2, h3⟩ => ⟨g, cap, cur, h1, Nat.le_trans hb h2, h3⟩⟩
theorem Mine.grows {base : Nat} {w w' : World} {v : Value} {l : List (BitVec 8)} (h : Mine base w v l) (hg : Grows w w') : Mine base w' v l := own_grows h hg
theorem Mine.nil (base : Nat) (w : World) : Mine base w (.slice none 0 0) [] := World.ownsRow_nil _ _ _ _
theorem Mine.drew {base : Nat} {w : World} {v : Value} {l : List (BitVec 8)} (h : Mine base w v l) : Mine base w.drew v l := h
/-- A literal of bytes, just made. -/
theorem Mine.lit {base : Nat} (w : World) (cs : Array Value) (l : List (BitVec 8)) (hb : base ≤ w.heap.size) (hm : l.length ≤ 1000000) (hs : cs.toList = l.map byteV) :
    Mine base (w.alloc (.cells cs 5)) (.slice (some ⟨w.heap.size, 0, none⟩) l.length l.length) l := by
  have hc : cs.size = l.length := by rw [← Array.length_toList, hs, List.length_map]
  have := World.ownsRow_lit (base := base) (e := 5) (size := 1) w cs l.length hb (by unfold maxLen; omega) (by omega)
  unfold Mine
  rwa [hs] at this
theorem Mine.lt {base : Nat} {w : World} {v : Value} {l : List (BitVec 8)} (h : Mine base w v l) : ∀ k, v.ownBlock = some k → base ≤ k ∧ k < w.heap.size := World.ownsRow.lt h
theorem Mine.len {base : Nat} {w : World} {A : Option Addr} {n cap : Nat} {l : List (BitVec 8)} (h : Mine base w (.slice A n cap) l) : n = l.length := by
  rcases h.2 with ⟨h', h0⟩ | ⟨g, c, cur, h', _⟩
  · simp at h'; omega
  · simp at h'; omega
theorem Mine.form {base : Nat} {w : World} {v : Value} {l : List (BitVec 8)} (h : Mine base w v l) : ∃ A cap, v = .slice A l.length cap ∧ l.length ≤ cap ∧ cap ≤ maxLen := by
  rcases h.2 with ⟨h', h0⟩ | ⟨g, c, cur, h', _, _, h1, h2, _⟩
  · exact ⟨none, 0, by rw [h', h0], by omega, by decide⟩
  · exact ⟨_, c, h', h1, h2⟩
theorem below_mine {B base : Nat} {w0 w w' : World} {v : Value} {l : List (BitVec 8)} (hb : Below B w0 w) (hv : Mine base w v l) (hg : w.grownBy w' v.ownBlock) (hB : B ≤ base) (hB0 : B ≤ w.heap.size) : Below B w0 w' :=
  hb.grown hg hB0 fun k hk => Nat.le_trans hB (hv.lt k hk).1
theorem byteV_one (l : List (BitVec 8)) : ∀ u ∈ l.map byteV, u.oneCell' = true := by
  intro u hu
  obtain ⟨_, _, rfl⟩ := List.mem_map.1 hu
  rfl
theorem info_u8 : ∃ i, Tryd.prog.info? 5 = some i ∧ i.zero = some (.int .u8 0) ∧ i.size = 1 ∧ i.bytes = 1 :=
  info_parts (show (Tryd.prog.info? 5).map (fun i => (i.zero, i.size, i.bytes)) = some (some (.int .u8 0), 1, 1) by kernel_rfl)
/-- append onto a row of one's own, whatever bytes. -/
theorem run_append_mine {base B : Nat} {w : World} {v x : Value} {l m : List (BitVec 8)} (ty : TypeId) (hv : Mine base w v l) (hx : Bytes B w x m) (hlen : l.length + m.length ≤ 1000000) (hb : base ≤ w.heap.size) :
    ∃ v' w', (Builtin.append_ #[40, 40] ty #[v, x]).run Tryd.prog w = .ok v' w' ∧ Mine base w' v' (l ++ m) ∧ w.grownBy w' v.ownBlock ∧ (v'.ownBlock = v.ownBlock ∨ v'.ownBlock = some w.heap.size) ∧ (0 < l.length + m.length → ∃ g cap, v' = .slice (some ⟨g, 0, none⟩) (l.length + m.length) cap) := by
  obtain ⟨i0, hi, hz0, hz1, hz2⟩ := info_u8
  obtain ⟨A, cap, rfl, h1, h2, h3⟩ := hx
  simp only [List.length_map] at h1 h3 ⊢
  cases A with
  | none =>
    have hm : m = [] := by
      by_cases hp : 0 < m.length
      · obtain ⟨_, _, h, _⟩ := h3 hp; cases h
      · exact List.length_eq_zero_iff.1 (by omega)
    subst hm
    have hr : (Builtin.append_ #[40, 40] ty #[v, .slice none 0 cap]).run Tryd.prog w = .ok v w := by
      have hv' := hv
      rcases hv'.2 with ⟨rfl, h0⟩ | ⟨g, cp, cur, rfl, _, _, hnc, _⟩
      · simp [Builtin.append_, run_underlying Tryd.underlying40, sizeOf, typeInfo, hi, Builtin.lenOf, Builtin.firstCells]
      · simp [Builtin.append_, run_underlying Tryd.underlying40, sizeOf, typeInfo, hi, Builtin.lenOf, Builtin.firstCells, hnc, storeCells]
    refine ⟨v, w, hr, by simpa using hv, World.grownBy.refl _ _, .inl rfl, fun hp => ?_⟩
    rcases hv.2 with ⟨rfl, h0⟩ | ⟨g, cp, cur, hv', _⟩
    · simp only [List.length_nil] at hp; omega
    · exact ⟨g, cp, hv'⟩
  | some a =>
    have hc : ∀ j u, (m.map byteV)[j]? = some u → w.cell? (a.add j) = some u := fun j u hu => by
      have hp : 0 < m.length := by
        have := (List.getElem?_eq_some_iff.1 hu).1
        simp only [List.length_map] at this
        omega
      obtain ⟨b, o, ha, _, hcell⟩ := h3 hp
      cases ha
      rw [add_lit]
      exact hcell j u hu
    obtain ⟨v', w', hr, ho, hg, _, hat⟩ := run_append_own_at (P := Tryd.prog) w base 40 ty 5 i0 (.int .u8 0) 1 1 Tryd.underlying40 hi hz0 hz1 hz2 rfl (by decide) v l.length (l.map byteV) hv a m.length cap (m.map byteV) (by simp) hc (byteV_one m) (by unfold maxLen; omega) (by omega) hb
    refine ⟨v', w', hr, ?_, hg, hat, fun hp => ?_⟩
    · unfold Mine
      simpa using ho
    · rcases ho.2 with ⟨rfl, h0⟩ | ⟨g, cp, cur, hv', _⟩
      · omega
      · exact ⟨g, cp, hv'⟩
section
variable {w : World} {ops : Array Oper} {rest : List Oper} {o : Oper} {a : Act} {Q : Exit → Act → World → Prop}
theorem wpList_append_mine (hgd : o.guard = none) (s x : Operand)
    (ho : o.op = .call { callee := .builtin .append, args := #[s, x], argTypes := #[40, 40] }) (base B : Nat) (l m : List (BitVec 8))
    (hv : Mine base w (a.eval s) l) (hx : Bytes B w (a.eval x) m) (hlen : l.length + m.length ≤ 1000000) (hb : base ≤ w.heap.size)
    (h : ∀ v' w', Mine base w' v' (l ++ m) → w.grownBy w' (a.eval s).ownBlock → (v'.ownBlock = (a.eval s).ownBlock ∨ v'.ownBlock = some w.heap.size) → (0 < l.length + m.length → ∃ g cap, v' = .slice (some ⟨g, 0, none⟩) (l.length + m.length) cap) → wpList Tryd.prog ops Q rest (a.put o.dst v') w') :
    wpList Tryd.prog ops Q (o :: rest) a w := by
  refine wpList_plain hgd fun K hK => ?_
  obtain ⟨v', w', hr, h2, h3, h4, h5⟩ := run_append_mine o.type hv hx hlen hb
  unfold Oper.wp execOp
  simp only [ho, resolve, invoke, builtin, Sem.run_bind, Sem.run_pure, Result.andThen_ok, List.map_toArray, List.map_cons, List.map_nil, hr]
  exact hK _ _ (h v' w' h2 h3 h4 h5)
theorem wpListIn_append_mine {F : Fence} {n : Nat} (hgd : o.guard = none) (s x : Operand)
    (ho : o.op = .call { callee := .builtin .append, args := #[s, x], argTypes := #[40, 40] }) (base B : Nat) (l m : List (BitVec 8))
    (hv : Mine base w (a.eval s) l) (hx : Bytes B w (a.eval x) m) (hlen : l.length + m.length ≤ 1000000) (hb : base ≤ w.heap.size)
    (h : ∀ v' w', Mine base w' v' (l ++ m) → w.grownBy w' (a.eval s).ownBlock → (v'.ownBlock = (a.eval s).ownBlock ∨ v'.ownBlock = some w.heap.size) → (0 < l.length + m.length → ∃ g cap, v' = .slice (some ⟨g, 0, none⟩) (l.length + m.length) cap) → wpListIn F n Tryd.prog ops Q rest (a.put o.dst v') w') :
    wpListIn F n Tryd.prog ops Q (o :: rest) a w := by
  refine wpListIn_plain hgd fun K hK => ?_
  obtain ⟨v', w', hr, h2, h3, h4, h5⟩ := run_append_mine o.type hv hx hlen hb
  unfold Oper.wpIn
  refine ⟨?_, ?_⟩
  · simp [Oper.about, ho, resolve, Target.leads, Sem.run_pure]
  · rw [Oper.semAt_plain F _ _ (by rw [ho]; intro c hc'; cases hc')]
    unfold execOp
    simp only [ho, resolve, invoke, builtin, Sem.run_bind, Sem.run_pure, Result.andThen_ok, List.map_toArray, List.map_cons, List.map_nil, hr]
    exact hK _ _ (h v' w' h2 h3 h4 h5)
end
/-- append onto a literal of no bytes: nothing that lay before is turned. -/
theorem run_append_empty {B : Nat} {w : World} {g : Nat} {x : Value} {m : List (BitVec 8)} (ty : TypeId) (hr : Row w g 5 #[]) (hx : Bytes B w x m) (hlen : m.length ≤ 1000000) :
    ∃ v' w', (Builtin.append_ #[40, 40] ty #[.slice (some ⟨g, 0, none⟩) 0 0, x]).run Tryd.prog w = .ok v' w' ∧ Grows w w' ∧ Mine g w' v' m := by
  obtain ⟨i0, hi, hz0, hz1, hz2⟩ := info_u8
  have hv : Mine g w (.slice (some ⟨g, 0, none⟩) 0 0) [] := ⟨rfl, .inr ⟨g, 0, #[], rfl, Nat.le_refl _, hr, Nat.le_refl _, Nat.zero_le _, rfl, rfl⟩⟩
  by_cases hm : m.length = 0
  · obtain rfl : m = [] := List.length_eq_zero_iff.1 hm
    obtain ⟨A, cap, rfl, h1, h2, h3⟩ := hx
    cases A with
    | none =>
      refine ⟨.slice (some ⟨g, 0, none⟩) 0 0, w, ?_, Grows.refl _, hv⟩
      simp [Builtin.append_, run_underlying Tryd.underlying40, sizeOf, typeInfo, hi, Builtin.lenOf, Builtin.firstCells, storeCells]
    | some a =>
      have hrun := run_append_room (P := Tryd.prog) w 40 ty 5 i0 Tryd.underlying40 hi g 0 0 #[] hr a 0 cap [] (by simp) (fun j u hu => by simp at hu) (by simp) (by omega) (by simp)
      have he : ((#[] : Array Value).toList.take (0 * i0.size) ++ [] ++ (#[] : Array Value).toList.drop (0 * i0.size + ([] : List Value).length)).toArray = (#[] : Array Value) := by simp
      rw [he] at hrun
      have hrow := Row.setRow hr #[]
      refine ⟨_, _, hrun, ⟨rfl, rfl, rfl, by simp [World.setRow], fun k hk => ?_⟩, ⟨rfl, .inr ⟨g, 0, #[], rfl, Nat.le_refl _, hrow, Nat.le_refl _, Nat.zero_le _, rfl, rfl⟩⟩⟩
      by_cases hkg : k = g
      · subst hkg
        exact (Row.setRow hr _).trans hr.symm
      · exact setRow_other w g k _ hkg
  · obtain ⟨A, cap, rfl, h1, h2, h3⟩ := hx
    simp only [List.length_map] at h1 h3 ⊢
    obtain ⟨b, o, rfl, _, hcell⟩ := h3 (by omega)
    have hrun := run_append_grow (P := Tryd.prog) w 40 ty 5 i0 (.int .u8 0) Tryd.underlying40 hi hz0 ⟨g, 0, none⟩ 0 0 [] (by simp) (fun j u hu => by simp at hu) ⟨b, o, none⟩ m.length cap (m.map byteV) (by simp [hz1]) (fun j u hu => by rw [add_lit]; exact hcell j u hu) (by omega) (by omega) (growslice_fits (by omega) (by rw [hz2]; omega))
    obtain ⟨v', w', hr', h2', h3', h4', _⟩ := run_append_mine ty hv (show Bytes B w (.slice (some ⟨b, o, none⟩) m.length cap) m from ⟨_, cap, by simp, by simpa using h1, h2, fun _ => ⟨b, o, rfl, by assumption, hcell⟩⟩) (by simpa using hlen) (Nat.le_of_lt hr.lt)
    rw [hrun] at hr'
    injection hr' with e1 e2
    subst e1 e2
    exact ⟨_, _, hrun, (Grows.drew w).trans (Grows.alloc _ _), h2'⟩
theorem does_append_empty {B : Nat} {w : World} {o : Oper} {ρ : Operand → Value} {g : Nat} {m : List (BitVec 8)} (s x : Operand)
    (ho : o.op = .call { callee := .builtin .append, args := #[s, x], argTypes := #[40, 40] })
    (hs : ρ s = .slice (some ⟨g, 0, none⟩) 0 0) (hr : Row w g 5 #[]) (hx : Bytes B w (ρ x) m) (hlen : m.length ≤ 1000000) :
    Does Tryd.prog o ρ w fun v' w' => Grows w w' ∧ Mine g w' v' m := by
  obtain ⟨v', w', hrun, h2, h3⟩ := run_append_empty o.type hr hx hlen
  unfold Does execOp
  simp only [ho, resolve, invoke, builtin, Sem.run_bind, Sem.run_pure, Result.andThen_ok, List.map_toArray, List.map_cons, List.map_nil, hs, hrun]
  exact ⟨h2, h3⟩
theorem wpList_append_empty {w : World} {ops : Array Oper} {rest : List Oper} {o : Oper} {a : Act} {Q : Exit → Act → World → Prop} (hgd : o.guard = none) (s x : Operand)
    (ho : o.op = .call { callee := .builtin .append, args := #[s, x], argTypes := #[40, 40] }) (B g : Nat) (m : List (BitVec 8))
    (hs : a.eval s = .slice (some ⟨g, 0, none⟩) 0 0) (hr : Row w g 5 #[]) (hx : Bytes B w (a.eval x) m) (hlen : m.length ≤ 1000000)
    (h : ∀ v' w', Grows w w' → Mine g w' v' m → wpList Tryd.prog ops Q rest (a.put o.dst v') w') :
    wpList Tryd.prog ops Q (o :: rest) a w := by
  refine wpList_plain hgd fun K hK => ?_
  obtain ⟨v', w', hrun, h2, h3⟩ := run_append_empty o.type hr hx hlen
  unfold Oper.wp execOp
  simp only [ho, resolve, invoke, builtin, Sem.run_bind, Sem.run_pure, Result.andThen_ok, List.map_toArray, List.map_cons, List.map_nil, hs, hrun]
  exact hK _ _ (h v' w' h2 h3)
section
variable {w : World} {ops : Array Oper} {rest : List Oper} {o : Oper} {a : Act} {Q : Exit → Act → World → Prop}
theorem wpListIn_make_mine {F : Fence} {n : Nat} (hgd : o.guard = none) (l c : Operand) (ho : o.op = Op.makeSlice 40 l c) (base m : Nat) (C : Int)
    (hl : a.eval l = .int .i64 0) (hc : a.eval c = .int .i64 C) (hC : C = (m : Int)) (hm : m ≤ 1000000) (hb : base ≤ w.heap.size)
    (h : ∀ w', Mine base w' (.slice (some ⟨w.heap.size, 0, none⟩) 0 m) [] → Grows w w' → w.heap.size < w'.heap.size → wpListIn F n Tryd.prog ops Q rest (a.put o.dst (.slice (some ⟨w.heap.size, 0, none⟩) 0 m)) w') :
    wpListIn F n Tryd.prog ops Q (o :: rest) a w := by
  obtain ⟨i0, hi, hz0, hz1, hz2⟩ := info_u8
  refine wpListIn_make_own w hgd l c 40 ho base 5 i0 (.int .u8 0) 1 Tryd.underlying40 hi hz0 hz1 .i64 .i64 C m hl hc hC (by rw [hz2]; omega) (by unfold maxLen; omega) hb fun w' h1 h2 => ?_
  exact h w' h1 ((Below.refl _ w).grown h2 (Nat.le_refl _) (fun k e => by cases e)) (World.ownsRow.lt h1 _ rfl).2
theorem wpList_make_mine (hgd : o.guard = none) (l c : Operand) (ho : o.op = Op.makeSlice 40 l c) (base m : Nat) (C : Int)
    (hl : a.eval l = .int .i64 0) (hc : a.eval c = .int .i64 C) (hC : C = (m : Int)) (hm : m ≤ 1000000) (hb : base ≤ w.heap.size)
    (h : ∀ w', Mine base w' (.slice (some ⟨w.heap.size, 0, none⟩) 0 m) [] → Grows w w' → w.heap.size < w'.heap.size → wpList Tryd.prog ops Q rest (a.put o.dst (.slice (some ⟨w.heap.size, 0, none⟩) 0 m)) w') :
    wpList Tryd.prog ops Q (o :: rest) a w := by
  obtain ⟨i0, hi, hz0, hz1, hz2⟩ := info_u8
  refine wpList_make_own w hgd l c 40 ho base 5 i0 (.int .u8 0) 1 Tryd.underlying40 hi hz0 hz1 .i64 .i64 C m hl hc hC (by rw [hz2]; omega) (by unfold maxLen; omega) hb fun w' h1 h2 => ?_
  exact h w' h1 ((Below.refl _ w).grown h2 (Nat.le_refl _) (fun k e => by cases e)) (World.ownsRow.lt h1 _ rfl).2
end
/-- One byte just laid, as a slice. -/
theorem Bytes.one (W : World) (y : BitVec 8) : Bytes (W.heap.size + 1) (W.alloc (.cells #[.int .u8 (bI y)] 5)) (.slice (some ⟨W.heap.size, 0, none⟩) 1 1) [y] :=
  Sl.of_row (heap_alloc_new W _) (Nat.lt_succ_self _) 1 [byteV y] rfl (Nat.le_refl _) (by decide)
/-- Another box than the one that an append is stored into, and than its row, stays. -/
theorem boxed_aside {W w1 : World} {b B n₀ : Nat} {t e : TypeId} {u v v' : Value} {size k : Nat} {xs : List Value} {tmp : Obj} (hb : Boxed W b t u) (hte : t ≠ e) (hrow : W.ownsRow n₀ e size v k xs)
    (hgrow : (W.alloc tmp).grownBy w1 v.ownBlock) (hne : b ≠ B) : Boxed (w1.setCell ⟨B, 0, none⟩ v') b t u :=
  ((hb.alloc tmp).kept hgrow (hb.not_row hte hrow)).kept (grownBy_setCell' w1 B v') (by simpa using hne)
end Go.Proofs.YtjcommodiihcdaaDoor
