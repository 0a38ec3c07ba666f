/- LfOwnInv -/
import Derived.Test.YthdncpkmhodokaaDoorLfC
/- What stays where a law writes into items of its own: keys, values and sizes. No function of the program. -/
namespace Go.Proofs.YthdncpkmhodokaaDoor
open Go.RowKit
set_option linter.unusedVariables false
set_option linter.unusedSimpArgs false
/-- A byte of a row of one's own, and what is written over it. -/
theorem mine_at {B : Nat} {W : World} {A : Option Addr} {n c : Nat} {b : List (BitVec 8)} (h : Mine B W (.slice A n c) b) {q : Nat} (hq : q < n) :
    ∃ gb cur, A = some ⟨gb, 0, none⟩ ∧ B ≤ gb ∧ Row W gb 5 cur ∧ ∃ x : BitVec 8, cur[q]? = some (.int .u8 (bI x)) := by
  have hn := h.len
  rcases h.2 with ⟨e, h0⟩ | ⟨gb, cp, cur, e, hb, hh, h1, h2, h3, h4⟩
  · omega
  · injection e with e1 _ _
    refine ⟨gb, cur, e1, hb, hh, b[q]'(by omega), ?_⟩
    have h5 : (b.map byteV)[q]? = some (byteV (b[q]'(by omega))) := by rw [List.getElem?_map, List.getElem?_eq_getElem (by omega)]; rfl
    rw [← h4, List.getElem?_take_of_lt (by omega), Array.getElem?_toList] at h5
    exact h5
theorem mine_set {B gb q : Nat} {W : World} {v : Value} {b : List (BitVec 8)} (h : Mine B W v b) {cur : Array Value} (hr : Row W gb 5 cur) (y : BitVec 8) : ∃ b', Mine B (W.setCell ⟨gb, q, none⟩ (.int .u8 (bI y))) v b' ∧ b'.length = b.length := by
  rcases h.2 with ⟨rfl, h0⟩ | ⟨g, cp, cs, rfl, hb, hh, h1, h2, h3, h4⟩
  · obtain rfl : b = [] := List.length_eq_zero_iff.1 h0
    exact ⟨[], Mine.nil _ _, rfl⟩
  · by_cases hg : g = gb
    · subst hg
      refine ⟨b.set q y, ⟨by simp, .inr ⟨g, cp, cs.setIfInBounds q (.int .u8 (bI y)), by rw [List.length_set], hb, Row.set (w := W) hh q _, by rw [List.length_set]; exact h1, h2, by rw [Array.size_setIfInBounds]; exact h3, ?_⟩⟩, List.length_set⟩
      rw [Array.toList_setIfInBounds, List.length_set, List.take_set, h4, List.map_set]
      rfl
    · refine ⟨b, ⟨h.1, .inr ⟨g, cp, cs, rfl, hb, (Below.heap_setCell W ⟨gb, q, none⟩ _ g hg).trans hh, h1, h2, h3, h4⟩⟩, rfl⟩
/-- Items in memory from B on stay where a block below B is written. -/
theorem OwnIts.far {B g : Nat} {W W' : World} {v : Value} {l : List It} (h : OwnIts B W v l) (hg : W.grownBy W' (some g)) (hlt : g < B) : OwnIts B W' v l := by
  have keep : ∀ {e : TypeId} {s : Nat} {u : Value} {n : Nat} {xs : List Value}, W.ownsRow B e s u n xs → W'.ownsRow B e s u n xs := fun {e s u n xs} ho => by
    refine World.ownsRow.kept ho hg ?_
    rcases ho.2 with ⟨rfl, _⟩ | ⟨k, cp, cur, rfl, hb, _⟩
    · exact .inl rfl
    · refine .inr fun e => ?_
      simp only [Value.ownBlock, Option.some.injEq] at e
      omega
  obtain ⟨rs, h1, h2, h3⟩ := h
  exact ⟨rs, ⟨h1.1, keep h1.2⟩, h2, fun j r x hr hx => ⟨keep (h3 j r x hr hx).1, keep (h3 j r x hr hx).2.1, (h3 j r x hr hx).2.2⟩⟩
/-- What stays where keys, values and sizes of the items rs in block g are written over. -/
structure OwnInv6 (B1 B2 g : Nat) (w : World) (rs : List Raw) (wv : Value) (l : List It) (W : World) : Prop where
  row : 0 < rs.length → B1 ≤ g ∧ g < B2 ∧ ∃ cur : Array Value, Row W g 45 cur ∧ ∀ (j : Nat) (r : Raw), rs[j]? = some r → cur[j * 8]? = some (.slice r.ka r.kn r.kc) ∧ cur[j * 8 + 1]? = some (.slice r.va r.vn r.vc) ∧ ∃ s : BitVec 16, cur[j * 8 + 7]? = some (.int .u16 (hI s))
  bytes : ∀ (j : Nat) (r : Raw), rs[j]? = some r → (∃ b, Mine B1 W (.slice r.ka r.kn r.kc) b) ∧ (∃ b, Mine B1 W (.slice r.va r.vn r.vc) b) ∧ (∀ k, (Value.slice r.ka r.kn r.kc).ownBlock = some k → k < B2) ∧ (∀ k, (Value.slice r.va r.vn r.vc).ownBlock = some k → k < B2)
  was : OwnIts B2 W wv l
  below : Below B1 w W
  big : B2 ≤ W.heap.size
  le : B1 ≤ B2
theorem OwnInv6.start {B1 B2 g n c : Nat} {w W0 W : World} {rs : List Raw} {wv : Value} {l m : List It} (h : Own' 45 8 rawE B1 W0 (.slice (some ⟨g, 0, none⟩) n c) rs) (hb : ∀ (j : Nat) (r : Raw) (x : It), rs[j]? = some r → m[j]? = some x → RawOwn B1 W0 r x) (hm : rs.length = m.length)
    (hW0 : W0.heap.size = B2) (hle : B1 ≤ B2) (hg : Grows W0 W) (hw : OwnIts B2 W wv l) (hbe : Below B1 w W) : OwnInv6 B1 B2 g w rs wv l W := by
  have hsz := hg.size
  refine ⟨fun hp => ?_, fun j r hr => ?_, hw, hbe, by omega, hle⟩
  · rcases h.2.2 with ⟨e, h0⟩ | ⟨g', cp, cur, e, hb1, hh, h1, h2, h3, h4⟩
    · cases e
    · injection e with e1 _ _
      injection e1 with e1
      injection e1 with e1 _ _
      subst e1
      have hlt : g < W0.heap.size := (Array.getElem?_eq_some_iff.1 hh).1
      refine ⟨hb1, by omega, cur, Row.grows (w := W0) hh hg, fun j r hr => ?_⟩
      have hx : ∀ i u, (rawE r)[i]? = some u → cur[j * 8 + i]? = some u := fun i u hu => by
        have hj := (List.getElem?_eq_some_iff.1 hr).1
        have hi : i < 8 := (List.getElem?_eq_some_iff.1 hu).1
        have hf := range_flat (W := W0) (b := g) (o := 0) h.1 (fun k u hk => by
          rw [← h4] at hk
          have hkl := (List.getElem?_eq_some_iff.1 hk).1
          rw [List.length_take] at hkl
          rw [List.getElem?_take_of_lt (by omega)] at hk
          rw [Nat.zero_add, cell_of_row W0 g k cur 45 (0, 0) hh]
          simpa using hk) hr i u hu
        rw [Nat.zero_add, cell_of_row W0 g _ cur 45 (0, 0) hh] at hf
        exact hf
      exact ⟨hx 0 _ rfl, hx 1 _ rfl, r.size, hx 7 _ rfl⟩
  · have hj := (List.getElem?_eq_some_iff.1 hr).1
    have hx : m[j]? = some (m[j]'(by omega)) := List.getElem?_eq_getElem (by omega)
    have ho := hb j r _ hr hx
    exact ⟨⟨_, ho.1.grows hg⟩, ⟨_, ho.2.1.grows hg⟩, fun k hk => by have := (ho.1.lt k hk).2; omega, fun k hk => by have := (ho.2.1.lt k hk).2; omega⟩
/-- The step from one world to the next, a byte written in the block gb. -/
theorem OwnInv6.byte {B1 B2 g gb q : Nat} {w W : World} {rs : List Raw} {wv : Value} {l : List It} (h : OwnInv6 B1 B2 g w rs wv l W) {cb : Array Value} (hb : Row W gb 5 cb) (h1 : B1 ≤ gb) (h2 : gb < B2) (y : BitVec 8) : OwnInv6 B1 B2 g w rs wv l (W.setCell ⟨gb, q, none⟩ (.int .u8 (bI y))) where
  row := fun hp => by
    obtain ⟨e1, e2, cur, hr, hc⟩ := h.row hp
    refine ⟨e1, e2, cur, hr.far ?_ _, hc⟩
    rintro rfl
    unfold Row at hr hb
    rw [hr] at hb
    injection hb with hb
    injection hb with _ ht
    exact absurd ht (by decide)
  bytes := fun j r hr => by
    obtain ⟨⟨b1, m1⟩, ⟨b2, m2⟩, k1, k2⟩ := h.bytes j r hr
    obtain ⟨b1', m1', _⟩ := mine_set (q := q) m1 hb y
    obtain ⟨b2', m2', _⟩ := mine_set (q := q) m2 hb y
    exact ⟨⟨b1', m1'⟩, ⟨b2', m2'⟩, k1, k2⟩
  was := h.was.far (setCell_grown _ _ _ _) h2
  below := Below.setCell h.below (p := ⟨gb, q, none⟩) h1 _
  big := by rw [World.size_setCell]; exact h.big
  le := h.le
theorem OwnInv6.size {B1 B2 g j : Nat} {w W : World} {rs : List Raw} {wv : Value} {l : List It} (h : OwnInv6 B1 B2 g w rs wv l W) (hj : j < rs.length) (y : BitVec 16) : OwnInv6 B1 B2 g w rs wv l (W.setCell ⟨g, j * 8 + 7, none⟩ (.int .u16 (hI y))) := by
  obtain ⟨e1, e2, cur, hr, hc⟩ := h.row (by omega)
  refine ⟨fun _ => ⟨e1, e2, _, hr.set _ _, fun i r hi => ?_⟩, fun i r hi => ?_, h.was.far (setCell_grown _ _ _ _) e2, Below.setCell h.below (p := ⟨g, j * 8 + 7, none⟩) e1 _, by rw [World.size_setCell]; exact h.big, h.le⟩
  · obtain ⟨c0, c1, s, c7⟩ := hc i r hi
    refine ⟨?_, ?_, ?_⟩
    · rw [Array.getElem?_setIfInBounds, if_neg (by omega)]; exact c0
    · rw [Array.getElem?_setIfInBounds, if_neg (by omega)]; exact c1
    · by_cases hij : j = i
      · subst hij
        refine ⟨y, ?_⟩
        rw [Array.getElem?_setIfInBounds, if_pos rfl, if_pos (Array.getElem?_eq_some_iff.1 c7).1]
      · refine ⟨s, ?_⟩
        rw [Array.getElem?_setIfInBounds, if_neg (by omega)]; exact c7
  · obtain ⟨⟨b1, m1⟩, ⟨b2, m2⟩, k1, k2⟩ := h.bytes i r hi
    exact ⟨⟨b1, m1.apart (setCell_grown _ _ _ _) hr (by decide)⟩, ⟨b2, m2.apart (setCell_grown _ _ _ _) hr (by decide)⟩, k1, k2⟩
theorem OwnInv6.grows {B1 B2 g : Nat} {w W W' : World} {rs : List Raw} {wv : Value} {l : List It} (h : OwnInv6 B1 B2 g w rs wv l W) (hg : Grows W W') : OwnInv6 B1 B2 g w rs wv l W' where
  row := fun hp => by
    obtain ⟨e1, e2, cur, hr, hc⟩ := h.row hp
    exact ⟨e1, e2, cur, hr.grows hg, hc⟩
  bytes := fun j r hr => by
    obtain ⟨⟨b1, m1⟩, ⟨b2, m2⟩, k1, k2⟩ := h.bytes j r hr
    exact ⟨⟨b1, m1.grows hg⟩, ⟨b2, m2.grows hg⟩, k1, k2⟩
  was := h.was.grows hg
  below := h.below.trans (Below.mono hg (Nat.le_trans h.le h.big))
  big := Nat.le_trans h.big hg.size
  le := h.le
/-- A key's byte, or a value's: where it lies, and what stays when it is written over. -/
theorem OwnInv6.key {B1 B2 g j q : Nat} {w W : World} {rs : List Raw} {wv : Value} {l : List It} {r : Raw} (h : OwnInv6 B1 B2 g w rs wv l W) (hr : rs[j]? = some r) (hq : q < r.kn) : ∃ gb x, r.ka = some ⟨gb, 0, none⟩ ∧ W.cell? ⟨gb, q, none⟩ = some (.int .u8 (bI x)) ∧ W.frozen? ⟨gb, q, none⟩ = false ∧ ∀ y, OwnInv6 B1 B2 g w rs wv l (W.setCell ⟨gb, q, none⟩ (.int .u8 (bI y))) := by
  obtain ⟨⟨b, m⟩, _, k1, _⟩ := h.bytes j r hr
  obtain ⟨gb, cb, e, hb, hrow, x, hx⟩ := mine_at m hq
  exact ⟨gb, x, e, (hrow.cell q).trans hx, hrow.frozen q, fun y => h.byte hrow hb (k1 gb (by rw [e]; rfl)) y⟩
theorem OwnInv6.val {B1 B2 g j q : Nat} {w W : World} {rs : List Raw} {wv : Value} {l : List It} {r : Raw} (h : OwnInv6 B1 B2 g w rs wv l W) (hr : rs[j]? = some r) (hq : q < r.vn) : ∃ gb x, r.va = some ⟨gb, 0, none⟩ ∧ W.cell? ⟨gb, q, none⟩ = some (.int .u8 (bI x)) ∧ W.frozen? ⟨gb, q, none⟩ = false ∧ ∀ y, OwnInv6 B1 B2 g w rs wv l (W.setCell ⟨gb, q, none⟩ (.int .u8 (bI y))) := by
  obtain ⟨_, ⟨b, m⟩, _, k2⟩ := h.bytes j r hr
  obtain ⟨gb, cb, e, hb, hrow, x, hx⟩ := mine_at m hq
  exact ⟨gb, x, e, (hrow.cell q).trans hx, hrow.frozen q, fun y => h.byte hrow hb (k2 gb (by rw [e]; rfl)) y⟩
/-- An item's cells. -/
theorem OwnInv6.cells {B1 B2 g j : Nat} {w W : World} {rs : List Raw} {wv : Value} {l : List It} {r : Raw} (h : OwnInv6 B1 B2 g w rs wv l W) (hr : rs[j]? = some r) : W.cell? ⟨g, j * 8, none⟩ = some (.slice r.ka r.kn r.kc) ∧ W.cell? ⟨g, j * 8 + 1, none⟩ = some (.slice r.va r.vn r.vc) ∧ (∃ s : BitVec 16, W.cell? ⟨g, j * 8 + 7, none⟩ = some (.int .u16 (hI s))) ∧ W.frozen? ⟨g, j * 8 + 7, none⟩ = false ∧ (r.kn ≤ r.kc ∧ r.kc ≤ 2 ^ 63 - 1) ∧ r.vn ≤ r.vc ∧ r.vc ≤ 2 ^ 63 - 1 := by
  have hj := (List.getElem?_eq_some_iff.1 hr).1
  obtain ⟨e1, e2, cur, hrow, hc⟩ := h.row (by omega)
  obtain ⟨c0, c1, s, c7⟩ := hc j r hr
  obtain ⟨⟨b1, m1⟩, ⟨b2, m2⟩, _⟩ := h.bytes j r hr
  refine ⟨(hrow.cell _).trans c0, (hrow.cell _).trans c1, ⟨s, (hrow.cell _).trans c7⟩, hrow.frozen _, ?_, ?_⟩
  · obtain ⟨A, c, e, h1, h2⟩ := m1.form
    injection e with _ e2 e3
    unfold maxLen at h2
    omega
  · obtain ⟨A, c, e, h1, h2⟩ := m2.form
    injection e with _ e2 e3
    unfold maxLen at h2
    omega
end Go.Proofs.YthdncpkmhodokaaDoor
