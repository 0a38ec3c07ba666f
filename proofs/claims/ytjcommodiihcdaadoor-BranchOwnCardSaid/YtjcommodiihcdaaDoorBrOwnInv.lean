/- BrOwnInv -/
import Derived.Test.YtjcommodiihcdaaDoorBrD
import Derived.Test.YtjcommodiihcdaaDoorBrE
/- What stays where a law writes into kids of its own: keys and pointers. No function of the program. -/
namespace Go.Proofs.YtjcommodiihcdaaDoor
open Go.RowKit Go.Deep
set_option linter.unusedVariables false
set_option linter.unusedSimpArgs false
/-- From one world to the next nothing is turned but blocks from B1 to B2, and what is new. -/
structure Out (B1 B2 : Nat) (W W' : World) : Prop where
  below : Below B1 W W'
  high : ∀ k, B2 ≤ k → k < W.heap.size → W'.heap[k]? = W.heap[k]?
theorem Out.t {B1 B2 : Nat} {X Y Z : World} (h : Out B1 B2 X Y) (k : Out B1 B2 Y Z) : Out B1 B2 X Z :=
  ⟨h.below.trans k.below, fun i h1 h2 => (k.high i h1 (Nat.lt_of_lt_of_le h2 h.below.size)).trans (h.high i h1 h2)⟩
theorem Out.of_grows {B1 B2 : Nat} {W W' : World} (h : Grows W W') (hB : B1 ≤ W.heap.size) : Out B1 B2 W W' := ⟨Below.mono h hB, fun k _ h2 => Below.block h k h2⟩
theorem Out.set {B1 B2 g : Nat} {W : World} (h1 : B1 ≤ g) (h2 : g < B2) (o : Nat) (v : Value) : Out B1 B2 W (W.setCell ⟨g, o, none⟩ v) :=
  ⟨Below.setCell (Below.refl _ _) (p := ⟨g, o, none⟩) h1 v, fun k hk _ => Below.heap_setCell W ⟨g, o, none⟩ v k (by show k ≠ g; omega)⟩
theorem Out.row {B1 B2 g : Nat} {W W' : World} {t : TypeId} {cs : Array Value} (h : Out B1 B2 W W') (hr : Row W g t cs) (hg : g < B1 ∨ B2 ≤ g) : Row W' g t cs :=
  hg.elim (fun hg => (h.below.block g hg).trans hr) (fun hg => (h.high g hg hr.lt).trans hr)
theorem bmine_at {B : Nat} {W : World} {A : Option Addr} {n c : Nat} {b : List (BitVec 8)} (h : Mine B W (.slice A n c) b) {q : Nat} (hq : q < n) :
    ∃ gb cur, A = some ⟨gb, 0, none⟩ ∧ B ≤ gb ∧ Row W gb 5 cur ∧ ∃ x : BitVec 8, cur[q]? = some (.int .u8 (bI x)) := by
  have hn := h.len
  rcases h.2 with ⟨e, h0⟩ | ⟨gb, cp, cur, e, hb, hh, h1, h2, h3, h4⟩
  · omega
  · injection e with e1 _ _
    refine ⟨gb, cur, e1, hb, hh, b[q]'(by omega), ?_⟩
    have h5 : (b.map byteV)[q]? = some (byteV (b[q]'(by omega))) := by rw [List.getElem?_map, List.getElem?_eq_getElem (by omega)]; rfl
    rw [← h4, List.getElem?_take_of_lt (by omega), Array.getElem?_toList] at h5
    exact h5
theorem bmine_set {B gb q : Nat} {W : World} {v : Value} {b : List (BitVec 8)} (h : Mine B W v b) {cur : Array Value} (hr : Row W gb 5 cur) (y : BitVec 8) : ∃ b', Mine B (W.setCell ⟨gb, q, none⟩ (.int .u8 (bI y))) v b' := by
  rcases h.2 with ⟨rfl, h0⟩ | ⟨g, cp, cs, rfl, hb, hh, h1, h2, h3, h4⟩
  · exact ⟨[], Mine.nil _ _⟩
  · by_cases hg : g = gb
    · subst hg
      refine ⟨b.set q y, ⟨by simp, .inr ⟨g, cp, cs.setIfInBounds q (.int .u8 (bI y)), by rw [List.length_set], hb, Row.set (w := W) hh q _, by rw [List.length_set]; exact h1, h2, by rw [Array.size_setIfInBounds]; exact h3, ?_⟩⟩⟩
      rw [Array.toList_setIfInBounds, List.length_set, List.take_set, h4, List.map_set]
      rfl
    · exact ⟨b, ⟨h.1, .inr ⟨g, cp, cs, rfl, hb, (Below.heap_setCell W ⟨gb, q, none⟩ _ g hg).trans hh, h1, h2, h3, h4⟩⟩⟩
/-- What stays where keys and pointers of the kids rs in block g are written over. -/
structure OwnInv7 (B1 B2 g : Nat) (W0 : World) (rs : List KRaw) (W : World) : Prop where
  row : 0 < rs.length → B1 ≤ g ∧ g < B2 ∧ ∃ cur : Array Value, Row W g 47 cur ∧ rs.length * 6 ≤ cur.size ∧ ∀ (j : Nat) (r : KRaw), rs[j]? = some r → cur[j * 6]? = some (.slice r.ka r.kn r.kc)
  bytes : ∀ (j : Nat) (r : KRaw), rs[j]? = some r → (∃ b, Mine B1 W (.slice r.ka r.kn r.kc) b) ∧ (∀ k, (Value.slice r.ka r.kn r.kc).ownBlock = some k → k < B2)
  out : Out B1 B2 W0 W
theorem mine_same {B1 B2 : Nat} {ws W : World} {v : Value} {b : List (BitVec 8)} (h : Mine B1 ws v b) (hB : ws.heap.size = B2) (hs : ∀ k, B1 ≤ k → k < B2 → W.heap[k]? = ws.heap[k]?) : Mine B1 W v b := by
  refine ⟨h.1, ?_⟩
  rcases h.2 with e | ⟨g, cp, cs, e, hb, hh, h1⟩
  · exact .inl e
  · have hlt : g < ws.heap.size := (Array.getElem?_eq_some_iff.1 hh).1
    exact .inr ⟨g, cp, cs, e, hb, (hs g hb (by omega)).trans hh, h1⟩
theorem OwnInv7.start {B1 B2 n c : Nat} {A : Option Addr} {ws W : World} {m : List Kd} (h : OwnKds B1 ws (.slice A n c) m) (hB : ws.heap.size = B2) (hle : B1 ≤ W.heap.size) (hs : ∀ k, B1 ≤ k → k < B2 → W.heap[k]? = ws.heap[k]?) :
    ∃ (g : Nat) (rs : List KRaw), rs.length = n ∧ (0 < n → A = some ⟨g, 0, none⟩) ∧ n ≤ 2 ^ 63 - 1 ∧ OwnInv7 B1 B2 g W rs W := by
  obtain ⟨rs, h1, h2, h3⟩ := h
  have hby : ∀ (j : Nat) (r : KRaw), rs[j]? = some r → (∃ b, Mine B1 W (.slice r.ka r.kn r.kc) b) ∧ (∀ k, (Value.slice r.ka r.kn r.kc).ownBlock = some k → k < B2) := fun j r hr => by
    have hj := (List.getElem?_eq_some_iff.1 hr).1
    have ho := h3 j r _ hr (List.getElem?_eq_getElem (show j < m.length by omega))
    exact ⟨⟨_, mine_same ho.1 hB hs⟩, fun k hk => by have := (ho.1.lt k hk).2; omega⟩
  rcases h1.2.2 with ⟨e, h0⟩ | ⟨g, cp, cur, e, hb1, hh, k1, k2, k3, k4⟩
  · injection e with e1 e2 e3
    exact ⟨0, rs, by omega, fun hp => by omega, by omega, fun hp => by omega, hby, Out.of_grows (Grows.refl _) hle⟩
  · injection e with e1 e2 e3
    have hlt : g < ws.heap.size := (Array.getElem?_eq_some_iff.1 hh).1
    have hrow : Row W g 47 cur := (hs g hb1 (by omega)).trans hh
    unfold maxLen at k2
    refine ⟨g, rs, by omega, fun _ => e1, by omega, fun hp => ⟨hb1, by omega, cur, hrow, by rw [k3]; exact Nat.mul_le_mul_right 6 k1, fun j r hr => ?_⟩, hby, Out.of_grows (Grows.refl _) hle⟩
    have hj := (List.getElem?_eq_some_iff.1 hr).1
    have hf := range_flat (W := W) (b := g) (o := 0) h1.1 (fun k u hk => by
      rw [← k4] at hk
      have hkl := (List.getElem?_eq_some_iff.1 hk).1
      rw [List.length_take] at hkl
      rw [List.getElem?_take_of_lt (by omega)] at hk
      rw [Nat.zero_add, hrow.cell k]
      simpa using hk) hr 0 (.slice r.ka r.kn r.kc) rfl
    rw [Nat.zero_add, Nat.add_zero, hrow.cell] at hf
    exact hf
/-- The step from one world to the next, a byte written in the block gb. -/
theorem OwnInv7.byte {B1 B2 g gb q : Nat} {W0 W : World} {rs : List KRaw} (h : OwnInv7 B1 B2 g W0 rs W) {cb : Array Value} (hb : Row W gb 5 cb) (h1 : B1 ≤ gb) (h2 : gb < B2) (y : BitVec 8) : OwnInv7 B1 B2 g W0 rs (W.setCell ⟨gb, q, none⟩ (.int .u8 (bI y))) where
  row := fun hp => by
    obtain ⟨e1, e2, cur, hr, hc⟩ := h.row hp
    refine ⟨e1, e2, cur, hr.far ?_ _, hc⟩
    rintro rfl
    unfold Row at hr hb
    rw [hr] at hb
    injection hb with hb
    injection hb with _ ht
    exact absurd ht (by decide)
  bytes := fun j r hr => by
    obtain ⟨⟨b1, m1⟩, k1⟩ := h.bytes j r hr
    exact ⟨bmine_set (q := q) m1 hb y, k1⟩
  out := h.out.t (Out.set h1 h2 q _)
/-- A cell of a kid's pointer is written. -/
theorem OwnInv7.cell {B1 B2 g o : Nat} {W0 W : World} {rs : List KRaw} (h : OwnInv7 B1 B2 g W0 rs W) (hp : 0 < rs.length) (ho : ∀ j, j * 6 ≠ o) (v : Value) : OwnInv7 B1 B2 g W0 rs (W.setCell ⟨g, o, none⟩ v) := by
  obtain ⟨e1, e2, cur, hr, hsz, hc⟩ := h.row hp
  refine ⟨fun _ => ⟨e1, e2, _, hr.set _ _, by rw [Array.size_setIfInBounds]; exact hsz, fun i r hi => ?_⟩, fun i r hi => ?_, h.out.t (Out.set e1 e2 o v)⟩
  · rw [Array.getElem?_setIfInBounds, if_neg (fun e => ho i e.symm)]; exact hc i r hi
  · obtain ⟨⟨b1, m1⟩, k1⟩ := h.bytes i r hi
    exact ⟨⟨b1, m1.apartK (setCell_grown _ _ _ _) hr (by decide)⟩, k1⟩
theorem OwnInv7.ptr {B1 B2 g j : Nat} {W0 W : World} {rs : List KRaw} (h : OwnInv7 B1 B2 g W0 rs W) (hj : j < rs.length) (P : Pt) : OwnInv7 B1 B2 g W0 rs (W.setCells g (j * 6 + 1) (ptE P)) := by
  have hp : 0 < rs.length := by omega
  exact ((((h.cell hp (fun i e => by omega) (.int .u8 (bI P.kind))).cell hp (o := j * 6 + 1 + 1) (fun i e => by omega) (.int .u16 (hI P.a))).cell hp (o := j * 6 + 1 + 1 + 1) (fun i e => by omega) (.int .u16 (hI P.b))).cell hp (o := j * 6 + 1 + 1 + 1 + 1) (fun i e => by omega) (.int .u32 (wI P.birth))).cell hp (o := j * 6 + 1 + 1 + 1 + 1 + 1) (fun i e => by omega) (.int .u64 (uI P.sum))
theorem OwnInv7.there {B1 B2 g j : Nat} {W0 W : World} {rs : List KRaw} (h : OwnInv7 B1 B2 g W0 rs W) (hj : j < rs.length) : W.there g (j * 6 + 1) 5 := by
  obtain ⟨_, _, cur, hr, hsz, _⟩ := h.row (by omega)
  refine fun i hi => ⟨?_, hr.frozen _⟩
  rw [hr.cell, Array.getElem?_eq_getElem (by omega)]
  rfl
theorem OwnInv7.grows {B1 B2 g : Nat} {W0 W W' : World} {rs : List KRaw} (h : OwnInv7 B1 B2 g W0 rs W) (hB : B1 ≤ W0.heap.size) (hg : Grows W W') : OwnInv7 B1 B2 g W0 rs W' where
  row := fun hp => by
    obtain ⟨e1, e2, cur, hr, hc⟩ := h.row hp
    exact ⟨e1, e2, cur, hr.grows hg, hc⟩
  bytes := fun j r hr => by
    obtain ⟨⟨b1, m1⟩, k1⟩ := h.bytes j r hr
    exact ⟨⟨b1, m1.grows hg⟩, k1⟩
  out := h.out.t (Out.of_grows hg (Nat.le_trans hB h.out.below.size))
/-- A key's byte: where it lies, and what stays when it is written over. -/
theorem OwnInv7.key {B1 B2 g j q : Nat} {W0 W : World} {rs : List KRaw} {r : KRaw} (h : OwnInv7 B1 B2 g W0 rs W) (hr : rs[j]? = some r) (hq : q < r.kn) : ∃ gb x, r.ka = some ⟨gb, 0, none⟩ ∧ W.cell? ⟨gb, q, none⟩ = some (.int .u8 (bI x)) ∧ W.frozen? ⟨gb, q, none⟩ = false ∧ ∀ y, OwnInv7 B1 B2 g W0 rs (W.setCell ⟨gb, q, none⟩ (.int .u8 (bI y))) := by
  obtain ⟨⟨b, m⟩, k1⟩ := h.bytes j r hr
  obtain ⟨gb, cb, e, hb, hrow, x, hx⟩ := bmine_at m hq
  exact ⟨gb, x, e, (hrow.cell q).trans hx, hrow.frozen q, fun y => h.byte hrow hb (k1 gb (by rw [e]; rfl)) y⟩
/-- A kid's cells. -/
theorem OwnInv7.cells {B1 B2 g j : Nat} {W0 W : World} {rs : List KRaw} {r : KRaw} (h : OwnInv7 B1 B2 g W0 rs W) (hr : rs[j]? = some r) : W.cell? ⟨g, j * 6, none⟩ = some (.slice r.ka r.kn r.kc) ∧ r.kn ≤ r.kc ∧ r.kc ≤ 2 ^ 63 - 1 := by
  have hj := (List.getElem?_eq_some_iff.1 hr).1
  obtain ⟨e1, e2, cur, hrow, hsz, hc⟩ := h.row (by omega)
  obtain ⟨⟨b1, m1⟩, _⟩ := h.bytes j r hr
  refine ⟨(hrow.cell _).trans (hc j r hr), ?_⟩
  obtain ⟨A, c, e, h1, h2⟩ := m1.form
  injection e with _ e2 e3
  unfold maxLen at h2
  omega
theorem wpList_store_ptInv {w : World} {ops : Array Oper} {rest : List Oper} {op : Oper} {a : Act} {Q : Exit → Act → World → Prop} (hgd : op.guard = none) (x y : Operand) (ho : op.op = .store 45 x y) (g o : Nat) (P : Pt) (hx : a.eval x = .pointer (some ⟨g, o, none⟩)) (hy : a.eval y = .agg (ptA P)) (ht : w.there g o 5)
    (h : ∀ w', w.setCells g o (ptE P) = w' → wpList Tryd.prog ops Q rest (a.put op.dst undef) w') : wpList Tryd.prog ops Q (op :: rest) a w :=
  wpList_store_mid hgd 45 x y ho g o (ptA P) hx hy ht ptr_info (ptA_one P) (h _ rfl)
/-- The worlds of the law's loop over two rows of kids of its own: the first lie from a0 to a1, the others from b0 to b1. -/
def OwnJ (a0 a1 b0 b1 : Nat) (w7 : World) (k : Nat) (W : World) : Prop :=
  (k = 0 ∧ Grows w7 W) ∨ (k = 1 ∧ Out a0 a1 w7 W) ∨ (k = 2 ∧ ∃ W1, Out a0 a1 w7 W1 ∧ Out b0 b1 W1 W)
theorem OwnJ.round {w3 w6 w7 wr : World} {a0 b0 p k na ca nb cb : Nat} {Aa Ab : Option Addr} {la lb : List Kd} (h : OwnJ a0 w3.heap.size b0 w6.heap.size w7 k wr) (hk : k < 2)
    (ha : OwnKds a0 w3 (.slice Aa na ca) la) (hb : OwnKds b0 w6 (.slice Ab nb cb) lb) (h1 : a0 ≤ w3.heap.size) (h2 : w3.heap.size ≤ b0) (h3 : b0 ≤ w6.heap.size)
    (g3 : Grows w3 w7) (g6 : Grows w6 w7) (hX : Row w7 p 22 #[.slice Aa na ca, .slice Ab nb cb]) (hp : w6.heap.size ≤ p) :
    ∃ (B1 B2 : Nat) (A : Option Addr) (n c g : Nat) (rs : List KRaw) (wa : World), wr.cell? ⟨p, k, none⟩ = some (.slice A n c) ∧ rs.length = n ∧ (0 < n → A = some ⟨g, 0, none⟩) ∧ n ≤ 2 ^ 63 - 1 ∧ B1 ≤ wa.heap.size ∧ OwnInv7 B1 B2 g wa rs wr ∧ ∀ W, Out B1 B2 wa W → OwnJ a0 w3.heap.size b0 w6.heap.size w7 (k + 1) W := by
  have s7 := Below.size g6
  rcases h with ⟨rfl, hg⟩ | ⟨rfl, ho⟩ | ⟨rfl, _⟩
  · have sz := Below.size hg
    obtain ⟨g, rs, e1, e2, e3, hi⟩ := OwnInv7.start (W := wr) ha rfl (by omega) (fun j _ hj => (Below.block hg j (by omega)).trans (Below.block g3 j hj))
    refine ⟨a0, w3.heap.size, Aa, na, ca, g, rs, wr, ?_, e1, e2, e3, by omega, hi, fun W hW => .inr (.inl ⟨rfl, (Out.of_grows hg (by omega)).t hW⟩)⟩
    rw [(Row.grows hX hg).cell]; rfl
  · have sz := ho.below.size
    obtain ⟨g, rs, e1, e2, e3, hi⟩ := OwnInv7.start (W := wr) hb rfl (by omega) (fun j hj1 hj2 => (ho.high j (by omega) (by omega)).trans (Below.block g6 j hj2))
    refine ⟨b0, w6.heap.size, Ab, nb, cb, g, rs, wr, ?_, e1, e2, e3, by omega, hi, fun W hW => .inr (.inr ⟨rfl, wr, ho, hW⟩)⟩
    rw [(ho.row hX (.inr (by omega))).cell]; rfl
  · omega
/-- Behind the loop. -/
theorem OwnJ.done {w3 w6 w7 wr : World} {a0 b0 : Nat} (h : OwnJ a0 w3.heap.size b0 w6.heap.size w7 2 wr) (h1 : a0 ≤ w3.heap.size) (h2 : w3.heap.size ≤ b0) (h3 : b0 ≤ w6.heap.size) (g6 : Grows w6 w7) :
    Below a0 w7 wr ∧ ∀ k, w3.heap.size ≤ k → k < b0 → wr.heap[k]? = w7.heap[k]? := by
  have s7 := Below.size g6
  rcases h with ⟨e, _⟩ | ⟨e, _⟩ | ⟨_, W1, ho, hp⟩
  · cases e
  · cases e
  · exact ⟨ho.below.trans (Below.mono hp.below (by omega)), fun k hk1 hk2 => (hp.below.block k hk2).trans (ho.high k hk1 (by omega))⟩
end Go.Proofs.YtjcommodiihcdaaDoor
