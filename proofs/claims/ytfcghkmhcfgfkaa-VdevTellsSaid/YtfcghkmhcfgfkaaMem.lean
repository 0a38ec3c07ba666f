/- Blocks of memory that are known whole, and slices that read as rows of values. No function of the program. -/
import Derived.WalkKit
import Derived.Handy
import Derived.Carry
import Derived.Deep.Draws
import Derived.Laws.Rows
import Derived.Laws.OwnMore
namespace Go.Proofs.Ytfcghkmhcfgfkaa
open Go.RowKit

theorem blk_add (a : Addr) (n : Nat) : (a.add n).block = a.block := by unfold Addr.add; split <;> rfl
theorem add_add' (a : Addr) (i j : Nat) : (a.add i).add j = a.add (i + j) := by
  unfold Addr.add
  by_cases hi : i = 0 <;> by_cases hj : j = 0 <;> simp [hi, hj, Nat.add_assoc]
theorem add_lit (b o n : Nat) : (⟨b, o, none⟩ : Addr).add n = ⟨b, o + n, none⟩ := by
  unfold Addr.add; split <;> simp_all

/-- Block g is just these cells, of element type t, and none of them is frozen. -/
def Row (w : World) (g : Nat) (t : TypeId) (cs : Array Value) : Prop := w.heap[g]? = some (.cells cs t (0, 0))
section
variable {w w' : World} {g : Nat} {t : TypeId} {cs : Array Value}
theorem Row.lt (h : Row w g t cs) : g < w.heap.size := (Array.getElem?_eq_some_iff.1 h).1
theorem Row.cell (h : Row w g t cs) (i : Nat) : w.cell? ⟨g, i, none⟩ = cs[i]? := cell_of_row w g i cs t (0, 0) h
theorem Row.frozen (h : Row w g t cs) (i : Nat) : w.frozen? ⟨g, i, none⟩ = false := frozen_of_row w g i cs t h
theorem Row.new (w : World) (t : TypeId) (cs : Array Value) : Row (w.alloc (.cells cs t)) w.heap.size t cs := heap_alloc_new w _
theorem Row.drew (h : Row w g t cs) : Row w.drew g t cs := h
theorem Row.drewN (h : Row w g t cs) (n : Nat) : Row (w.drewN n) g t cs := h
theorem Row.alloc (h : Row w g t cs) (o : Obj) : Row (w.alloc o) g t cs := (Below.heap_alloc w o g h.lt).trans h
theorem Row.set (h : Row w g t cs) (i : Nat) (u : Value) : Row (w.setCell ⟨g, i, none⟩ u) g t (cs.setIfInBounds i u) := heap_setCell_same w g i cs t u h
theorem Row.far (h : Row w g t cs) {p : Addr} (hp : g ≠ p.block) (u : Value) : Row (w.setCell p u) g t cs := (Below.heap_setCell w p u g hp).trans h
theorem Row.below {B : Nat} (h : Row w g t cs) (hb : Below B w w') (hg : g < B) : Row w' g t cs := (hb.block g hg).trans h
theorem Row.grown {row : Option Nat} (h : Row w g t cs) (hb : w.grownBy w' row) (hg : some g ≠ row) : Row w' g t cs := (hb.block g h.lt hg).trans h
theorem Row.setRow (h : Row w g t cs) (cs' : Array Value) : Row (w.setRow g cs') g t cs' := setRow_heap w g cs cs' t (0, 0) h
theorem Row.setRow_far {g' : Nat} (h : Row w g t cs) (hn : g ≠ g') (cs' : Array Value) : Row (w.setRow g' cs') g t cs := (setRow_other w g' g cs' hn).trans h
theorem below_setRow {B : Nat} {a : World} (h : Below B a w) (hg : B ≤ g) (cs' : Array Value) : Below B a (w.setRow g cs') :=
  h.trans ⟨rfl, rfl, rfl, by simp, fun k hk => setRow_other w g k cs' (by omega)⟩
end

/-- The array of n values that a function gives. -/
def tab (n : Nat) (f : Nat → Value) : Array Value := Array.ofFn (n := n) fun i => f i.val
@[simp] theorem tab_size (n : Nat) (f : Nat → Value) : (tab n f).size = n := by simp [tab]
theorem tab_get (n : Nat) (f : Nat → Value) (j : Nat) (hj : j < n) : (tab n f)[j]? = some (f j) := by simp [tab, hj]
theorem tab_get_none (n : Nat) (f : Nat → Value) (j : Nat) (hj : n ≤ j) : (tab n f)[j]? = none := by simp [tab]; omega
theorem tab_ext (n : Nat) (f g : Nat → Value) (h : ∀ i, i < n → f i = g i) : tab n f = tab n g := by
  apply Array.ext
  · simp
  · intro i h1 _
    simp only [tab_size] at h1
    simp [tab, h i h1]
theorem tab_one (n : Nat) (f : Nat → Value) (h : ∀ i, i < n → (f i).oneCell' = true) : (tab n f).all (·.oneCell') = true := by
  rw [Array.all_eq_true]
  intro i hi
  simp only [tab_size] at hi
  simp [tab, h i hi]
theorem tab_of (cs : Array Value) (f : Nat → Value) (h : ∀ i (hi : i < cs.size), cs[i] = f i) : cs = tab cs.size f := by
  apply Array.ext
  · simp
  · intro i h1 _
    simp [tab, h i h1]
theorem tab_const (n : Nat) (v : Value) : Array.replicate n v = tab n fun _ => v := by
  apply Array.ext
  · simp
  · intro i _ _; simp [tab]
theorem tab_set (n : Nat) (f : Nat → Value) (k : Nat) (v : Value) : (tab n f).setIfInBounds k v = tab n fun i => if i = k then v else f i := by
  apply Array.ext
  · simp
  · intro i h1 h2
    have e : ((tab n f).setIfInBounds k v)[i]? = (tab n fun i => if i = k then v else f i)[i]? := by
      simp only [tab_size] at h2
      rw [tab_get _ _ _ h2, Array.getElem?_setIfInBounds]
      by_cases h : k = i
      · subst h; simp [h2]
      · have h' : ¬ i = k := fun e => h e.symm
        simp [h, h', tab_get _ _ _ h2]
    simpa [Array.getElem?_eq_getElem h1, Array.getElem?_eq_getElem h2] using e
/-- The slice value v holds the values xs; its memory, if it has any of them, lies below block B. -/
def Sl (B : Nat) (W : World) (v : Value) (xs : List Value) : Prop :=
  ∃ A cap, v = .slice A xs.length cap ∧ xs.length ≤ cap ∧ cap ≤ maxLen ∧
    (0 < xs.length → ∃ b o, A = some ⟨b, o, none⟩ ∧ b < B ∧ ∀ j u, xs[j]? = some u → W.cell? ⟨b, o + j, none⟩ = some u)
theorem Sl.keep {B : Nat} {W W' : World} {v : Value} {xs : List Value} (h : Sl B W v xs) (hk : ∀ p : Addr, p.block < B → W'.cell? p = W.cell? p) : Sl B W' v xs := by
  obtain ⟨A, cap, hv, h1, h2, h3⟩ := h
  refine ⟨A, cap, hv, h1, h2, fun hp => ?_⟩
  obtain ⟨b, o, ha, hb, hc⟩ := h3 hp
  exact ⟨b, o, ha, hb, fun j u hu => (hk ⟨b, o + j, none⟩ hb).trans (hc j u hu)⟩
theorem Sl.below {B : Nat} {W W' : World} {v : Value} {xs : List Value} (h : Sl B W v xs) (hb : Below B W W') : Sl B W' v xs := h.keep fun _ hp => hb.cell hp
theorem Sl.more {B B' : Nat} {W : World} {v : Value} {xs : List Value} (h : Sl B W v xs) (hB : B ≤ B') : Sl B' W v xs := by
  obtain ⟨A, cap, hv, h1, h2, h3⟩ := h
  refine ⟨A, cap, hv, h1, h2, fun hp => ?_⟩
  obtain ⟨b, o, ha, hb, hc⟩ := h3 hp
  exact ⟨b, o, ha, by omega, hc⟩
theorem Sl.nil (B : Nat) (W : World) : Sl B W (.slice none 0 0) [] := ⟨none, 0, rfl, Nat.le_refl _, Nat.zero_le _, fun h => absurd h (by simp)⟩
/-- An array value's cell at a place that it has. -/
theorem run_index_arr {P : Program} (t e n : Nat) (i : TypeInfo) (d : TypeDesc) (cs : Array Value) (k : IntKind) (j : Nat) (v : Value) (ht : P.underlying t = some (.array n e)) (hi : P.info? e = some i) (h1 : i.size = 1)
    (hd : (match d with | .struct _ | .array _ _ => true | _ => false) = false) (he : P.underlying e = some d) (hj : j < n) (hv : cs[j]? = some v) (w : World) :
    (Instr.index t (.agg cs) (.int k j)).run P w = .ok v w := by
  have hagg : (isAgg e).run P w = .ok false w := by
    unfold isAgg
    rw [Sem.run_bind, run_underlying he w]
    cases d <;> simp_all
  have h2 : (0 : Int) ≤ j ∧ (j : Int) < n := by omega
  have h3 : ¬ n ≤ j := by omega
  simp [Instr.index, asIntOf, run_underlying ht, h2.1, sizeOf, typeInfo, hi, h1, part, hagg, hv, h3]
/-- A slice over a whole block. -/
theorem Sl.of_row {B : Nat} {W : World} {g : Nat} {t : TypeId} {cs : Array Value} {fr : Nat × Nat} (h : W.heap[g]? = some (.cells cs t fr)) (hB : g < B) (cap : Nat) (xs : List Value) (hx : xs = cs.toList) (h1 : xs.length ≤ cap) (h2 : cap ≤ maxLen) :
    Sl B W (.slice (some ⟨g, 0, none⟩) xs.length cap) xs :=
  ⟨_, cap, rfl, h1, h2, fun _ => ⟨g, 0, rfl, hB, fun j u hu => by
    rw [Nat.zero_add, cell_of_row W g j cs t fr h]
    rw [hx] at hu
    simpa using hu⟩⟩
/-- A row of the call's own, read as a slice. -/
theorem Sl.of_own {w : World} {base : Nat} {e : TypeId} {v : Value} {n : Nat} {xs : List Value} (h : w.ownsRow base e 1 v n xs) : Sl w.heap.size w v xs := by
  obtain ⟨hl, h⟩ := h
  rw [Nat.mul_one] at hl
  rcases h with ⟨rfl, rfl⟩ | ⟨g, cap, cur, rfl, _, hh, h1, h2, h3, h4⟩
  · obtain rfl : xs = [] := List.length_eq_zero_iff.1 hl
    exact Sl.nil _ _
  · refine ⟨_, cap, by rw [hl], by omega, h2, fun _ => ⟨g, 0, rfl, (Array.getElem?_eq_some_iff.1 hh).1, fun j u hu => ?_⟩⟩
    rw [Nat.zero_add, cell_of_row w g j cur e (0, 0) hh]
    have hj := (List.getElem?_eq_some_iff.1 hu).1
    rw [← h4, Nat.mul_one, List.getElem?_take_of_lt (by omega)] at hu
    simpa using hu
/-- The first of a slice's values. -/
theorem Sl.take {B : Nat} {W : World} {A : Option Addr} {cap n : Nat} {xs : List Value} {len : Nat} (h : Sl B W (.slice A len cap) xs) (hn : n ≤ xs.length) : Sl B W (.slice A n cap) (xs.take n) := by
  obtain ⟨A', cap', hv, h1, h2, h3⟩ := h
  injection hv with ha hl hc
  subst ha hl hc
  have hlen : (xs.take n).length = n := by rw [List.length_take]; omega
  refine ⟨A, cap, by rw [hlen], by omega, h2, fun hp => ?_⟩
  obtain ⟨b, o, ha, hb, hcell⟩ := h3 (by omega)
  refine ⟨b, o, ha, hb, fun j u hu => hcell j u ?_⟩
  have hj := (List.getElem?_eq_some_iff.1 hu).1
  rwa [List.getElem?_take_of_lt (by omega)] at hu
/-- Where a slice that was cut at l begins. -/
def cutA (a : Option Addr) (l m s : Nat) : Option Addr := if m = l then a else a.map (·.add (l * s))
theorem sliced_cut (a : Option Addr) (l h m s : Nat) : sliced a l h m s = .slice (cutA a l m s) (h - l) (m - l) := rfl
theorem cutA_zero (a : Option Addr) (m s : Nat) : cutA a 0 m s = a := by
  unfold cutA
  split
  · rfl
  · cases a <;> simp [Addr.add]
theorem Sl.cut {B : Nat} {W : World} {A : Option Addr} {cap l h len : Nat} {xs : List Value} (hs : Sl B W (.slice A len cap) xs) (hl : l ≤ h) (hh : h ≤ xs.length) : Sl B W (.slice (cutA A l cap 1) (h - l) (cap - l)) ((xs.take h).drop l) := by
  obtain ⟨A', cap', hv, h1, h2, h3⟩ := hs
  injection hv with ha hl' hc
  subst ha hl' hc
  have hlen : ((xs.take h).drop l).length = h - l := by rw [List.length_drop, List.length_take]; omega
  refine ⟨cutA A l cap 1, cap - l, by rw [hlen], by omega, by omega, fun hp => ?_⟩
  obtain ⟨b, o, ha, hb, hcell⟩ := h3 (by omega)
  refine ⟨b, o + l, ?_, hb, fun j u hu => ?_⟩
  · unfold cutA
    rw [if_neg (by omega), ha]
    simp [add_lit]
  · have hj := (List.getElem?_eq_some_iff.1 hu).1
    rw [List.getElem?_drop, List.getElem?_take_of_lt (by omega)] at hu
    have := hcell (l + j) u hu
    rwa [← Nat.add_assoc] at this
/-- A row of the call's own and a block of another element type are two blocks. -/
theorem own_ne_row {w : World} {base : Nat} {e t : TypeId} {size n g g' cap : Nat} {xs : List Value} {cs : Array Value} (h : w.ownsRow base e size (.slice (some ⟨g, 0, none⟩) n cap) n xs) (hr : Row w g' t cs) (hne : e ≠ t) : g ≠ g' := by
  rcases h.2 with ⟨h', _⟩ | ⟨g0, cap', cur, h', _, hg, _⟩
  · simp at h'
  · simp only [Value.slice.injEq, Option.some.injEq, Addr.mk.injEq, and_true, true_and] at h'
    obtain ⟨rfl, rfl⟩ := h'
    rintro rfl
    unfold Row at hr
    rw [hg] at hr
    injection hr with hr
    injection hr with _ ht
    exact hne ht
end Go.Proofs.Ytfcghkmhcfgfkaa
