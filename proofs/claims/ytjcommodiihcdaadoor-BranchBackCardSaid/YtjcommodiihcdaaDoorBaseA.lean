/- Mem Words Open RegionIn Free ArrEq Num MemIn FreeIn Law Cells Gen -/
import Derived.Test.YtjcommodiihcdaaDoorRows
import Derived.WalkKit
import Derived.Handy
import Derived.Carry
import Derived.Deep.Draws
import Derived.Laws.Rows
import Derived.Laws.OwnMore
import Derived.ProofKit
import Derived.OpenShut
import Derived.Deep.Slices
import Derived.StillTailTactics
import Derived.OwnWalkIn
import Derived.TacticsInMore
import Derived.OrdersIn
import Derived.RangeFuncCalls
import Derived.ChangeKeysEq
import Derived.Laws.Bits64b
import Derived.Deep.MidRow
import Derived.Maps.AppendAt
import Derived.Laws.StructEq
import Derived.Deep.DeepAppendWide
import Derived.RangeFuncBox
import Derived.RangeFuncNested
import Derived.Laws.CopyOwn
import Derived.Laws.Tables
import Derived.Lib.Hide
import Derived.BigFrame
/- Blocks of memory that are known whole, and slices that read as rows of values. No function of the program. -/
namespace Go.Proofs.YtjcommodiihcdaaDoor
open Go.RowKit

theorem blk_add (a : Addr) (n : Nat) : (a.add n).block = a.block := by unfold Addr.add; split <;> rfl
theorem add_add' (a : Addr) (i j : Nat) : (a.add i).add j = a.add (i + j) := by
  unfold Addr.add
  by_cases hi : i = 0 <;> by_cases hj : j = 0 <;> simp [hi, hj, Nat.add_assoc]
theorem add_lit (b o n : Nat) : (⟨b, o, none⟩ : Addr).add n = ⟨b, o + n, none⟩ := by
  unfold Addr.add; split <;> simp_all

/-- Block g is just these cells, of element type t, and none of them is frozen. -/
def Row (w : World) (g : Nat) (t : TypeId) (cs : Array Value) : Prop := w.heap[g]? = some (.cells cs t (0, 0))
section
variable {w w' : World} {g : Nat} {t : TypeId} {cs : Array Value}
theorem Row.lt (h : Row w g t cs) : g < w.heap.size := (Array.getElem?_eq_some_iff.1 h).1
theorem Row.cell (h : Row w g t cs) (i : Nat) : w.cell? ⟨g, i, none⟩ = cs[i]? := cell_of_row w g i cs t (0, 0) h
theorem Row.frozen (h : Row w g t cs) (i : Nat) : w.frozen? ⟨g, i, none⟩ = false := frozen_of_row w g i cs t h
theorem Row.new (w : World) (t : TypeId) (cs : Array Value) : Row (w.alloc (.cells cs t)) w.heap.size t cs := heap_alloc_new w _
theorem Row.drew (h : Row w g t cs) : Row w.drew g t cs := h
theorem Row.drewN (h : Row w g t cs) (n : Nat) : Row (w.drewN n) g t cs := h
theorem Row.alloc (h : Row w g t cs) (o : Obj) : Row (w.alloc o) g t cs := (Below.heap_alloc w o g h.lt).trans h
theorem Row.set (h : Row w g t cs) (i : Nat) (u : Value) : Row (w.setCell ⟨g, i, none⟩ u) g t (cs.setIfInBounds i u) := heap_setCell_same w g i cs t u h
theorem Row.far (h : Row w g t cs) {p : Addr} (hp : g ≠ p.block) (u : Value) : Row (w.setCell p u) g t cs := (Below.heap_setCell w p u g hp).trans h
theorem Row.below {B : Nat} (h : Row w g t cs) (hb : Below B w w') (hg : g < B) : Row w' g t cs := (hb.block g hg).trans h
theorem Row.grown {row : Option Nat} (h : Row w g t cs) (hb : w.grownBy w' row) (hg : some g ≠ row) : Row w' g t cs := (hb.block g h.lt hg).trans h
theorem Row.setRow (h : Row w g t cs) (cs' : Array Value) : Row (w.setRow g cs') g t cs' := setRow_heap w g cs cs' t (0, 0) h
theorem Row.setRow_far {g' : Nat} (h : Row w g t cs) (hn : g ≠ g') (cs' : Array Value) : Row (w.setRow g' cs') g t cs := (setRow_other w g' g cs' hn).trans h
theorem below_setRow {B : Nat} {a : World} (h : Below B a w) (hg : B ≤ g) (cs' : Array Value) : Below B a (w.setRow g cs') :=
  h.trans ⟨rfl, rfl, rfl, by simp, fun k hk => setRow_other w g k cs' (by omega)⟩
end

/-- The array of n values that a function gives. -/
def tab (n : Nat) (f : Nat → Value) : Array Value := Array.ofFn (n := n) fun i => f i.val
@[simp] theorem tab_size (n : Nat) (f : Nat → Value) : (tab n f).size = n := by simp [tab]
theorem tab_get (n : Nat) (f : Nat → Value) (j : Nat) (hj : j < n) : (tab n f)[j]? = some (f j) := by simp [tab, hj]
theorem tab_get_none (n : Nat) (f : Nat → Value) (j : Nat) (hj : n ≤ j) : (tab n f)[j]? = none := by simp [tab]; omega
theorem tab_ext (n : Nat) (f g : Nat → Value) (h : ∀ i, i < n → f i = g i) : tab n f = tab n g := by
  apply Array.ext
  · simp
  · intro i h1 _
    simp only [tab_size] at h1
    simp [tab, h i h1]
theorem tab_one (n : Nat) (f : Nat → Value) (h : ∀ i, i < n → (f i).oneCell' = true) : (tab n f).all (·.oneCell') = true := by
  rw [Array.all_eq_true]
  intro i hi
  simp only [tab_size] at hi
  simp [tab, h i hi]
theorem tab_of (cs : Array Value) (f : Nat → Value) (h : ∀ i (hi : i < cs.size), cs[i] = f i) : cs = tab cs.size f := by
  apply Array.ext
  · simp
  · intro i h1 _
    simp [tab, h i h1]
theorem tab_const (n : Nat) (v : Value) : Array.replicate n v = tab n fun _ => v := by
  apply Array.ext
  · simp
  · intro i _ _; simp [tab]
theorem tab_set (n : Nat) (f : Nat → Value) (k : Nat) (v : Value) : (tab n f).setIfInBounds k v = tab n fun i => if i = k then v else f i := by
  apply Array.ext
  · simp
  · intro i h1 h2
    have e : ((tab n f).setIfInBounds k v)[i]? = (tab n fun i => if i = k then v else f i)[i]? := by
      simp only [tab_size] at h2
      rw [tab_get _ _ _ h2, Array.getElem?_setIfInBounds]
      by_cases h : k = i
      · subst h; simp [h2]
      · have h' : ¬ i = k := fun e => h e.symm
        simp [h, h', tab_get _ _ _ h2]
    simpa [Array.getElem?_eq_getElem h1, Array.getElem?_eq_getElem h2] using e
/-- The slice value v holds the values xs; its memory, if it has any of them, lies below block B. -/
def Sl (B : Nat) (W : World) (v : Value) (xs : List Value) : Prop :=
  ∃ A cap, v = .slice A xs.length cap ∧ xs.length ≤ cap ∧ cap ≤ maxLen ∧
    (0 < xs.length → ∃ b o, A = some ⟨b, o, none⟩ ∧ b < B ∧ ∀ j u, xs[j]? = some u → W.cell? ⟨b, o + j, none⟩ = some u)
theorem Sl.keep {B : Nat} {W W' : World} {v : Value} {xs : List Value} (h : Sl B W v xs) (hk : ∀ p : Addr, p.block < B → W'.cell? p = W.cell? p) : Sl B W' v xs := by
  obtain ⟨A, cap, hv, h1, h2, h3⟩ := h
  refine ⟨A, cap, hv, h1, h2, fun hp => ?_⟩
  obtain ⟨b, o, ha, hb, hc⟩ := h3 hp
  exact ⟨b, o, ha, hb, fun j u hu => (hk ⟨b, o + j, none⟩ hb).trans (hc j u hu)⟩
theorem Sl.below {B : Nat} {W W' : World} {v : Value} {xs : List Value} (h : Sl B W v xs) (hb : Below B W W') : Sl B W' v xs := h.keep fun _ hp => hb.cell hp
theorem Sl.more {B B' : Nat} {W : World} {v : Value} {xs : List Value} (h : Sl B W v xs) (hB : B ≤ B') : Sl B' W v xs := by
  obtain ⟨A, cap, hv, h1, h2, h3⟩ := h
  refine ⟨A, cap, hv, h1, h2, fun hp => ?_⟩
  obtain ⟨b, o, ha, hb, hc⟩ := h3 hp
  exact ⟨b, o, ha, by omega, hc⟩
theorem Sl.nil (B : Nat) (W : World) : Sl B W (.slice none 0 0) [] := ⟨none, 0, rfl, Nat.le_refl _, Nat.zero_le _, fun h => absurd h (by simp)⟩
/-- An array value's cell at a place that it has. -/
theorem run_index_arr {P : Program} (t e n : Nat) (i : TypeInfo) (d : TypeDesc) (cs : Array Value) (k : IntKind) (j : Nat) (v : Value) (ht : P.underlying t = some (.array n e)) (hi : P.info? e = some i) (h1 : i.size = 1)
    (hd : (match d with | .struct _ | .array _ _ => true | _ => false) = false) (he : P.underlying e = some d) (hj : j < n) (hv : cs[j]? = some v) (w : World) :
    (Instr.index t (.agg cs) (.int k j)).run P w = .ok v w := by
  have hagg : (isAgg e).run P w = .ok false w := by
    unfold isAgg
    rw [Sem.run_bind, run_underlying he w]
    cases d <;> simp_all
  have h2 : (0 : Int) ≤ j ∧ (j : Int) < n := by omega
  have h3 : ¬ n ≤ j := by omega
  simp [Instr.index, asIntOf, run_underlying ht, h2.1, sizeOf, typeInfo, hi, h1, part, hagg, hv, h3]
/-- A slice over a whole block. -/
theorem Sl.of_row {B : Nat} {W : World} {g : Nat} {t : TypeId} {cs : Array Value} {fr : Nat × Nat} (h : W.heap[g]? = some (.cells cs t fr)) (hB : g < B) (cap : Nat) (xs : List Value) (hx : xs = cs.toList) (h1 : xs.length ≤ cap) (h2 : cap ≤ maxLen) :
    Sl B W (.slice (some ⟨g, 0, none⟩) xs.length cap) xs :=
  ⟨_, cap, rfl, h1, h2, fun _ => ⟨g, 0, rfl, hB, fun j u hu => by
    rw [Nat.zero_add, cell_of_row W g j cs t fr h]
    rw [hx] at hu
    simpa using hu⟩⟩
/-- A row of the call's own, read as a slice. -/
theorem Sl.of_own {w : World} {base : Nat} {e : TypeId} {v : Value} {n : Nat} {xs : List Value} (h : w.ownsRow base e 1 v n xs) : Sl w.heap.size w v xs := by
  obtain ⟨hl, h⟩ := h
  rw [Nat.mul_one] at hl
  rcases h with ⟨rfl, rfl⟩ | ⟨g, cap, cur, rfl, _, hh, h1, h2, h3, h4⟩
  · obtain rfl : xs = [] := List.length_eq_zero_iff.1 hl
    exact Sl.nil _ _
  · refine ⟨_, cap, by rw [hl], by omega, h2, fun _ => ⟨g, 0, rfl, (Array.getElem?_eq_some_iff.1 hh).1, fun j u hu => ?_⟩⟩
    rw [Nat.zero_add, cell_of_row w g j cur e (0, 0) hh]
    have hj := (List.getElem?_eq_some_iff.1 hu).1
    rw [← h4, Nat.mul_one, List.getElem?_take_of_lt (by omega)] at hu
    simpa using hu
/-- The first of a slice's values. -/
theorem Sl.take {B : Nat} {W : World} {A : Option Addr} {cap n : Nat} {xs : List Value} {len : Nat} (h : Sl B W (.slice A len cap) xs) (hn : n ≤ xs.length) : Sl B W (.slice A n cap) (xs.take n) := by
  obtain ⟨A', cap', hv, h1, h2, h3⟩ := h
  injection hv with ha hl hc
  subst ha hl hc
  have hlen : (xs.take n).length = n := by rw [List.length_take]; omega
  refine ⟨A, cap, by rw [hlen], by omega, h2, fun hp => ?_⟩
  obtain ⟨b, o, ha, hb, hcell⟩ := h3 (by omega)
  refine ⟨b, o, ha, hb, fun j u hu => hcell j u ?_⟩
  have hj := (List.getElem?_eq_some_iff.1 hu).1
  rwa [List.getElem?_take_of_lt (by omega)] at hu
/-- Where a slice that was cut at l begins. -/
def cutA (a : Option Addr) (l m s : Nat) : Option Addr := if m = l then a else a.map (·.add (l * s))
theorem sliced_cut (a : Option Addr) (l h m s : Nat) : sliced a l h m s = .slice (cutA a l m s) (h - l) (m - l) := rfl
theorem cutA_zero (a : Option Addr) (m s : Nat) : cutA a 0 m s = a := by
  unfold cutA
  split
  · rfl
  · cases a <;> simp [Addr.add]
theorem Sl.cut {B : Nat} {W : World} {A : Option Addr} {cap l h len : Nat} {xs : List Value} (hs : Sl B W (.slice A len cap) xs) (hl : l ≤ h) (hh : h ≤ xs.length) : Sl B W (.slice (cutA A l cap 1) (h - l) (cap - l)) ((xs.take h).drop l) := by
  obtain ⟨A', cap', hv, h1, h2, h3⟩ := hs
  injection hv with ha hl' hc
  subst ha hl' hc
  have hlen : ((xs.take h).drop l).length = h - l := by rw [List.length_drop, List.length_take]; omega
  refine ⟨cutA A l cap 1, cap - l, by rw [hlen], by omega, by omega, fun hp => ?_⟩
  obtain ⟨b, o, ha, hb, hcell⟩ := h3 (by omega)
  refine ⟨b, o + l, ?_, hb, fun j u hu => ?_⟩
  · unfold cutA
    rw [if_neg (by omega), ha]
    simp [add_lit]
  · have hj := (List.getElem?_eq_some_iff.1 hu).1
    rw [List.getElem?_drop, List.getElem?_take_of_lt (by omega)] at hu
    have := hcell (l + j) u hu
    rwa [← Nat.add_assoc] at this
/-- A row of the call's own and a block of another element type are two blocks. -/
theorem own_ne_row {w : World} {base : Nat} {e t : TypeId} {size n g g' cap : Nat} {xs : List Value} {cs : Array Value} (h : w.ownsRow base e size (.slice (some ⟨g, 0, none⟩) n cap) n xs) (hr : Row w g' t cs) (hne : e ≠ t) : g ≠ g' := by
  rcases h.2 with ⟨h', _⟩ | ⟨g0, cap', cur, h', _, hg, _⟩
  · simp at h'
  · simp only [Value.slice.injEq, Option.some.injEq, Addr.mk.injEq, and_true, true_and] at h'
    obtain ⟨rfl, rfl⟩ := h'
    rintro rfl
    unfold Row at hr
    rw [hg] at hr
    injection hr with hr
    injection hr with _ ht
    exact hne ht
end Go.Proofs.YtjcommodiihcdaaDoor
/- Words and bytes as rows of bits: how the model's integer operations read on them. No function of the program. -/
namespace Go.Proofs.YtjcommodiihcdaaDoor
open Go.RowKit
/-- A 64-bit word, a byte, as the model's numbers. -/
def uI (x : BitVec 64) : Int := (x.toNat : Int)
def bI (x : BitVec 8) : Int := (x.toNat : Int)
theorem uI_nonneg (x : BitVec 64) : 0 ≤ uI x := Int.natCast_nonneg _
theorem uI_lt (x : BitVec 64) : uI x < 18446744073709551616 := by have := x.isLt; unfold uI; omega
theorem bI_nonneg (x : BitVec 8) : 0 ≤ bI x := Int.natCast_nonneg _
theorem bI_lt (x : BitVec 8) : bI x < 256 := by have := x.isLt; unfold bI; omega
theorem uI_ofNat (n : Nat) (h : n < 18446744073709551616) : uI (BitVec.ofNat 64 n) = n := by unfold uI; rw [BitVec.toNat_ofNat, Nat.mod_eq_of_lt (by omega)]
theorem bI_ofNat (n : Nat) (h : n < 256) : bI (BitVec.ofNat 8 n) = n := by unfold bI; rw [BitVec.toNat_ofNat, Nat.mod_eq_of_lt (by omega)]
theorem uI_of (n : Int) (h : 0 ≤ n) (h2 : n ≤ 18446744073709551615) : ∃ x, n = uI x := ⟨BitVec.ofNat 64 n.toNat, by rw [uI_ofNat _ (by omega)]; omega⟩
theorem bI_of (n : Int) (h : 0 ≤ n) (h2 : n ≤ 255) : ∃ x, n = bI x := ⟨BitVec.ofNat 8 n.toNat, by rw [bI_ofNat _ (by omega)]; omega⟩
theorem uI_inj {x y : BitVec 64} (h : uI x = uI y) : x = y := BitVec.eq_of_toNat_eq (by unfold uI at h; omega)
theorem bI_inj {x y : BitVec 8} (h : bI x = bI y) : x = y := BitVec.eq_of_toNat_eq (by unfold bI at h; omega)
theorem uI_beq (x y : BitVec 64) : (uI x == uI y) = (x == y) := by
  rw [Bool.eq_iff_iff]; simp only [beq_iff_eq]; exact ⟨uI_inj, fun h => by rw [h]⟩
theorem bI_beq (x y : BitVec 8) : (bI x == bI y) = (x == y) := by
  rw [Bool.eq_iff_iff]; simp only [beq_iff_eq]; exact ⟨bI_inj, fun h => by rw [h]⟩
theorem bits_xor_u (x y : BitVec 64) : bits .xor .u64 (uI x) (uI y) = uI (x ^^^ y) := by
  unfold uI; rw [u64_xor_nat _ _ (by have := x.isLt; omega) (by have := y.isLt; omega), BitVec.toNat_xor]
theorem bits_and_u (x y : BitVec 64) : bits .and .u64 (uI x) (uI y) = uI (x &&& y) := by
  unfold uI; rw [u64_and_nat _ _ (by have := x.isLt; omega) (by have := y.isLt; omega), BitVec.toNat_and]
theorem bits_xor_b (x y : BitVec 8) : bits .xor .u8 (bI x) (bI y) = bI (x ^^^ y) := by
  unfold bI; rw [u8_xor_nat _ _ (by have := x.isLt; omega) (by have := y.isLt; omega), BitVec.toNat_xor]
theorem bI_uI (x : BitVec 8) : bI x = uI (x.setWidth 64) := by
  unfold bI uI; rw [BitVec.toNat_setWidth_of_le (by decide)]
theorem wrap_u64_bI (x : BitVec 8) : IntKind.u64.wrap (bI x) = uI (x.setWidth 64) := by
  rw [IntWalk.u64_in _ (by have := bI_nonneg x; have := bI_lt x; omega), bI_uI]
theorem wrap_u8_uI (x : BitVec 64) : IntKind.u8.wrap (uI x) = bI (x.setWidth 8) := by
  rw [IntKind.wrap_u8']; unfold uI bI; rw [BitVec.toNat_setWidth]; omega
theorem uI_shr (x : BitVec 64) (n : Nat) : uI x / (2 : Int) ^ n = uI (x >>> n) := by
  unfold uI; rw [BitVec.toNat_ushiftRight, Nat.shiftRight_eq_div_pow]; simp
theorem uI_shr1 (x : BitVec 64) : uI x / (2 : Int) = uI (x >>> 1) := uI_shr x 1
theorem uI_shr8 (x : BitVec 64) : uI x / (256 : Int) = uI (x >>> 8) := uI_shr x 8
theorem i64_and_nat (a b : Nat) (ha : a < 9223372036854775808) (hb : b < 9223372036854775808) : bits .and .i64 (a : Int) (b : Int) = ((a &&& b : Nat) : Int) := by
  have hx : a &&& b < 2 ^ 63 := Nat.and_lt_two_pow _ (by omega)
  show IntKind.i64.wrap ((BitVec.ofInt 64 (a : Int) &&& BitVec.ofInt 64 (b : Int)).toNat : Int) = _
  rw [BitVec.toNat_and, ofInt_u64 a (by omega), ofInt_u64 b (by omega), IntWalk.i64_in _ (by omega)]
theorem i64_xor_nat (a b : Nat) (ha : a < 9223372036854775808) (hb : b < 9223372036854775808) : bits .xor .i64 (a : Int) (b : Int) = ((a ^^^ b : Nat) : Int) := by
  have hx : a ^^^ b < 2 ^ 63 := Nat.xor_lt_two_pow (by omega) (by omega)
  show IntKind.i64.wrap ((BitVec.ofInt 64 (a : Int) ^^^ BitVec.ofInt 64 (b : Int)).toNat : Int) = _
  rw [BitVec.toNat_xor, ofInt_u64 a (by omega), ofInt_u64 b (by omega), IntWalk.i64_in _ (by omega)]
theorem bits_not_u (x : BitVec 64) : bits .xor .u64 IntKind.u64.max (uI x) = uI (~~~x) := by
  rw [show IntKind.u64.max = uI (BitVec.allOnes 64) from by decide, bits_xor_u, BitVec.allOnes_xor]
theorem uI_bne (x y : BitVec 64) : (uI x != uI y) = !(x == y) := by rw [bne, uI_beq]
theorem bI_bne (x y : BitVec 8) : (bI x != bI y) = !(x == y) := by rw [bne, bI_beq]
end Go.Proofs.YtjcommodiihcdaaDoor
/- What arguments of plain types are: words, bytes, rows of bytes, rows of rows, arrays. No function of the program. -/
namespace Go.Proofs.YtjcommodiihcdaaDoor
open Go.ChangeShapes Go.WideShapes Go.ChangeAt Go.RowKit Go.Deep
def byteV (b : BitVec 8) : Value := .int .u8 (bI b)
/-- The slice v holds the bytes l. -/
def Bytes (B : Nat) (W : World) (v : Value) (l : List (BitVec 8)) : Prop := Sl B W v (l.map byteV)
/-- The slice v holds slices, which hold these rows of bytes. -/
def Parts (B : Nat) (W : World) (v : Value) (ls : List (List (BitVec 8))) : Prop :=
  ∃ vs : List Value, vs.length = ls.length ∧ Sl B W v vs ∧ ∀ (i : Nat) (x : Value) (l : List (BitVec 8)), vs[i]? = some x → ls[i]? = some l → Bytes B W x l
theorem Parts.below {B : Nat} {W W' : World} {v : Value} {ls : List (List (BitVec 8))} (h : Parts B W v ls) (hb : Below B W W') : Parts B W' v ls := by
  obtain ⟨vs, h1, h2, h3⟩ := h
  exact ⟨vs, h1, h2.below hb, fun i x l hx hl => (h3 i x l hx hl).below hb⟩
theorem Parts.more {B B' : Nat} {W : World} {v : Value} {ls : List (List (BitVec 8))} (h : Parts B W v ls) (hb : B ≤ B') : Parts B' W v ls := by
  obtain ⟨vs, h1, h2, h3⟩ := h
  exact ⟨vs, h1, h2.more hb, fun i x l hx hl => (h3 i x l hx hl).more hb⟩
theorem Parts.one {B : Nat} {W : World} {g o cap : Nat} {v : Value} {l : List (BitVec 8)} (hB : g < B) (hc : W.cell? ⟨g, o, none⟩ = some v) (h1 : 1 ≤ cap) (h2 : cap ≤ maxLen) (hv : Bytes B W v l) : Parts B W (.slice (some ⟨g, o, none⟩) 1 cap) [l] :=
  ⟨[v], rfl, ⟨_, cap, rfl, h1, h2, fun _ => ⟨g, o, rfl, hB, fun j u hu => by
    cases j with
    | zero => simp at hu; subst hu; simpa using hc
    | succ j => simp at hu⟩⟩, fun i x l' hx hl => by
    cases i with
    | zero => simp at hx hl; subst hx hl; exact hv
    | succ i => simp at hx⟩
theorem Parts.new {w : World} {t : TypeId} {v : Value} {l : List (BitVec 8)} (hv : Bytes w.heap.size w v l) : Parts (w.heap.size + 1) (w.alloc (.cells #[v] t)) (.slice (some ⟨w.heap.size, 0, none⟩) 1 1) [l] :=
  Parts.one (by simp) (by simp) (Nat.le_refl _) (by decide) ((Sl.below hv ((Below.refl _ w).alloc (Nat.le_refl _) _)).more (by simp))
theorem Bytes.below {B : Nat} {W W' : World} {v : Value} {l : List (BitVec 8)} (h : Bytes B W v l) (hb : Below B W W') : Bytes B W' v l := Sl.below h hb
theorem Bytes.more {B B' : Nat} {W : World} {v : Value} {l : List (BitVec 8)} (h : Bytes B W v l) (hb : B ≤ B') : Bytes B' W v l := Sl.more h hb
theorem Bytes.take {B : Nat} {W : World} {A : Option Addr} {cap n len : Nat} {l : List (BitVec 8)} (h : Bytes B W (.slice A len cap) l) (hn : n ≤ l.length) : Bytes B W (.slice A n cap) (l.take n) := by
  have := Sl.take (n := n) h (by simpa using hn)
  unfold Bytes
  rwa [List.map_take]
section
variable {H : Type} {enc : TypeId × Value → H} {P : Program} {W : World}
theorem wf_u64_b {n : Int} (h : (Lit.int .u64 n).wf = true) : 0 ≤ n ∧ n ≤ 18446744073709551615 := by
  simpa [Lit.wf, IntKind.min, IntKind.max, IntKind.signed, IntKind.bits] using h
theorem wf_u8_b {n : Int} (h : (Lit.int .u8 n).wf = true) : 0 ≤ n ∧ n ≤ 255 := by
  simpa [Lit.wf, IntKind.min, IntKind.max, IntKind.signed, IntKind.bits] using h
theorem wf_i64_b {n : Int} (h : (Lit.int .i64 n).wf = true) : -9223372036854775808 ≤ n ∧ n ≤ 9223372036854775807 := by
  simpa [Lit.wf, IntKind.min, IntKind.max, IntKind.signed, IntKind.bits] using h
theorem open_u64 {b0 : Nat} {t : TypeId} {v : Value} {d : DataW H} {ps : List MemPlace} (ht : P.underlying t = some (.int .u64)) (hval : Value.okWide P W .any b0 t v) (hd : DataW.Trod enc P W 0 (fun _ => true) true t v d ps) :
    ∃ x, v = .int .u64 (uI x) := by
  obtain ⟨n, rfl, _, _, hw⟩ := open_int ht hval hd
  obtain ⟨x, rfl⟩ := uI_of n (wf_u64_b hw).1 (wf_u64_b hw).2
  exact ⟨x, rfl⟩
theorem open_u8 {b0 : Nat} {t : TypeId} {v : Value} {d : DataW H} {ps : List MemPlace} (ht : P.underlying t = some (.int .u8)) (hval : Value.okWide P W .any b0 t v) (hd : DataW.Trod enc P W 0 (fun _ => true) true t v d ps) :
    ∃ x, v = .int .u8 (bI x) := by
  obtain ⟨n, rfl, _, _, hw⟩ := open_int ht hval hd
  obtain ⟨x, rfl⟩ := bI_of n (wf_u8_b hw).1 (wf_u8_b hw).2
  exact ⟨x, rfl⟩
theorem open_i64 {b0 : Nat} {t : TypeId} {v : Value} {d : DataW H} {ps : List MemPlace} (ht : P.underlying t = some (.int .i64)) (hval : Value.okWide P W .any b0 t v) (hd : DataW.Trod enc P W 0 (fun _ => true) true t v d ps) :
    ∃ n : Int, v = .int .i64 n ∧ -9223372036854775808 ≤ n ∧ n ≤ 9223372036854775807 := by
  obtain ⟨n, rfl, _, _, hw⟩ := open_int ht hval hd
  exact ⟨n, rfl, wf_i64_b hw⟩
theorem bytes_of_ints (zs : List Int) (h : ∀ n ∈ zs, (Lit.int .u8 n).wf = true) : ∃ l : List (BitVec 8), l.length = zs.length ∧ l.map byteV = zs.map (Value.int .u8) := by
  induction zs with
  | nil => exact ⟨[], rfl, rfl⟩
  | cons z zs ih =>
    obtain ⟨l, h1, h2⟩ := ih fun n hn => h n (by simp [hn])
    obtain ⟨x, hx⟩ := bI_of z (wf_u8_b (h z (by simp))).1 (wf_u8_b (h z (by simp))).2
    exact ⟨x :: l, by simp [h1], by simp [h2, byteV, hx]⟩
theorem spot_none {W : World} {a : Addr} {v : Value} (h : W.cell? a = some v) : a = ⟨a.block, a.off, none⟩ := by
  cases a with
  | mk b o s =>
    cases s with
    | none => rfl
    | some s => simp only [World.cell?] at h; split at h <;> simp at h
/-- The cells of a slice that is read: nil, or at an address. -/
theorem bytes_of_trod {t e : TypeId} {fuel : Nat} {v : Value} {x : DataW H × List MemPlace} (ht : P.underlying t = some (.slice e)) (he : P.underlying e = some (.int .u8)) (hc : P.cellsOf e = 1)
    (h : DataW.trod enc P W 0 (fun _ => true) true fuel t [v] = some x) : ∃ l, Bytes W.heap.size W v l := by
  rcases open_ints ht he hc h with ⟨hcs, _⟩ | ⟨a, len, cap, zs, hcs, _, hl, hm, hz, _, hcell, hw⟩
  · simp only [List.cons.injEq, and_true] at hcs
    subst hcs
    exact ⟨[], Sl.nil _ _⟩
  · simp only [List.cons.injEq, and_true] at hcs
    subst hcs
    simp only [if_true] at hz
    obtain ⟨l, h1, h2⟩ := bytes_of_ints (zs.take len) fun n hn => hw n (List.mem_of_mem_take hn)
    have hlen : l.length = len := by rw [h1, List.length_take]; omega
    have hlen' : (l.map byteV).length = len := by simp [hlen]
    refine ⟨l, some a, cap, by rw [hlen'], by omega, hm, fun hp => ?_⟩
    rw [hlen'] at hp
    have h0 := hcell 0 (by omega)
    have ha := spot_none h0
    rw [show a.add 0 = a from by simp [Addr.add]] at h0 ha
    refine ⟨a.block, a.off, by rw [← ha], block_lt_of_cell h0, fun j u hu => ?_⟩
    have hj : j < len := by
      have := (List.getElem?_eq_some_iff.1 hu).1
      omega
    have h3 := hcell j (by omega)
    rw [ha, add_lit] at h3
    rw [h3]
    rw [h2] at hu
    simp only [List.getElem?_map, List.getElem?_take_of_lt hj] at hu
    rw [List.getD_eq_getElem?_getD]
    cases hzj : zs[j]? with
    | none => simp [hzj] at hu
    | some z => simp only [hzj, Option.map_some, Option.some.injEq] at hu; simpa using hu
theorem open_bytes {b0 : Nat} {t e : TypeId} {v : Value} {d : DataW H} {ps : List MemPlace} (ht : P.underlying t = some (.slice e)) (he : P.underlying e = some (.int .u8)) (hc : P.cellsOf e = 1)
    (hval : Value.okWide P W .any b0 t v) (hd : DataW.Trod enc P W 0 (fun _ => true) true t v d ps) : ∃ l, Bytes W.heap.size W v l := by
  obtain ⟨a, len, cap, rfl⟩ := okWide_slice ht hval
  obtain ⟨fuel, hf⟩ := hd
  exact bytes_of_trod ht he hc hf
theorem open_parts {b0 : Nat} {t e q : TypeId} {v : Value} {d : DataW H} {ps : List MemPlace} (ht : P.underlying t = some (.slice e)) (he : P.underlying e = some (.slice q)) (hq : P.underlying q = some (.int .u8)) (ce : P.cellsOf e = 1) (cq : P.cellsOf q = 1)
    (hval : Value.okWide P W .any b0 t v) (hd : DataW.Trod enc P W 0 (fun _ => true) true t v d ps) : ∃ ls, Parts W.heap.size W v ls := by
  obtain ⟨a, len, cap, rfl⟩ := okWide_slice ht hval
  obtain ⟨fuel, hf⟩ := hd
  rcases open_slice1 ht ce hf with ⟨hcs, _⟩ | ⟨a, len, cap, m, n, V, D, Pl, hcs, _, hl, hm, hmm, _, hx⟩
  · simp [Value.cells] at hcs
    obtain ⟨rfl, rfl, rfl⟩ := hcs
    exact ⟨[], [], rfl, Sl.nil _ _, fun i x l h => by simp at h⟩
  · simp [Value.cells] at hcs
    obtain ⟨rfl, rfl, rfl⟩ := hcs
    simp only [if_true] at hmm
    have each : ∀ i, i < m → ∃ l, Bytes W.heap.size W (V i) l := fun i hi => bytes_of_trod he hq cq (hx i hi).2
    obtain ⟨L, hL⟩ := choose_lt each
    refine ⟨(List.range len).map L, (List.range len).map V, by simp, ⟨some a, cap, by simp, by simpa using hl, hm, fun hp => ?_⟩, fun i x l h1 h2 => ?_⟩
    · simp only [List.length_map, List.length_range] at hp
      have h0 := (hx 0 (by omega)).1
      have ha := spot_none h0
      rw [show a.add 0 = a from by simp [Addr.add]] at h0 ha
      refine ⟨a.block, a.off, by rw [← ha], block_lt_of_cell h0, fun j u hu => ?_⟩
      simp only [List.getElem?_map] at hu
      by_cases hj : j < len
      · rw [List.getElem?_range hj] at hu
        simp only [Option.map_some, Option.some.injEq] at hu
        have h3 := (hx j (by omega)).1
        rw [ha, add_lit] at h3
        rw [h3, hu]
      · rw [List.getElem?_eq_none (by simpa using hj)] at hu
        simp at hu
    · simp only [List.getElem?_map] at h1 h2
      by_cases hi : i < len
      · rw [List.getElem?_range hi] at h1 h2
        simp only [Option.map_some, Option.some.injEq] at h1 h2
        subst h1 h2
        exact hL i (by omega)
      · rw [List.getElem?_eq_none (by simpa using hi)] at h1
        simp at h1
theorem okWide_array {b0 : Nat} {t e : TypeId} {n : Nat} {v : Value} (ht : P.underlying t = some (.array n e)) (h : Value.okWide P W .any b0 t v) : ∃ cs, v = .agg cs ∧ cs.size = P.cellsOf t := by
  unfold Value.okWide at h
  rw [ht] at h
  obtain ⟨cs, h1, h2, _⟩ := h
  exact ⟨cs, h1, h2⟩
theorem open_arr {b0 : Nat} {t e : TypeId} {n : Nat} {v : Value} {d : DataW H} {ps : List MemPlace} (ht : P.underlying t = some (.array n e)) (he : P.underlying e = some (.int .u8)) (hc : P.cellsOf e = 1) (hn : P.cellsOf t = n)
    (hval : Value.okWide P W .any b0 t v) (hd : DataW.Trod enc P W 0 (fun _ => true) true t v d ps) : ∃ l : List (BitVec 8), l.length = n ∧ v = .agg (l.map byteV).toArray := by
  obtain ⟨cs, rfl, hs⟩ := okWide_array ht hval
  obtain ⟨fuel, hf⟩ := hd
  obtain ⟨xs, m, rfl, _, _, hxl, hx⟩ := DataW.trod_array ht hf
  rw [hn] at hs
  have each : ∀ i, i < n → ∃ z : Int, cs[i]? = some (.int .u8 z) ∧ (Lit.int .u8 z).wf = true := by
    intro i hi
    have h1 := hx i hi
    rw [hc, Nat.mul_one] at h1
    have hi' : i < cs.size := by omega
    have h2 : (cs.toList.drop i).take 1 = [cs[i]] := by
      rw [List.drop_eq_getElem_cons (by simpa using hi')]; simp
    rw [show (Value.agg cs).cells.toList = cs.toList from rfl, h2, List.getElem?_eq_getElem (by omega)] at h1
    obtain ⟨z, hz, _, hw⟩ := DataW.trod_int he h1
    simp only [List.cons.injEq, and_true] at hz
    exact ⟨z, by rw [Array.getElem?_eq_getElem hi', hz], hw⟩
  obtain ⟨Z, hZ⟩ := choose_lt each
  obtain ⟨l, h1, h2⟩ := bytes_of_ints ((List.range n).map Z) fun z hz => by
    obtain ⟨i, hi, rfl⟩ := List.mem_map.1 hz
    exact (hZ i (by simpa using hi)).2
  refine ⟨l, by simpa using h1, ?_⟩
  rw [h2]
  congr 1
  apply Array.ext
  · simp [hs]
  · intro i hi _
    have h3 := (hZ i (by omega)).1
    rw [Array.getElem?_eq_getElem hi] at h3
    simp only [Option.some.injEq] at h3
    simp [h3]
end
/-- A number brought into 0 .. n by the remainder twice. -/
theorem into (a : Int) (n : Nat) : (-((n : Int) + 1) < a.tmod (n + 1) ∧ a.tmod (n + 1) < (n : Int) + 1) ∧ ∃ p : Nat, p ≤ n ∧ (a.tmod (n + 1) + n + 1) % ((n : Int) + 1) = p := by
  have h1 : a.tmod ((n : Int) + 1) < (n : Int) + 1 := Int.tmod_lt_of_pos a (by omega)
  have h2 : -((n : Int) + 1) < a.tmod ((n : Int) + 1) := by
    have h3 : (-a).tmod ((n : Int) + 1) < (n : Int) + 1 := Int.tmod_lt_of_pos (-a) (by omega)
    rw [Int.neg_tmod] at h3
    omega
  refine ⟨⟨h2, h1⟩, ((a.tmod (n + 1) + n + 1) % ((n : Int) + 1)).toNat, ?_, ?_⟩
  · have h3 := Int.emod_lt_of_pos (a.tmod (n + 1) + n + 1) (show 0 < (n : Int) + 1 by omega)
    have h4 := Int.emod_nonneg (a.tmod (n + 1) + n + 1) (show (n : Int) + 1 ≠ 0 by omega)
    omega
  · have h4 := Int.emod_nonneg (a.tmod (n + 1) + n + 1) (show (n : Int) + 1 ≠ 0 by omega)
    omega
theorem Parts.of_row {B : Nat} {W : World} {g n : Nat} {t : TypeId} {cs : Array Value} {fr : Nat × Nat} (ls : List (List (BitVec 8))) (h : W.heap[g]? = some (.cells cs t fr)) (hB : g < B) (hn : cs.size = n) (hl : ls.length = n) (hm : n ≤ maxLen)
    (each : ∀ (i : Nat) (x : Value) (l : List (BitVec 8)), cs.toList[i]? = some x → ls[i]? = some l → Bytes B W x l) : Parts B W (.slice (some ⟨g, 0, none⟩) n n) ls := by
  refine ⟨cs.toList, by simp [hn, hl], ?_, each⟩
  have hlen : cs.toList.length = n := by simpa using hn
  have := Sl.of_row h hB n cs.toList rfl (by omega) hm
  rwa [hlen] at this
/-- A number brought into 0 .. n - 1 by the remainder twice. -/
theorem into' (a : Int) (n : Nat) (hn : 0 < n) : (-(n : Int) < a.tmod n ∧ a.tmod n < (n : Int)) ∧ ∃ p : Nat, p < n ∧ (a.tmod n + n) % (n : Int) = p := by
  have h1 : a.tmod (n : Int) < (n : Int) := Int.tmod_lt_of_pos a (by omega)
  have h2 : -(n : Int) < a.tmod (n : Int) := by
    have h3 : (-a).tmod (n : Int) < (n : Int) := Int.tmod_lt_of_pos (-a) (by omega)
    rw [Int.neg_tmod] at h3
    omega
  have h3 := Int.emod_lt_of_pos (a.tmod n + n) (show 0 < (n : Int) by omega)
  have h4 := Int.emod_nonneg (a.tmod n + n) (show (n : Int) ≠ 0 by omega)
  exact ⟨⟨h2, h1⟩, ((a.tmod n + n) % (n : Int)).toNat, by omega, by omega⟩
end Go.Proofs.YtjcommodiihcdaaDoor
/- A region whose order is open, inside a fence (in a round of a range over a function too): reads in any order, then the rest in the text's order. No function of the program. -/
namespace Go.Proofs.YtjcommodiihcdaaDoor
open Go.RowKit

/-- Operations that enter no function. -/
def plainOp : Op → Bool
  | .move _ | .assign _ | .pick _ _ _ | .alloc _ | .box _ _ | .build _ _ | .load _ _ | .store _ _ _ | .binOp _ _ _ _ _ | .unOp _ _ _ | .convert _ _ _ => true
  | .fieldAddr _ _ _ | .field _ _ _ | .indexAddr _ _ _ | .index _ _ _ | .extract _ _ | .slice _ _ _ _ _ | .makeInterface _ _ => true
  | .call c => match c.callee with | .builtin .len => true | _ => false
  | _ => false

theorem run_value {α : Type} {P : Program} {w : World} (s : Sem α) (f : α → Next) {r : Next} {w' : World} (h : (s >>= fun x => pure (f x)).run P w = .ok r w') : ∃ x, r = f x := by
  rw [Sem.run_bind] at h
  cases hs : s.run P w with
  | ok a w1 => rw [hs] at h; simp [Result.andThen] at h; exact ⟨a, h.1.symm⟩
  | halt x w1 => rw [hs] at h; simp [Result.andThen] at h

theorem plain_ends {P : Program} {w w' : World} {ρ : Operand → Value} {o : Oper} {r : Next} (hp : plainOp o.op = true) (h : (execOp ρ o).run P w = .ok r w') : (∃ v, r = .value v) ∨ r = .skip := by
  unfold execOp at h
  cases ho : o.op <;> simp only [ho, plainOp, Bool.false_eq_true] at hp h
  case move => simp at h; exact .inl ⟨_, h.1.symm⟩
  case assign => simp at h; exact .inl ⟨_, h.1.symm⟩
  case call c =>
    split at hp
    · rename_i hc
      simp only [resolve, hc, Sem.run_bind, Sem.run_pure, Result.andThen_ok, invoke, builtin] at h
      obtain ⟨x, hx⟩ := run_value _ (fun x => Next.value x) (by simpa only [Sem.run_bind, Sem.run_pure] using h); exact .inl ⟨x, hx⟩
    · cases hp
  case store => obtain ⟨x, hx⟩ := run_value _ (fun _ => Next.skip) h; exact .inr hx
  all_goals (first | (obtain ⟨x, hx⟩ := run_value _ (fun x => Next.value x) h; exact .inl ⟨x, hx⟩) | (obtain ⟨x, hx⟩ := run_value _ _ h; exact .inl ⟨_, hx⟩))

theorem plain_about {P : Program} {w : World} {ρ : Operand → Value} {o : Oper} (hp : plainOp o.op = true) : o.about P w ρ = none := by
  unfold Oper.about
  cases ho : o.op <;> simp only [ho, plainOp, Bool.false_eq_true] at hp ⊢
  split at hp
  · rename_i hc
    simp [resolve, hc, Target.leads]
  · cases hp
theorem plain_nodefer {o : Oper} (hp : plainOp o.op = true) (c : Call) : o.op ≠ .defer c := by
  intro h; rw [h] at hp; simp [plainOp] at hp

section
variable {P : Program} {F : Fence} {n : Nat} {ops : Array Oper}
/-- Q, and the model does not run out of memory. -/
def Kept (Q : Exit → Act → World → Prop) (e : Exit) (a : Act) (w : World) : Prop := e ≠ .outgrown ∧ Q e a w
theorem not_out (Q : Exit → Act → World → Prop) : ¬ LetsOut (Kept Q) := fun ⟨_, _, h⟩ => h.1 rfl

theorem plain_in {o : Oper} {a : Act} {w : World} {K : Act → World → Prop} {Q : Exit → Act → World → Prop} (hp : plainOp o.op = true) (h : o.wp P a w K (Kept Q)) : o.wpIn F n P a w K Q := by
  refine ⟨fun f hf => (by rw [plain_about hp] at hf; cases hf), ?_⟩
  rw [Oper.semAt_eq F.round a.eval o (plain_nodefer hp)]
  unfold Oper.wp at h
  generalize hr : (execOp a.eval o).run P w = r at h ⊢
  cases r with
  | ok x w' =>
    rcases plain_ends hp hr with ⟨v, rfl⟩ | rfl
    · exact h
    · exact h
  | halt x w' =>
    cases x <;> first | exact h | (exact h.2)

theorem any_in {md : Region.Mode} {Q : Exit → Act → World → Prop} (hp : ∀ (i : Nat) o, ops[i]? = some o → plainOp o.op = true) :
    ∀ (fuel : Nat) (listed : Array Bool) (a : Act) (w : World), wpAny P md ops (Kept Q) fuel listed a w → wpAnyIn F n P md ops Q fuel listed a w
  | 0, _, _, _, h => ⟨h.1, h.2.2⟩
  | fuel + 1, listed, a, w, h => by
    refine ⟨fun h0 => (h.1 h0).2, fun i hi => ?_⟩
    have h2 := h.2 i hi
    unfold wpOp at h2
    unfold wpOpIn
    cases ho : ops[i]? with
    | none => simp only [ho] at h2 ⊢; exact any_in hp fuel _ a w h2
    | some o =>
      simp only [ho] at h2 ⊢
      split
      · rename_i hw
        simp only [hw, if_true] at h2
        rcases h2 with h2 | ⟨_, h2⟩
        · exact plain_in (hp i o ho) (Oper.wp_mono (fun a w => any_in hp fuel _ a w) h2)
        · exact absurd h2 (not_out Q)
      · rename_i hw
        simp only [hw, Bool.false_eq_true, if_false] at h2
        exact ⟨fun f hf => (by rw [plain_about (hp i o ho)] at hf; cases hf), any_in hp fuel _ _ w h2⟩

/-- The reads ahead of place k in any order, what is behind in the text's. -/
theorem wpIn_region_still_tail {id : Nat} {Q : Exit → Act → World → Prop} {a : Act} {w : World} {l : List Oper} (k : Nat) (hm : P.follows .mixedOrders = true) (hpl : l.all (fun o => plainOp o.op) = true) (hB : Region.lexTailB .any l.toArray k = true)
    (h : wpStill P l.toArray { w with drawn := w.drawn + 1 } (fun a' => wpList P l.toArray (Kept Q) (l.drop k) a' { w with drawn := w.drawn + 1 }) (l.take k) a) : (Code.region id l.toArray true).wpIn F n P Q a w := by
  simp only [Region.lexTailB, Bool.and_eq_true, decide_eq_true_eq] at hB
  obtain ⟨⟨⟨⟨hsel, hn⟩, hs⟩, hc⟩, hlex⟩ := hB
  have hn' : k < l.length := by simpa using hn
  have htl : (l.take k).length = k := by simp; omega
  have hdl : (l.drop k).length = l.toArray.size - k := by simp
  have inv0 : HeadInv .any l.toArray k (Array.replicate l.toArray.size false) :=
    ⟨by simp, fun j oj _ hl => (by rw [getD_replicate_false] at hl; cases hl), fun t _ ht => getD_in (by simpa using ht) (getD_replicate_false _ _)⟩
  have H := wpAnyL_lex (md := .any) (g := l.toArray.size - k) hsel hs hc hn (l.take k) 0 _ a (fun j hj => by
    have hj' : j < k := by rw [htl] at hj; exact hj
    simp [hj']) (by simpa using htl) inv0 (by rw [htl]; exact hlex) h
  refine wpIn_region_any hm (any_in (fun i o ho => ?_) _ _ _ _ ?_)
  · refine List.all_eq_true.1 hpl o ?_
    have : l[i]? = some o := by simpa using ho
    exact List.mem_of_getElem? this
  · have := wpAny_of_head (Q' := Kept Q) (g := l.toArray.size - k) (fun listed a' hL => by
      have := wpAny_of_seq (md := .any) (Q' := Kept Q) (l.drop k) k listed a' { w with drawn := w.drawn + 1 } (fun j => by simp [List.getElem?_drop]) (by rw [hdl]; exact hL.1) hL.2
      rwa [hdl] at this) _ _ _ H
    rw [htl, show k + (l.toArray.size - k) = l.toArray.size by omega] at this
    exact this
end
end Go.Proofs.YtjcommodiihcdaaDoor
/- A region whose order is open: each operation by itself, in whatever world that has grown. No function of the program.
   What an operation yields is said by a word V of its own, which growth keeps; an operation may lean on the words of those for which it waits, and on no other. -/
namespace Go.Proofs.YtjcommodiihcdaaDoor
open Go.RowKit

/-- w' is w with more blocks. -/
def Grows (w w' : World) : Prop := Below w.heap.size w w'
theorem Grows.refl (w : World) : Grows w w := Below.refl _ _
theorem Grows.trans {a b c : World} (h : Grows a b) (k : Grows b c) : Grows a c := Below.trans h (Below.mono k h.size)
theorem Grows.drew (w : World) : Grows w w.drew := (Below.refl _ w).drew
theorem Grows.of_drew {w w' : World} (h : Grows w.drew w') : Grows w w' := (Grows.drew w).trans h
theorem Grows.alloc (w : World) (o : Obj) : Grows w (w.alloc o) := (Below.refl _ w).alloc (Nat.le_refl _) o
theorem Row.grows {w w' : World} {g : Nat} {t : TypeId} {cs : Array Value} (h : Row w g t cs) (hg : Grows w w') : Row w' g t cs := h.below hg h.lt
theorem Sl.grows {B : Nat} {w w' : World} {v : Value} {xs : List Value} (h : Sl B w v xs) (hB : B ≤ w.heap.size) (hg : Grows w w') : Sl B w' v xs := h.below (Below.mono hg hB)

theorem Grows.grownBy {w w' : World} (h : Grows w w') : w.grownBy w' none := ⟨Below.os h, Below.tape h, Below.output h, Below.size h, fun k hk _ => Below.block h k hk⟩
theorem own_grows {w w' : World} {base : Nat} {e : TypeId} {size n : Nat} {v : Value} {xs : List Value} (h : w.ownsRow base e size v n xs) (hg : Grows w w') : w'.ownsRow base e size v n xs :=
  h.kept hg.grownBy (by cases v.ownBlock <;> simp)
section
variable {P : Program}
/-- What an operation does: a value, and a world; a call by the callee's contract. -/
def Does (P : Program) (o : Oper) (ρ : Operand → Value) (w : World) (R : Value → World → Prop) : Prop :=
  match (execOp ρ o).run P w with
  | .ok (.value v) w' => R v w'
  | .ok .skip w' => R undef w'
  | .ok (.enter f args) w' => Calls P f args w' fun e w'' => ∃ v, e = .returned v ∧ R v w''
  | _ => False
def OpDoes (P : Program) (ops : Array Oper) (o : Oper) (a : Act) (w : World) (R : Value → World → Prop) : Prop :=
  if Region.wanted o (yielded ops a.tmps) = true then Does P o a.eval w R else R undef w

theorem Does.wp {o : Oper} {a : Act} {w : World} {R : Value → World → Prop} {K : Act → World → Prop} {Q : Exit → Act → World → Prop} (h : Does P o a.eval w R) (hK : ∀ v w', R v w' → K (a.put o.dst v) w') : o.wp P a w K Q := by
  unfold Does at h
  unfold Oper.wp
  generalize (execOp a.eval o).run P w = r at h ⊢
  cases r with
  | ok x w' =>
    cases x <;> simp only at h <;> simp only [Oper.upon]
    case value v => exact hK _ _ h
    case skip => exact hK _ _ h
    case enter f args =>
      refine h.mono ?_
      rintro e w'' ⟨v, rfl, hv⟩
      exact hK _ _ hv
  | halt x w' => exact h.elim

theorem Does.congr {o : Oper} {ρ ρ' : Operand → Value} {w : World} {R : Value → World → Prop} (he : execOp ρ o = execOp ρ' o) (h : Does P o ρ w R) : Does P o ρ' w R := by
  unfold Does at *; rw [← he]; exact h

def dstAt (ops : Array Oper) (i : Nat) : Option Tmp := (ops[i]?).bind (·.dst)
/-- What the listed ones have put. -/
def putL (ops : Array Oper) (L : Nat → Bool) (vs : Nat → Value) : List Nat → Act → Act
  | [], a => a
  | j :: I, a => putL ops L vs I (if L j = true then a.put (dstAt ops j) (vs j) else a)

/-- Two frames alike at these slots. -/
def Alike (T : List Tmp) (a b : Act) : Prop := a.tmps.size = b.tmps.size ∧ ∀ t ∈ T, a.tmps[t]? = b.tmps[t]?
theorem size_put (a : Act) (d : Option Tmp) (v : Value) : (a.put d v).tmps.size = a.tmps.size := by
  cases d <;> simp [Act.put]
theorem alike_put {T : List Tmp} {a b : Act} (h : Alike T a b) (d : Option Tmp) (v : Value) : Alike T (a.put d v) (b.put d v) := by
  refine ⟨by rw [size_put, size_put]; exact h.1, fun t ht => ?_⟩
  cases d with
  | none => exact h.2 t ht
  | some d => simp only [Act.put, Array.getElem?_setIfInBounds, h.1, h.2 t ht]
theorem alike_put_left {T : List Tmp} {a b : Act} (h : Alike T a b) (d : Option Tmp) (v : Value) (hd : ∀ x, d = some x → x ∉ T) : Alike T (a.put d v) b := by
  refine ⟨by rw [size_put]; exact h.1, fun t ht => ?_⟩
  cases d with
  | none => exact h.2 t ht
  | some d =>
    have hne : d ≠ t := fun e => hd d rfl (e ▸ ht)
    simp only [Act.put, Array.getElem?_setIfInBounds, hne, if_false, h.2 t ht]
theorem Alike.symm {T : List Tmp} {a b : Act} (h : Alike T a b) : Alike T b a := ⟨h.1.symm, fun t ht => (h.2 t ht).symm⟩
theorem alike_putL {ops : Array Oper} {L L' : Nat → Bool} {vs : Nat → Value} {T : List Tmp} : ∀ (I : List Nat) (a b : Act), Alike T a b → (∀ j ∈ I, L j ≠ L' j → ∀ x, dstAt ops j = some x → x ∉ T) → Alike T (putL ops L vs I a) (putL ops L' vs I b)
  | [], _, _, h, _ => h
  | j :: I, a, b, h, hd => by
    refine alike_putL I _ _ ?_ fun j' hj' => hd j' (by simp [hj'])
    have hdj := hd j (by simp)
    cases hL : L j <;> cases hL' : L' j <;> simp only [Bool.false_eq_true, if_false, if_true]
    · exact h
    · exact (alike_put_left h.symm _ _ (hdj (by simp [hL, hL']))).symm
    · exact alike_put_left h _ _ (hdj (by simp [hL, hL']))
    · exact alike_put h _ _
theorem alike_exec {ops : Array Oper} {o : Oper} {a b : Act} (hs : ∀ cs c, o.op ≠ .select cs c) (h : Alike (o.looksAt ops) a b) : execOp a.eval o = execOp b.eval o :=
  execOp_congr o hs fun x hx => by
    cases x with
    | tmp t =>
      have := h.2 t (List.mem_append_left _ (List.mem_filterMap.2 ⟨.tmp t, by simpa using hx, rfl⟩))
      simp [Act.eval, this]
    | _ => rfl
theorem alike_wanted {ops : Array Oper} {o : Oper} {a b : Act} (h : Alike (o.looksAt ops) a b) : Region.wanted o (yielded ops a.tmps) = Region.wanted o (yielded ops b.tmps) := by
  unfold Region.wanted
  cases hg : o.guard with
  | none => rfl
  | some gw =>
    obtain ⟨g, want⟩ := gw
    have hy : yielded ops a.tmps g = yielded ops b.tmps g := by
      unfold yielded
      cases ht : (ops[g]?).bind (·.dst) with
      | none => rfl
      | some t =>
        have := h.2 t (by simp [Oper.looksAt, hg, ht])
        simp [this]
    simp only [hy]

theorem putL_late {ops : Array Oper} {L : Nat → Bool} {vs : Nat → Value} {d : Option Tmp} {v : Value} : ∀ (I : List Nat) (a : Act), (∀ j ∈ I, ∀ x, d = some x → dstAt ops j ≠ some x) → putL ops L vs I (a.put d v) = (putL ops L vs I a).put d v
  | [], _, _ => rfl
  | j :: I, a, h => by
    unfold putL
    have hj := h j (by simp)
    rw [← putL_late I _ fun j' hj' => h j' (by simp [hj'])]
    cases hL : L j <;> simp only [Bool.false_eq_true, if_false, if_true]
    rw [Act.put_comm a v (vs j) hj]
theorem putL_same {ops : Array Oper} {L L' : Nat → Bool} {vs vs' : Nat → Value} : ∀ (I : List Nat) (a : Act), (∀ j ∈ I, L j = L' j ∧ (L j = true → vs j = vs' j)) → putL ops L vs I a = putL ops L' vs' I a
  | [], _, _ => rfl
  | j :: I, a, h => by
    unfold putL
    obtain ⟨h1, h2⟩ := h j (by simp)
    rw [putL_same I _ fun j' hj' => h j' (by simp [hj'])]
    cases hL : L j with
    | false => rw [hL] at h1; rw [← h1]; simp
    | true => rw [hL] at h1; rw [← h1, h2 hL]
theorem putL_add {ops : Array Oper} {L : Nat → Bool} {vs : Nat → Value} {i : Nat} {v : Value} (hLi : L i = false) : ∀ (I : List Nat) (a : Act), I.Nodup → i ∈ I → (∀ j ∈ I, j ≠ i → ∀ x, dstAt ops i = some x → dstAt ops j ≠ some x) →
    putL ops (fun j => L j || j == i) (fun j => if j = i then v else vs j) I a = (putL ops L vs I a).put (dstAt ops i) v
  | [], _, _, h, _ => by cases h
  | j :: I, a, hn, hm, hd => by
    unfold putL
    by_cases hji : j = i
    · subst hji
      have hnj : j ∉ I := (List.nodup_cons.1 hn).1
      simp only [hLi, Bool.false_or, beq_self_eq_true, if_true, Bool.false_eq_true, if_false]
      rw [← putL_late I a fun j' hj' => hd j' (by simp [hj']) (fun e => hnj (e ▸ hj'))]
      exact putL_same I _ fun j' hj' => by
        have hne : j' ≠ j := fun e => hnj (e ▸ hj')
        simp [hne]
    · have hm' : i ∈ I := by
        rcases List.mem_cons.1 hm with h | h
        · exact absurd h.symm hji
        · exact h
      have hji' : (j == i) = false := by simpa using hji
      simp only [hji', Bool.or_false, hji, if_false]
      exact putL_add hLi I _ (List.nodup_cons.1 hn).2 hm' fun j' hj' => hd j' (by simp [hj'])

theorem putL_append {ops : Array Oper} {L : Nat → Bool} {vs : Nat → Value} : ∀ (I J : List Nat) (a : Act), putL ops L vs (I ++ J) a = putL ops L vs J (putL ops L vs I a)
  | [], _, _ => rfl
  | _ :: I, J, _ => putL_append I J _
theorem putL_off {ops : Array Oper} {L : Nat → Bool} {vs : Nat → Value} : ∀ (I : List Nat) (a : Act), (∀ j ∈ I, L j = false) → putL ops L vs I a = a
  | [], _, _ => rfl
  | j :: I, a, h => by
    unfold putL
    rw [h j (by simp)]
    exact putL_off I _ fun j' hj' => h j' (by simp [hj'])
theorem putL_upto {ops : Array Oper} {vs : Nat → Value} {a : Act} {i k : Nat} (hik : i ≤ k) : putL ops (fun j => decide (j < i)) vs (List.range k) a = putL ops (fun _ => true) vs (List.range i) a := by
  obtain ⟨d, rfl⟩ : ∃ d, k = i + d := ⟨k - i, by omega⟩
  rw [List.range_add, putL_append, putL_off _ _ (fun j hj => by
    obtain ⟨x, _, rfl⟩ := List.mem_map.1 hj
    simp)]
  exact putL_same _ _ fun j hj => by
    have := List.mem_range.1 hj
    simp [this]

/-- How many of the first k are not listed yet. -/
def left (listed : Array Bool) : Nat → Nat
  | 0 => 0
  | k + 1 => left listed k + if listed.getD k false = true then 0 else 1
theorem left_zero {listed : Array Bool} : ∀ {k : Nat}, left listed k = 0 → ∀ i, i < k → listed.getD i false = true
  | k + 1, h, i, hi => by
    unfold left at h
    by_cases hik : i = k
    · subst hik
      by_cases hl : listed.getD i false = true
      · exact hl
      · rw [if_neg hl] at h; omega
    · exact left_zero (listed := listed) (k := k) (by omega) i (by omega)
theorem left_same {listed : Array Bool} {i : Nat} : ∀ {k : Nat}, k ≤ i → left (listed.setIfInBounds i true) k = left listed k
  | 0, _ => rfl
  | k + 1, h => by
    unfold left
    rw [left_same (by omega), getD_set_ne false (by omega)]
theorem left_set {listed : Array Bool} {i : Nat} (hi : i < listed.size) (hl : listed.getD i false = false) : ∀ {k : Nat}, i < k → left listed k = left (listed.setIfInBounds i true) k + 1
  | k + 1, h => by
    unfold left
    by_cases hik : i = k
    · subst hik
      rw [left_same (Nat.le_refl _), hl, if_neg (by simp)]
      have : (listed.setIfInBounds i true).getD i false = true := by simp [hi]
      rw [this]
      simp
    · rw [left_set hi hl (by omega), getD_set_ne false hik]
      omega
theorem left_some {listed : Array Bool} : ∀ {k : Nat}, left listed k ≠ 0 → ∃ i, i < k ∧ listed.getD i false = false ∧ ∀ j, j < i → listed.getD j false = true
  | k + 1, h => by
    by_cases hk : left listed k = 0
    · refine ⟨k, by omega, ?_, left_zero hk⟩
      unfold left at h
      rw [hk] at h
      cases hl : listed.getD k false with
      | false => rfl
      | true => simp [hl] at h
    · obtain ⟨i, h1, h2, h3⟩ := left_some hk
      exact ⟨i, by omega, h2, h3⟩

def pairB (ops : Array Oper) (oi : Oper) (i j : Nat) : Bool :=
  match ops[j]? with
  | none => false
  | some oj => (Region.waitsFor .any ops i j || oj.apart ops oi) && (oi.dst.isNone || oj.dst != oi.dst)
/-- Of the first k each waits for earlier ones alone, and is apart from the earlier ones for which it does not wait; what is behind goes in the text's order. -/
def freeB (ops : Array Oper) (k : Nat) : Bool :=
  Region.noSelect ops && decide (k ≤ ops.size) &&
  ((List.range k).all fun i => match ops[i]? with
    | none => false
    | some oi => (oi.after.all fun e => !Region.binds .any e || decide (e.on < i)) && (List.range i).all fun j => pairB ops oi i j) &&
  (decide (k = ops.size) || (Region.sinkB .any ops k && Region.chainB .any ops k)) &&
  Region.seqB .any ops (ops.size - k) k ((List.range ops.size).map fun i => decide (i < k)).toArray

structure FreeOk (ops : Array Oper) (k : Nat) : Prop where
  sel : ∀ (j : Nat) (o : Oper) cs b, ops[j]? = some o → o.op ≠ .select cs b
  le : k ≤ ops.size
  before : ∀ (i : Nat) (oi : Oper), i < k → ops[i]? = some oi → ∀ e ∈ oi.after, Region.binds .any e = true → e.on < i
  pair : ∀ (i j : Nat) (oi oj : Oper), i < k → j < i → ops[i]? = some oi → ops[j]? = some oj → (Region.waitsFor .any ops i j = true ∨ oj.apart ops oi = true) ∧ ∀ x, oi.dst = some x → oj.dst ≠ some x
  tail : k = ops.size ∨ (Region.sinkB .any ops k = true ∧ Region.chainB .any ops k = true)
  seq : Region.seqB .any ops (ops.size - k) k ((List.range ops.size).map fun i => decide (i < k)).toArray = true

theorem freeOk {ops : Array Oper} {k : Nat} (h : freeB ops k = true) : FreeOk ops k := by
  simp only [freeB, Bool.and_eq_true, decide_eq_true_eq, Bool.or_eq_true] at h
  obtain ⟨⟨⟨⟨h1, h2⟩, h3⟩, h4⟩, h5⟩ := h
  have each : ∀ (i : Nat) (oi : Oper), i < k → ops[i]? = some oi → (∀ e ∈ oi.after, Region.binds .any e = true → e.on < i) ∧ ∀ j, j < i → pairB ops oi i j = true := by
    intro i oi hi ho
    have h := List.all_eq_true.1 h3 i (List.mem_range.2 hi)
    simp only [ho, Bool.and_eq_true] at h
    refine ⟨fun e he hb => ?_, fun j hj => List.all_eq_true.1 h.2 j (List.mem_range.2 hj)⟩
    have := Array.all_eq_true_iff_forall_mem.1 h.1 e he
    simpa [hb] using this
  refine ⟨Region.noSelect_spec h1, h2, fun i oi hi ho => (each i oi hi ho).1, fun i j oi oj hi hj ho ho' => ?_, h4, h5⟩
  have h := (each i oi hi ho).2 j hj
  simp only [pairB, ho', Bool.and_eq_true, Bool.or_eq_true] at h
  refine ⟨h.1, fun x hx => ?_⟩
  have h2 := h.2
  rw [hx] at h2
  simpa using h2

/-- What stands in a slot when the first i have run in the text's order. -/
def look (ops : Array Oper) (vs : Nat → Value) (a0 : Act) (t : Tmp) : Nat → Value
  | 0 => a0.tmps.getD t undef
  | i + 1 => if dstAt ops i = some t then vs i else look ops vs a0 t i
def rho (ops : Array Oper) (vs : Nat → Value) (a0 : Act) (i : Nat) : Operand → Value
  | .tmp t => look ops vs a0 t i
  | x => a0.eval x
theorem rho_const (ops : Array Oper) (vs : Nat → Value) (a0 : Act) (i : Nat) (v : Value) : rho ops vs a0 i (.const v) = v := rfl
theorem rho_func (ops : Array Oper) (vs : Nat → Value) (a0 : Act) (i : Nat) (f : FuncId) : rho ops vs a0 i (.func f) = .func (.func f) #[] #[] := rfl
theorem rho_global (ops : Array Oper) (vs : Nat → Value) (a0 : Act) (i : Nat) (g : Nat) : rho ops vs a0 i (.global g) = .pointer (some ⟨g, 0, none⟩) := rfl
def yieldR (ops : Array Oper) (ρ : Operand → Value) (j : Nat) : Option Bool :=
  match (ops[j]?).bind (·.dst) with
  | none => none
  | some t => match ρ (.tmp t) with | .bool b => some b | _ => none
def OpDoesR (P : Program) (ops : Array Oper) (o : Oper) (ρ : Operand → Value) (w : World) (R : Value → World → Prop) : Prop :=
  if Region.wanted o (yieldR ops ρ) = true then Does P o ρ w R else R undef w
theorem yieldR_eq (ops : Array Oper) (a : Act) : yielded ops a.tmps = yieldR ops a.eval := by
  funext j
  unfold yielded yieldR
  cases (ops[j]?).bind (·.dst) with
  | none => rfl
  | some t =>
    simp only [Option.bind_some, Act.eval, Array.getD_eq_getD_getElem?]
    cases a.tmps[t]? with
    | none => rfl
    | some v => cases v <;> rfl
theorem putL_size {ops : Array Oper} {L : Nat → Bool} {vs : Nat → Value} : ∀ (I : List Nat) (a : Act), (putL ops L vs I a).tmps.size = a.tmps.size
  | [], _ => rfl
  | j :: I, a => by
    unfold putL
    rw [putL_size I]
    split
    · exact size_put _ _ _
    · rfl
theorem look_eq {ops : Array Oper} {vs : Nat → Value} {a0 : Act} (t : Tmp) : ∀ i, (∀ j, j < i → ∀ d, dstAt ops j = some d → d < a0.tmps.size) → (putL ops (fun _ => true) vs (List.range i) a0).tmps.getD t undef = look ops vs a0 t i
  | 0, _ => rfl
  | i + 1, h => by
    rw [List.range_succ, putL_append]
    unfold look
    simp only [putL, if_true]
    have ih := look_eq (vs := vs) t i fun j hj => h j (by omega)
    have hsz := putL_size (ops := ops) (L := fun _ => true) (vs := vs) (List.range i) a0
    cases hd : dstAt ops i with
    | none => simpa [Act.put] using ih
    | some d =>
      have hlt := h i (by omega) d hd
      simp only [Act.put, Array.getD_eq_getD_getElem?, Array.getElem?_setIfInBounds, hsz, hlt, if_true, Option.some.injEq]
      split
      · rfl
      · simpa using ih
theorem rho_eq {ops : Array Oper} {vs : Nat → Value} {a0 : Act} (i : Nat) (h : ∀ j, j < i → ∀ d, dstAt ops j = some d → d < a0.tmps.size) : (putL ops (fun _ => true) vs (List.range i) a0).eval = rho ops vs a0 i := by
  funext x
  cases x with
  | tmp t => exact look_eq t i h
  | _ => rfl
theorem opDoes_eq {ops : Array Oper} {o : Oper} {a : Act} {w : World} {R : Value → World → Prop} : OpDoes P ops o a w R = OpDoesR P ops o a.eval w R := by
  unfold OpDoes OpDoesR; rw [yieldR_eq]

/-- The user's duty: operation by operation in the text's order; a word for each. -/
def wpFree (P : Program) (ops : Array Oper) (w0 : World) (a0 : Act) (E : Act → World → Prop) : List Oper → Nat → (Nat → Value → World → Prop) → Prop
  | [], i, Vs => ∀ vs w, Grows w0 w → (∀ j, j < i → Vs j (vs j) w) → E (putL ops (fun _ => true) vs (List.range i) a0) w
  | o :: rest, i, Vs => ∃ V : Value → World → Prop, (∀ v w w', V v w → Grows w w' → V v w') ∧
      (∀ (vs : Nat → Value) w, Grows w0 w → (∀ e ∈ o.after, Region.binds .any e = true → Vs e.on (vs e.on) w) →
        OpDoesR P ops o (rho ops vs a0 i) w (fun v w' => Grows w w' ∧ V v w')) ∧
      wpFree P ops w0 a0 E rest (i + 1) (fun j => if j = i then V else Vs j)

theorem free_words {ops : Array Oper} {w0 : World} {a0 : Act} {E : Act → World → Prop} : ∀ (l : List Oper) (i : Nat) (Vs : Nat → Value → World → Prop),
    (∀ (j : Nat) (o : Oper), l[j]? = some o → ∀ e ∈ o.after, Region.binds .any e = true → e.on < i + j) → wpFree P ops w0 a0 E l i Vs →
    ∃ Vs' : Nat → Value → World → Prop, (∀ j, j < i → Vs' j = Vs j) ∧
      (∀ (j : Nat) (o : Oper), l[j]? = some o → (∀ v w w', Vs' (i + j) v w → Grows w w' → Vs' (i + j) v w') ∧
        ∀ (vs : Nat → Value) w, Grows w0 w → (∀ e ∈ o.after, Region.binds .any e = true → Vs' e.on (vs e.on) w) →
          OpDoesR P ops o (rho ops vs a0 (i + j)) w (fun v w' => Grows w w' ∧ Vs' (i + j) v w')) ∧
      ∀ vs w, Grows w0 w → (∀ j, j < i + l.length → Vs' j (vs j) w) → E (putL ops (fun _ => true) vs (List.range (i + l.length)) a0) w
  | [], i, Vs, _, h => ⟨Vs, fun _ _ => rfl, fun j o h => by simp at h, by simpa [wpFree] using h⟩
  | o :: rest, i, Vs, hb, h => by
    obtain ⟨V, hm, hd, hr⟩ := h
    obtain ⟨Vs', h1, h2, h3⟩ := free_words rest (i + 1) _ (fun j o' ho' e he hbi => by
      have := hb (j + 1) o' (by simpa using ho') e he hbi
      omega) hr
    have hi : Vs' i = V := by rw [h1 i (by omega)]; simp
    have hlt : ∀ j, j < i → Vs' j = Vs j := fun j hj => by rw [h1 j (by omega)]; simp [show ¬ j = i by omega]
    refine ⟨Vs', hlt, fun j o' ho' => ?_, ?_⟩
    · cases j with
      | zero =>
        simp only [List.getElem?_cons_zero, Option.some.injEq] at ho'
        subst ho'
        simp only [Nat.add_zero, hi]
        refine ⟨hm, fun vs w hg hv => hd vs w hg fun e he hbi => ?_⟩
        have hlt' := hb 0 o (by simp) e he hbi
        have := hv e he hbi
        rwa [hlt e.on (by omega)] at this
      | succ j =>
        have := h2 j o' (by simpa using ho')
        rw [show i + 1 + j = i + (j + 1) by omega] at this
        exact this
    · rw [show i + 1 + rest.length = i + (o :: rest).length by simp; omega] at h3
      exact h3

section
variable {ops : Array Oper} {k : Nat} {w0 : World} {a0 : Act} {Vs : Nat → Value → World → Prop} {Q : Exit → Act → World → Prop}
theorem wpAny_free (ok : FreeOk ops k) (l : List Oper) (hl : ∀ j, l[j]? = ops[k + j]?) (hll : l.length = ops.size - k)
    (hmono : ∀ i, i < k → ∀ v w w', Vs i v w → Grows w w' → Vs i v w')
    (hdo : ∀ (i : Nat) (o : Oper), i < k → ops[i]? = some o → ∀ (vs : Nat → Value) w, Grows w0 w → (∀ e ∈ o.after, Region.binds .any e = true → Vs e.on (vs e.on) w) →
      OpDoes P ops o (putL ops (fun _ => true) vs (List.range i) a0) w (fun v w' => Grows w w' ∧ Vs i v w'))
    (hend : ∀ vs w, Grows w0 w → (∀ j, j < k → Vs j (vs j) w) → wpList P ops Q l (putL ops (fun _ => true) vs (List.range k) a0) w) :
    ∀ (f : Nat) (listed : Array Bool) (vs : Nat → Value) (w : World), left listed k = f → HeadInv .any ops k listed → Grows w0 w → (∀ i, i < k → listed.getD i false = true → Vs i (vs i) w) →
      wpAny P .any ops Q (f + (ops.size - k)) listed (putL ops (fun j => listed.getD j false) vs (List.range k) a0) w
  | 0, listed, vs, w, hf, inv, hg, hv => by
    have hall := left_zero hf
    have hL : listed = ((List.range ops.size).map fun i => decide (i < k)).toArray := by
      apply Array.ext
      · simp [inv.size]
      · intro i h1 h2
        simp only [List.getElem_toArray, List.getElem_map, List.getElem_range]
        by_cases hik : i < k
        · have := hall i hik
          simp [h1] at this
          simp [hik, this]
        · have := inv.tail i (by omega) (by rw [inv.size] at h1; exact h1)
          simp [h1] at this
          simp [hik, this]
    rw [putL_same (L' := fun _ => true) (vs' := vs) _ _ fun j hj => ⟨hall j (List.mem_range.1 hj), fun _ => rfl⟩, Nat.zero_add, ← hll]
    have hs := ok.seq
    rw [← hL, ← hll] at hs
    exact wpAny_of_seq l k listed _ w hl hs (hend vs w hg fun j hj => hv j hj (hall j hj))
  | f + 1, listed, vs, w, hf, inv, hg, hv => by
    rw [show f + 1 + (ops.size - k) = (f + (ops.size - k)) + 1 by omega]
    obtain ⟨i0, hi0, hu0, hb0⟩ := left_some (listed := listed) (k := k) (by omega)
    have hle := ok.le
    refine ⟨fun h0 => ?_, fun i hi => ?_⟩
    · exfalso
      have hr : i0 ∈ Region.ready .any ops listed := by
        rw [mem_ready]
        have ho : ops[i0]? = some (ops[i0]'(by omega)) := Array.getElem?_eq_getElem (by omega)
        refine ⟨getD_in (by rw [inv.size]; omega) hu0, _, ho, fun e he hb => hb0 _ (ok.before i0 _ hi0 ho e he hb)⟩
      rw [h0] at hr
      cases hr
    · have hik : i < k := by
        rcases Nat.lt_or_ge i k with h | h
        · exact h
        · exfalso
          rcases ok.tail with ht | ⟨hs, hc⟩
          · obtain ⟨_, o, ho, _⟩ := mem_ready.1 hi
            have := (Array.getElem?_eq_some_iff.1 ho).1
            omega
          · obtain ⟨_, o, ho, _⟩ := mem_ready.1 hi
            have := (Array.getElem?_eq_some_iff.1 ho).1
            exact tail_waits hs hc (by omega) inv _ i0 rfl hi0 (getD_in (by rw [inv.size]; omega) hu0) i h hi
      obtain ⟨hun, oi, hoi, hall⟩ := mem_ready.1 hi
      have hun' : listed.getD i false = false := getD_both hun
      have hsz : i < listed.size := by rw [inv.size]; omega
      -- what it looks at is as it is in the text's order
      have hal : Alike (oi.looksAt ops) (putL ops (fun j => decide (j < i)) vs (List.range k) a0) (putL ops (fun j => listed.getD j false) vs (List.range k) a0) := by
        refine alike_putL _ _ _ ⟨rfl, fun _ _ => rfl⟩ fun j hj hne x hx => ?_
        have hjk := List.mem_range.1 hj
        cases hoj : ops[j]? with
        | none => simp [dstAt, hoj] at hx
        | some oj =>
          simp only [dstAt, hoj, Option.bind_some] at hx
          by_cases hji : j < i
          · have hlj : listed.getD j false = false := by simpa [hji] using hne
            rcases (ok.pair i j oi oj hik hji hoi hoj).1 with hw | hap
            · obtain ⟨o', ho', e, he, hbi, hon⟩ := Region.waitsFor_spec hw
              rw [hoi] at ho'
              cases ho'
              have := hall e he hbi
              rw [hon, hlj] at this
              cases this
            · exact (Oper.apart_spec hap).1 x hx
          · have hlj : listed.getD j false = true := by simpa [hji] using hne
            have hij : i < j := by
              rcases Nat.lt_trichotomy i j with h | h | h
              · exact h
              · subst h; rw [hun'] at hlj; cases hlj
              · exact absurd h hji
            rcases (ok.pair j i oj oi hjk hij hoj hoi).1 with hw | hap
            · obtain ⟨o', ho', e, he, hbi, hon⟩ := Region.waitsFor_spec hw
              rw [hoj] at ho'
              cases ho'
              have := inv.closed j oj hoj hlj e he hbi
              rw [hon, hun'] at this
              cases this
            · exact (Oper.apart_spec hap).2.2 x hx
      rw [putL_upto (Nat.le_of_lt hik)] at hal
      have hd := hdo i oi hik hoi vs w hg fun e he hb => hv _ (by have := ok.before i oi hik hoi e he hb; omega) (hall e he hb)
      have next : ∀ v w', Grows w w' ∧ Vs i v w' → wpAny P .any ops Q (f + (ops.size - k)) (listed.setIfInBounds i true) ((putL ops (fun j => listed.getD j false) vs (List.range k) a0).put oi.dst v) w' := by
        rintro v w' ⟨hg', hV⟩
        have hdst : dstAt ops i = oi.dst := by simp [dstAt, hoi]
        have hadd := putL_add (ops := ops) (L := fun j => listed.getD j false) (vs := vs) (i := i) (v := v) hun' (List.range k) a0 List.nodup_range (List.mem_range.2 hik) (fun j hj hne x hx hx' => by
          have hjk := List.mem_range.1 hj
          cases hoj : ops[j]? with
          | none => simp [dstAt, hoj] at hx'
          | some oj =>
            rw [hdst] at hx
            simp only [dstAt, hoj, Option.bind_some] at hx'
            rcases Nat.lt_or_gt_of_ne hne with h | h
            · exact (ok.pair i j oi oj hik h hoi hoj).2 x hx hx'
            · exact (ok.pair j i oj oi hjk h hoj hoi).2 x hx' hx)
        rw [hdst] at hadd
        rw [← hadd]
        have hsame : (fun j => (listed.setIfInBounds i true).getD j false) = (fun j => listed.getD j false || j == i) := by
          funext j
          by_cases hji : i = j
          · subst hji
            have : (listed.setIfInBounds i true).getD i false = true := by simp [hsz]
            rw [this]; simp
          · rw [getD_set_ne false hji]
            have : (j == i) = false := by simpa using fun e => hji e.symm
            simp [this]
        rw [← hsame]
        refine wpAny_free ok l hl hll hmono hdo hend f _ _ w' ?_ (inv.set hi hik) (hg.trans hg') fun j hj hlj => ?_
        · have := left_set hsz hun' hik
          omega
        · by_cases hji : j = i
          · subst hji; simpa using hV
          · simp only [hji, if_false]
            rw [getD_set_ne false (fun e => hji e.symm)] at hlj
            exact hmono j hj _ _ _ (hv j hj hlj) hg'
      unfold wpOp
      simp only [hoi]
      unfold OpDoes at hd
      rw [alike_wanted hal] at hd
      by_cases hw : Region.wanted oi (yielded ops (putL ops (fun j => listed.getD j false) vs (List.range k) a0).tmps) = true
      · rw [if_pos hw] at hd
        rw [if_pos hw]
        exact .inl ((hd.congr (alike_exec (ok.sel i oi · · hoi) hal)).wp next)
      · rw [if_neg hw] at hd
        rw [if_neg hw]
        exact next _ _ hd
end

/-- A region whose order is open: each of its first k operations by itself, what is behind in the text's order. -/
theorem wp_region_free {id : Nat} {Q : Exit → Act → World → Prop} {a : Act} {w : World} {l : List Oper} (k n : Nat) (hm : P.follows .mixedOrders = true) (hB : freeB l.toArray k = true) (hn : a.tmps.size = n) (hd : (l.take k).all (fun o => match o.dst with | some d => decide (d < n) | none => true) = true)
    (h : wpFree P l.toArray w.drew a (fun a' w' => wpList P l.toArray Q (l.drop k) a' w') (l.take k) 0 (fun _ _ _ => True)) : (Code.region id l.toArray true).wp P Q a w := by
  have ok := freeOk hB
  have hle : k ≤ l.length := by simpa using ok.le
  have hlt : (l.take k).length = k := by simp; omega
  have hget : ∀ (j : Nat) (o : Oper), (l.take k)[j]? = some o → l.toArray[j]? = some o ∧ j < k := fun j o ho => by
    have hj := (List.getElem?_eq_some_iff.1 ho).1
    rw [hlt] at hj
    rw [List.getElem?_take_of_lt hj] at ho
    exact ⟨by simpa using ho, hj⟩
  obtain ⟨Vs, _, h2, h3⟩ := free_words (P := P) (l.take k) 0 _ (fun j o ho e he hb => by
    obtain ⟨ho', hj⟩ := hget j o ho
    have := ok.before j o hj ho' e he hb
    omega) h
  simp only [Nat.zero_add, hlt] at h2 h3
  have each : ∀ (i : Nat) (o : Oper), i < k → l.toArray[i]? = some o → (l.take k)[i]? = some o := fun i o hi ho => by
    rw [List.getElem?_take_of_lt hi]; simpa using ho
  have inv0 : HeadInv .any l.toArray k (Array.replicate l.toArray.size false) :=
    ⟨by simp, fun j oj _ hl => (by rw [getD_replicate_false] at hl; cases hl), fun t _ ht => getD_in (by simpa using ht) (getD_replicate_false _ _)⟩
  refine wp_region_any hm ?_
  have hleft : ∀ n, left (Array.replicate l.toArray.size false) n = n := by
    intro n
    induction n with
    | zero => rfl
    | succ n ih => unfold left; rw [ih, getD_replicate_false]; simp
  have H := wpAny_free (P := P) (Q := Q) (a0 := a) (w0 := w.drew) ok (l.drop k) (fun j => by simp [List.getElem?_drop]) (by simp)
    (fun i hi v w w' => by
      have ho : l.toArray[i]? = some (l[i]'(by omega)) := by simp [show i < l.length by omega]
      exact (h2 i _ (each i _ hi ho)).1 v w w')
    (fun i o hi ho vs w' hg hv => by
      have hin : ∀ j, j < i → ∀ d, dstAt l.toArray j = some d → d < a.tmps.size := fun j hj d hdj => by
        have hlj : j < l.length := by omega
        have hoj : (l.take k)[j]? = some (l[j]) := by rw [List.getElem?_take_of_lt (by omega)]; exact List.getElem?_eq_getElem hlj
        have h4 := List.all_eq_true.1 hd _ (List.mem_of_getElem? hoj)
        have h5 : l[j].dst = some d := by simpa [dstAt, hlj] using hdj
        rw [h5] at h4
        rw [hn]
        simpa using h4
      rw [opDoes_eq, rho_eq i hin]
      exact (h2 i o (each i o hi ho)).2 vs w' hg hv) h3 k _ (fun _ => undef) w.drew (hleft k) inv0 (Grows.refl _) (fun i _ hl => (by rw [getD_replicate_false] at hl; cases hl))
  rw [putL_off _ _ (fun j _ => getD_replicate_false _ _), show k + (l.toArray.size - k) = l.toArray.size by simp; omega] at H
  exact H
end
theorem Grows.cell {w w' : World} (h : Grows w w') {p : Addr} {v : Value} (hc : w.cell? p = some v) : w'.cell? p = some v := (Below.cell h (block_lt_of_cell hc)).trans hc
section
variable {P : Program} {ops : Array Oper} {w0 : World} {a0 : Act} {E : Act → World → Prop} {o : Oper} {rest : List Oper} {i : Nat} {Vs : Nat → Value → World → Prop}
/-- An operation that yields one value in whatever world, and leaves the world. -/
theorem free_pure {v : Value} (hg : o.guard = none)
    (h : ∀ (vs : Nat → Value) w, Grows w0 w → (∀ e ∈ o.after, Region.binds .any e = true → Vs e.on (vs e.on) w) → (execOp (rho ops vs a0 i) o).run P w = .ok (.value v) w)
    (hr : wpFree P ops w0 a0 E rest (i + 1) (fun j => if j = i then (fun u _ => u = v) else Vs j)) : wpFree P ops w0 a0 E (o :: rest) i Vs :=
  ⟨fun u _ => u = v, fun _ _ _ h _ => h, fun vs w hw hd => by
    unfold OpDoesR
    rw [if_pos (by simp [Region.wanted, hg])]
    unfold Does
    rw [h vs w hw hd]
    exact ⟨Grows.refl _, rfl⟩, hr⟩
theorem free_op (V : Value → World → Prop) (hg : o.guard = none) (hm : ∀ v w w', V v w → Grows w w' → V v w')
    (h : ∀ (vs : Nat → Value) w, Grows w0 w → (∀ e ∈ o.after, Region.binds .any e = true → Vs e.on (vs e.on) w) → Does P o (rho ops vs a0 i) w (fun v w' => Grows w w' ∧ V v w'))
    (hr : wpFree P ops w0 a0 E rest (i + 1) (fun j => if j = i then V else Vs j)) : wpFree P ops w0 a0 E (o :: rest) i Vs :=
  ⟨V, hm, fun vs w hw hd => by
    unfold OpDoesR
    rw [if_pos (by simp [Region.wanted, hg])]
    exact h vs w hw hd, hr⟩
/-- A guarded one that is wanted. -/
theorem free_guarded (V : Value → World → Prop) (hm : ∀ v w w', V v w → Grows w w' → V v w')
    (h : ∀ (vs : Nat → Value) w, Grows w0 w → (∀ e ∈ o.after, Region.binds .any e = true → Vs e.on (vs e.on) w) → Region.wanted o (yieldR ops (rho ops vs a0 i)) = true ∧ Does P o (rho ops vs a0 i) w (fun v w' => Grows w w' ∧ V v w'))
    (hr : wpFree P ops w0 a0 E rest (i + 1) (fun j => if j = i then V else Vs j)) : wpFree P ops w0 a0 E (o :: rest) i Vs :=
  ⟨V, hm, fun vs w hw hd => by
    obtain ⟨h1, h2⟩ := h vs w hw hd
    unfold OpDoesR
    rw [if_pos h1]
    exact h2, hr⟩
/-- A guarded one that is wanted and only reckons or reads. -/
theorem free_gpure {v : Value}
    (hw : ∀ (vs : Nat → Value) w, Grows w0 w → (∀ e ∈ o.after, Region.binds .any e = true → Vs e.on (vs e.on) w) → Region.wanted o (yieldR ops (rho ops vs a0 i)) = true)
    (h : ∀ (vs : Nat → Value) w, Grows w0 w → (∀ e ∈ o.after, Region.binds .any e = true → Vs e.on (vs e.on) w) → (execOp (rho ops vs a0 i) o).run P w = .ok (.value v) w)
    (hr : wpFree P ops w0 a0 E rest (i + 1) (fun j => if j = i then (fun u _ => u = v) else Vs j)) : wpFree P ops w0 a0 E (o :: rest) i Vs :=
  ⟨fun u _ => u = v, fun _ _ _ h _ => h, fun vs w hg hd => by
    unfold OpDoesR
    rw [if_pos (hw vs w hg hd)]
    unfold Does
    rw [h vs w hg hd]
    exact ⟨Grows.refl _, rfl⟩, hr⟩
/-- One that is passed over. -/
theorem free_passed
    (h : ∀ (vs : Nat → Value) w, Grows w0 w → (∀ e ∈ o.after, Region.binds .any e = true → Vs e.on (vs e.on) w) → Region.wanted o (yieldR ops (rho ops vs a0 i)) = false)
    (hr : wpFree P ops w0 a0 E rest (i + 1) (fun j => if j = i then (fun u _ => u = undef) else Vs j)) : wpFree P ops w0 a0 E (o :: rest) i Vs :=
  ⟨fun u _ => u = undef, fun _ _ _ h _ => h, fun vs w hw hd => by
    unfold OpDoesR
    rw [h vs w hw hd, if_neg (by simp)]
    exact ⟨Grows.refl _, rfl⟩, hr⟩
end
end Go.Proofs.YtjcommodiihcdaaDoor
/- An array of numbers is as it is itself, in the language's '=='. No function of the program. -/
namespace Go.Proofs.YtjcommodiihcdaaDoor
open Go.RowKit
/-- An array of numbers is as it is itself. -/
theorem eqItems_self {P : Program} (d : Nat) {e : TypeId} {k : IntKind} (he : P.underlying e = some (.int k)) (cs : Array Value) (w : World) : ∀ (is : List Nat), (∀ j ∈ is, ∃ z, cs[j]? = some (.int k z)) → (Op.eqItems (d + 1) e 1 cs cs is).run P w = .ok true w
  | [], _ => by simp [Op.eqItems]
  | j :: is, h => by
    obtain ⟨z, hz⟩ := h j (by simp)
    have hagg : (isAgg e).run P w = .ok false w := by
      unfold isAgg
      rw [Sem.run_bind, run_underlying he w]
      rfl
    have hp : (part e cs (j * 1)).run P w = .ok (.int k z) w := by
      simp [part, hagg, hz]
    have hq := run_equalIn_int (P := P) w d e k k z z he
    have ih := eqItems_self d he cs w is fun j' hj' => h j' (by simp [hj'])
    simp only [Op.eqItems, Sem.run_bind, hp, Result.andThen_ok, hq]
    simpa using ih
theorem run_eql_arr_self {P : Program} {t e : TypeId} {n : Nat} {k : IntKind} {i : TypeInfo} (ht : P.underlying t = some (.array n e)) (he : P.underlying e = some (.int k)) (hi : P.info? e = some i) (hc : P.cellsOf e = 1) (cs : Array Value)
    (h : ∀ j, j < n → ∃ z, cs[j]? = some (.int k z)) (w : World) : (binOp .eql t (.agg cs) (.agg cs)).run P w = .ok (.bool true) w := by
  rw [run_eql_struct, show (10000 : Nat) = 9999 + 1 from rfl, run_equalIn_array w 9999 cs cs ht hi, hc, eqItems_self 9998 he cs w _ fun j hj => h j (by simpa using hj)]
  rfl
end Go.Proofs.YtjcommodiihcdaaDoor
/- Numbers as bytes, the lowest first. Plain mathematics, and the model's shifts on words. No function of the program. -/
namespace Go.Proofs.YtjcommodiihcdaaDoor
open Go.RowKit
theorem bits_or_u (x y : BitVec 64) : bits .or .u64 (uI x) (uI y) = uI (x ||| y) := by
  unfold uI; rw [bits_or_u64_nat _ _ (by have := x.isLt; omega) (by have := y.isLt; omega), BitVec.toNat_or]
theorem uI_shl (x : BitVec 64) (n : Nat) : IntKind.u64.wrap (uI x * (2 : Int) ^ n) = uI (x <<< n) := by
  have h : IntKind.u64.wrap (uI x * (2 : Int) ^ n) = ((x.toNat * 2 ^ n : Nat) : Int) % 18446744073709551616 := by
    unfold uI
    rw [show ((x.toNat : Int) * (2 : Int) ^ n) = ((x.toNat * 2 ^ n : Nat) : Int) by simp]
    exact IntKind.wrap_u64 _
  rw [h]
  unfold uI
  rw [BitVec.toNat_shiftLeft, Nat.shiftLeft_eq]
  simp
theorem shl_min (x : BitVec 64) (k : Nat) : x <<< min k 64 = x <<< k := by
  rcases Nat.lt_or_ge k 64 with h | h
  · rw [Nat.min_eq_left (by omega)]
  · rw [Nat.min_eq_right h, BitVec.shiftLeft_eq_zero (by omega), BitVec.shiftLeft_eq_zero h]
namespace Num
/-- Byte number i of a number; its first w bytes; the number of a row of bytes. -/
def byteAt (n : BitVec 64) (i : Nat) : BitVec 8 := (n >>> (8 * i)).setWidth 8
def bytes (n : BitVec 64) (w : Nat) : List (BitVec 8) := (List.range w).map (byteAt n)
def num : List (BitVec 8) → BitVec 64
  | [] => 0#64
  | b :: l => b.setWidth 64 ||| (num l <<< 8)
/-- Its lowest w bytes. -/
def low (n : BitVec 64) (w : Nat) : BitVec 64 := if w < 8 then n &&& ((1#64 <<< (8 * w)) - 1#64) else n
@[simp] theorem bytes_length (n : BitVec 64) (w : Nat) : (bytes n w).length = w := by simp [bytes]
theorem bytes_zero (n : BitVec 64) : bytes n 0 = [] := rfl
theorem bytes_succ (n : BitVec 64) (w : Nat) : bytes n (w + 1) = bytes n w ++ [byteAt n w] := by simp [bytes, List.range_succ]
theorem num_snoc : ∀ (l : List (BitVec 8)) (b : BitVec 8), num (l ++ [b]) = num l ||| (b.setWidth 64 <<< (8 * l.length))
  | [], b => by simp [num]
  | a :: l, b => by
    rw [List.cons_append, num, num_snoc l b, num, BitVec.shiftLeft_or_distrib, ← BitVec.shiftLeft_add, BitVec.or_assoc]
    simp [Nat.mul_add, Nat.add_comm]
theorem num_take (l : List (BitVec 8)) (k : Nat) (b : BitVec 8) (h : l[k]? = some b) : num (l.take (k + 1)) = num (l.take k) ||| (b.setWidth 64 <<< (8 * k)) := by
  have hk := (List.getElem?_eq_some_iff.1 h).1
  have e : l.take (k + 1) = l.take k ++ [b] := by rw [List.take_add_one, h]; rfl
  have hl : (l.take k).length = k := by rw [List.length_take]; omega
  rw [e, num_snoc, hl]
theorem num_bit : ∀ (l : List (BitVec 8)) (j : Nat), j < 64 → (num l).getLsbD j = match l[j / 8]? with | some b => b.getLsbD (j % 8) | none => false
  | [], j, _ => by simp [num]
  | b :: l, j, hj => by
    rw [num, BitVec.getLsbD_or, BitVec.getLsbD_setWidth, BitVec.getLsbD_shiftLeft]
    by_cases h : j < 8
    · have e1 : j / 8 = 0 := by omega
      have e2 : j % 8 = j := by omega
      simp [h, hj, e1, e2]
    · obtain ⟨k, rfl⟩ : ∃ k, j = k + 8 := ⟨j - 8, by omega⟩
      have e1 : (k + 8) / 8 = k / 8 + 1 := by omega
      have e2 : (k + 8) % 8 = k % 8 := by omega
      have e3 : b.getLsbD (k + 8) = false := BitVec.getLsbD_of_ge _ _ (by omega)
      rw [e1, e2, e3, List.getElem?_cons_succ, Nat.add_sub_cancel, num_bit l k (by omega)]
      simp [hj]
theorem mask_bit (k j : Nat) (hk : k < 64) : ((1#64 <<< k) - 1#64).getLsbD j = decide (j < k) := by
  have hp : 2 ^ k < 2 ^ 64 := Nat.pow_lt_pow_right (by decide) hk
  have hp1 : 0 < 2 ^ k := Nat.two_pow_pos k
  have h : ((1#64 <<< k) - 1#64).toNat = 2 ^ k - 1 := by
    rw [BitVec.toNat_sub, BitVec.toNat_shiftLeft, BitVec.toNat_ofNat, Nat.shiftLeft_eq]
    have e : 1 % 2 ^ 64 * 2 ^ k % 2 ^ 64 = 2 ^ k := by rw [Nat.one_mod_eq_one.2 (by decide), Nat.one_mul, Nat.mod_eq_of_lt hp]
    rw [e]
    omega
  rw [BitVec.getLsbD, h, Nat.testBit_two_pow_sub_one]
theorem num_bytes (n : BitVec 64) (w : Nat) (hw : w ≤ 8) : num (bytes n w) = low n w := by
  apply BitVec.eq_of_getLsbD_eq
  intro j hj
  have hl : (low n w).getLsbD j = (n.getLsbD j && decide (j < 8 * w)) := by
    unfold low
    by_cases h8 : w < 8
    · rw [if_pos h8, BitVec.getLsbD_and, mask_bit _ _ (by omega)]
    · have : j < 8 * w := by omega
      rw [if_neg h8]
      simp [this]
  rw [num_bit _ _ hj, hl]
  by_cases h : j / 8 < w
  · have e : (bytes n w)[j / 8]? = some (byteAt n (j / 8)) := by simp [bytes, h]
    have h1 : j < 8 * w := by omega
    have h2 : j % 8 < 8 := by omega
    have h3 : 8 * (j / 8) + j % 8 = j := by omega
    simp [e, byteAt, h1, h2, h3]
  · have e : (bytes n w)[j / 8]? = none := by simp [bytes]; omega
    have h1 : ¬ j < 8 * w := by omega
    simp [e, h1]
end Num
end Go.Proofs.YtjcommodiihcdaaDoor
/- Whole rows loaded and stored inside a fence. No function of the program. -/
namespace Go.Proofs.YtjcommodiihcdaaDoor
open Go.RowKit
section
variable {F : Fence} {n : Nat} {P : Program}
theorem wpListIn_load_row {ops : Array Oper} {rest : List Oper} {o : Oper} {a : Act} {w : World} {Q : Exit → Act → World → Prop} (hgd : o.guard = none) (ty : TypeId) (x : Operand) (ho : o.op = .load ty x)
    (g : Nat) (hx : a.eval x = .pointer (some ⟨g, 0, none⟩)) (t : TypeId) (cs : Array Value) (fr : Nat × Nat) (d : TypeDesc) (hg : w.heap[g]? = some (.cells cs t fr))
    (hu : P.underlying ty = some d) (hd : (match d with | .struct _ | .array _ _ => true | _ => false) = true) (hi : (P.info? ty).map (·.size) = some cs.size)
    (h : wpListIn F n P ops Q rest (a.put o.dst (.agg cs)) w) : wpListIn F n P ops Q (o :: rest) a w :=
  wpListIn_plain hgd fun K hK => by
    refine ⟨fun f hf => ?_, ?_⟩
    · simp [Oper.about, ho] at hf
    · rw [Oper.semAt_eq F.round a.eval o (by intro c; rw [ho]; simp)]
      unfold execOp
      simp only [ho, hx, Instr.loadAt, Instr.sureAddr, Sem.run_bind, Sem.run_pure, Result.andThen_ok, run_loadVar_row w g t ty cs fr d hg hu hd hi]
      exact hK _ _ h
theorem wpListIn_store_row {ops : Array Oper} {rest : List Oper} {o : Oper} {a : Act} {w : World} {Q : Exit → Act → World → Prop} (hgd : o.guard = none) (ty : TypeId) (x y : Operand) (ho : o.op = .store ty x y)
    (g : Nat) (cells : Array Value) (hx : a.eval x = .pointer (some ⟨g, 0, none⟩)) (hy : a.eval y = .agg cells)
    (t : TypeId) (old : Array Value) (hg : w.heap[g]? = some (.cells old t (0, 0))) (hi : (P.info? ty).map (·.size) = some cells.size)
    (hold : old.size = cells.size) (h1 : cells.all (·.oneCell') = true)
    (h : wpListIn F n P ops Q rest (a.put o.dst undef) (w.setRow g cells)) : wpListIn F n P ops Q (o :: rest) a w :=
  wpListIn_plain hgd fun K hK => by
    refine ⟨fun f hf => ?_, ?_⟩
    · simp [Oper.about, ho] at hf
    · rw [Oper.semAt_eq F.round a.eval o (by intro c; rw [ho]; simp)]
      unfold execOp
      simp only [ho, hx, hy, Instr.storeAt, Instr.sureAddr, Sem.run_bind, Sem.run_pure, Result.andThen_ok, run_storeVar_row w g t ty old cells hg hi hold h1]
      exact hK _ _ h
end
/-- A row that is laid and written whole at once. -/
theorem setRow_new (w : World) (t : TypeId) (cs cs' : Array Value) : (w.alloc (.cells cs t)).setRow w.heap.size cs' = w.alloc (.cells cs' t) := by
  unfold World.setRow World.alloc
  congr 1
  apply Array.ext
  · simp
  · intro i h1 h2
    simp only [Array.size_modify] at h1
    simp only [Array.getElem_modify, Array.getElem_push]
    by_cases h : i < w.heap.size
    · have : ¬ w.heap.size = i := by omega
      simp [h, this]
    · simp only [Array.size_push] at h1
      have : w.heap.size = i := by omega
      simp [this]
end Go.Proofs.YtjcommodiihcdaaDoor
/- The rule for regions of open order (XFree), inside a wide fence: in a round of a range over a function, and in an iterator's body. No function of the program. -/
namespace Go.Proofs.YtjcommodiihcdaaDoor
open Go.RowKit
/-- A fence that keeps nothing out. -/
structure WideF (F : Fence) : Prop where
  fn : ∀ f, F.fn f
  depth : F.depth = none
  call : ∀ {n : Nat} {P : Program} {f : FuncId} {args : Array Value} {w : World} {R : Ending → World → Prop}, Calls P f args w R → CallsIn F n P f args w R
theorem WideF.wide : WideF Fence.wide := ⟨fun _ => trivial, rfl, fun h => callsIn_wide.2 h⟩
theorem WideF.round (l : Nat) : WideF (Fence.wide.inRound l) := ⟨fun _ => trivial, rfl, fun h => CallsIn.inRound l (callsIn_wide.2 h)⟩
def noDefer (l : List Oper) : Bool := l.all fun o => match o.op with | .defer _ => false | _ => true
theorem noDefer_at {l : List Oper} (h : noDefer l = true) : ∀ (i : Nat) o, l.toArray[i]? = some o → ∀ c, o.op ≠ .defer c := fun i o ho c e => by
  have h1 : l[i]? = some o := by simpa using ho
  have h2 := List.all_eq_true.1 h o (List.mem_of_getElem? h1)
  rw [e] at h2
  cases h2
section
variable {P : Program} {F : Fence} {nn : Nat}
theorem Does.wpIn {o : Oper} {a : Act} {w : World} {R : Value → World → Prop} {K : Act → World → Prop} {Q : Exit → Act → World → Prop} (hF : WideF F) (hnd : ∀ c, o.op ≠ .defer c) (h : Does P o a.eval w R) (hK : ∀ v w', R v w' → K (a.put o.dst v) w') : o.wpIn F nn P a w K Q := by
  refine ⟨fun f _ => hF.fn f, ?_⟩
  rw [Oper.semAt_eq F.round a.eval o hnd]
  unfold Does at h
  generalize (execOp a.eval o).run P w = r at h ⊢
  cases r with
  | ok x w' =>
    cases x <;> simp only at h <;> simp only [Oper.uponIn]
    case value v => exact hK _ _ h
    case skip => exact hK _ _ h
    case enter f args =>
      refine ⟨fun hs => (by rw [hF.depth] at hs; cases hs), (hF.call h).mono ?_⟩
      rintro e w'' ⟨v, rfl, hv⟩
      exact hK _ _ hv
  | halt x w' => exact h.elim
theorem wpAnyIn_of_seq {md : Region.Mode} {ops : Array Oper} {Q' : Exit → Act → World → Prop} (hF : WideF F) : ∀ (l : List Oper) (k : Nat) (listed : Array Bool) (a : Act) (w : World), (∀ j, l[j]? = ops[k + j]?) →
    Region.seqB md ops l.length k listed = true → wpListIn F nn P ops Q' l a w → wpAnyIn F nn P md ops Q' l.length listed a w
  | [], _, _, _, _, _, hB, h => ⟨by simpa [Region.seqB] using hB, h⟩
  | o :: l, k, listed, a, w, hl, hB, h => by
    have h0 : ops[k]? = some o := by simpa using (hl 0).symm
    simp only [List.length_cons, Region.seqB, Bool.and_eq_true, decide_eq_true_eq] at hB
    refine ⟨fun h1 => (by rw [hB.1] at h1; cases h1), fun i hi => ?_⟩
    rw [hB.1] at hi
    have hik : i = k := by simpa using hi
    subst hik
    have hw : wpOpIn F nn P ops Q' i (wpListIn F nn P ops Q' l) a w := by unfold wpOpIn; simp only [h0]; exact h
    exact wpOpIn_mono (fun a' w' h' => wpAnyIn_of_seq hF l (i + 1) _ a' w' (fun j => by have := hl (j + 1); simpa [Nat.add_assoc, Nat.add_comm 1 j] using this) hB.2 h') hw
section
variable {ops : Array Oper} {k : Nat} {w0 : World} {a0 : Act} {Vs : Nat → Value → World → Prop} {Q : Exit → Act → World → Prop}
theorem wpAnyIn_free (hF : WideF F) (hnd : ∀ (i : Nat) o, ops[i]? = some o → ∀ c, o.op ≠ .defer c) (ok : FreeOk ops k) (l : List Oper) (hl : ∀ j, l[j]? = ops[k + j]?) (hll : l.length = ops.size - k)
    (hmono : ∀ i, i < k → ∀ v w w', Vs i v w → Grows w w' → Vs i v w')
    (hdo : ∀ (i : Nat) (o : Oper), i < k → ops[i]? = some o → ∀ (vs : Nat → Value) w, Grows w0 w → (∀ e ∈ o.after, Region.binds .any e = true → Vs e.on (vs e.on) w) →
      OpDoes P ops o (putL ops (fun _ => true) vs (List.range i) a0) w (fun v w' => Grows w w' ∧ Vs i v w'))
    (hend : ∀ vs w, Grows w0 w → (∀ j, j < k → Vs j (vs j) w) → wpListIn F nn P ops Q l (putL ops (fun _ => true) vs (List.range k) a0) w) :
    ∀ (f : Nat) (listed : Array Bool) (vs : Nat → Value) (w : World), left listed k = f → HeadInv .any ops k listed → Grows w0 w → (∀ i, i < k → listed.getD i false = true → Vs i (vs i) w) →
      wpAnyIn F nn P .any ops Q (f + (ops.size - k)) listed (putL ops (fun j => listed.getD j false) vs (List.range k) a0) w
  | 0, listed, vs, w, hf, inv, hg, hv => by
    have hall := left_zero hf
    have hL : listed = ((List.range ops.size).map fun i => decide (i < k)).toArray := by
      apply Array.ext
      · simp [inv.size]
      · intro i h1 h2
        simp only [List.getElem_toArray, List.getElem_map, List.getElem_range]
        by_cases hik : i < k
        · have := hall i hik
          simp [h1] at this
          simp [hik, this]
        · have := inv.tail i (by omega) (by rw [inv.size] at h1; exact h1)
          simp [h1] at this
          simp [hik, this]
    rw [putL_same (L' := fun _ => true) (vs' := vs) _ _ fun j hj => ⟨hall j (List.mem_range.1 hj), fun _ => rfl⟩, Nat.zero_add, ← hll]
    have hs := ok.seq
    rw [← hL, ← hll] at hs
    exact wpAnyIn_of_seq hF l k listed _ w hl hs (hend vs w hg fun j hj => hv j hj (hall j hj))
  | f + 1, listed, vs, w, hf, inv, hg, hv => by
    rw [show f + 1 + (ops.size - k) = (f + (ops.size - k)) + 1 by omega]
    obtain ⟨i0, hi0, hu0, hb0⟩ := left_some (listed := listed) (k := k) (by omega)
    have hle := ok.le
    refine ⟨fun h0 => ?_, fun i hi => ?_⟩
    · exfalso
      have hr : i0 ∈ Region.ready .any ops listed := by
        rw [mem_ready]
        have ho : ops[i0]? = some (ops[i0]'(by omega)) := Array.getElem?_eq_getElem (by omega)
        refine ⟨getD_in (by rw [inv.size]; omega) hu0, _, ho, fun e he hb => hb0 _ (ok.before i0 _ hi0 ho e he hb)⟩
      rw [h0] at hr
      cases hr
    · have hik : i < k := by
        rcases Nat.lt_or_ge i k with h | h
        · exact h
        · exfalso
          rcases ok.tail with ht | ⟨hs, hc⟩
          · obtain ⟨_, o, ho, _⟩ := mem_ready.1 hi
            have := (Array.getElem?_eq_some_iff.1 ho).1
            omega
          · obtain ⟨_, o, ho, _⟩ := mem_ready.1 hi
            have := (Array.getElem?_eq_some_iff.1 ho).1
            exact tail_waits hs hc (by omega) inv _ i0 rfl hi0 (getD_in (by rw [inv.size]; omega) hu0) i h hi
      obtain ⟨hun, oi, hoi, hall⟩ := mem_ready.1 hi
      have hun' : listed.getD i false = false := getD_both hun
      have hsz : i < listed.size := by rw [inv.size]; omega
      -- what it looks at is as it is in the text's order
      have hal : Alike (oi.looksAt ops) (putL ops (fun j => decide (j < i)) vs (List.range k) a0) (putL ops (fun j => listed.getD j false) vs (List.range k) a0) := by
        refine alike_putL _ _ _ ⟨rfl, fun _ _ => rfl⟩ fun j hj hne x hx => ?_
        have hjk := List.mem_range.1 hj
        cases hoj : ops[j]? with
        | none => simp [dstAt, hoj] at hx
        | some oj =>
          simp only [dstAt, hoj, Option.bind_some] at hx
          by_cases hji : j < i
          · have hlj : listed.getD j false = false := by simpa [hji] using hne
            rcases (ok.pair i j oi oj hik hji hoi hoj).1 with hw | hap
            · obtain ⟨o', ho', e, he, hbi, hon⟩ := Region.waitsFor_spec hw
              rw [hoi] at ho'
              cases ho'
              have := hall e he hbi
              rw [hon, hlj] at this
              cases this
            · exact (Oper.apart_spec hap).1 x hx
          · have hlj : listed.getD j false = true := by simpa [hji] using hne
            have hij : i < j := by
              rcases Nat.lt_trichotomy i j with h | h | h
              · exact h
              · subst h; rw [hun'] at hlj; cases hlj
              · exact absurd h hji
            rcases (ok.pair j i oj oi hjk hij hoj hoi).1 with hw | hap
            · obtain ⟨o', ho', e, he, hbi, hon⟩ := Region.waitsFor_spec hw
              rw [hoj] at ho'
              cases ho'
              have := inv.closed j oj hoj hlj e he hbi
              rw [hon, hun'] at this
              cases this
            · exact (Oper.apart_spec hap).2.2 x hx
      rw [putL_upto (Nat.le_of_lt hik)] at hal
      have hd := hdo i oi hik hoi vs w hg fun e he hb => hv _ (by have := ok.before i oi hik hoi e he hb; omega) (hall e he hb)
      have next : ∀ v w', Grows w w' ∧ Vs i v w' → wpAnyIn F nn P .any ops Q (f + (ops.size - k)) (listed.setIfInBounds i true) ((putL ops (fun j => listed.getD j false) vs (List.range k) a0).put oi.dst v) w' := by
        rintro v w' ⟨hg', hV⟩
        have hdst : dstAt ops i = oi.dst := by simp [dstAt, hoi]
        have hadd := putL_add (ops := ops) (L := fun j => listed.getD j false) (vs := vs) (i := i) (v := v) hun' (List.range k) a0 List.nodup_range (List.mem_range.2 hik) (fun j hj hne x hx hx' => by
          have hjk := List.mem_range.1 hj
          cases hoj : ops[j]? with
          | none => simp [dstAt, hoj] at hx'
          | some oj =>
            rw [hdst] at hx
            simp only [dstAt, hoj, Option.bind_some] at hx'
            rcases Nat.lt_or_gt_of_ne hne with h | h
            · exact (ok.pair i j oi oj hik h hoi hoj).2 x hx hx'
            · exact (ok.pair j i oj oi hjk h hoj hoi).2 x hx' hx)
        rw [hdst] at hadd
        rw [← hadd]
        have hsame : (fun j => (listed.setIfInBounds i true).getD j false) = (fun j => listed.getD j false || j == i) := by
          funext j
          by_cases hji : i = j
          · subst hji
            have : (listed.setIfInBounds i true).getD i false = true := by simp [hsz]
            rw [this]; simp
          · rw [getD_set_ne false hji]
            have : (j == i) = false := by simpa using fun e => hji e.symm
            simp [this]
        rw [← hsame]
        refine wpAnyIn_free hF hnd ok l hl hll hmono hdo hend f _ _ w' ?_ (inv.set hi hik) (hg.trans hg') fun j hj hlj => ?_
        · have := left_set hsz hun' hik
          omega
        · by_cases hji : j = i
          · subst hji; simpa using hV
          · simp only [hji, if_false]
            rw [getD_set_ne false (fun e => hji e.symm)] at hlj
            exact hmono j hj _ _ _ (hv j hj hlj) hg'
      unfold wpOpIn
      simp only [hoi]
      unfold OpDoes at hd
      rw [alike_wanted hal] at hd
      by_cases hw : Region.wanted oi (yielded ops (putL ops (fun j => listed.getD j false) vs (List.range k) a0).tmps) = true
      · rw [if_pos hw] at hd
        rw [if_pos hw]
        exact (hd.congr (alike_exec (ok.sel i oi · · hoi) hal)).wpIn hF (hnd i oi hoi) next
      · rw [if_neg hw] at hd
        rw [if_neg hw]
        exact ⟨fun f _ => hF.fn f, next _ _ hd⟩
end

/-- A region whose order is open: each of its first k operations by itself, what is behind in the text's order. -/
theorem wpIn_region_free {id : Nat} {Q : Exit → Act → World → Prop} {a : Act} {w : World} {l : List Oper} (hF : WideF F) (k n : Nat) (hm : P.follows .mixedOrders = true) (hnd : noDefer l = true) (hB : freeB l.toArray k = true) (hn : a.tmps.size = n) (hd : (l.take k).all (fun o => match o.dst with | some d => decide (d < n) | none => true) = true)
    (h : wpFree P l.toArray w.drew a (fun a' w' => wpListIn F nn P l.toArray Q (l.drop k) a' w') (l.take k) 0 (fun _ _ _ => True)) : (Code.region id l.toArray true).wpIn F nn P Q a w := by
  have ok := freeOk hB
  have hle : k ≤ l.length := by simpa using ok.le
  have hlt : (l.take k).length = k := by simp; omega
  have hget : ∀ (j : Nat) (o : Oper), (l.take k)[j]? = some o → l.toArray[j]? = some o ∧ j < k := fun j o ho => by
    have hj := (List.getElem?_eq_some_iff.1 ho).1
    rw [hlt] at hj
    rw [List.getElem?_take_of_lt hj] at ho
    exact ⟨by simpa using ho, hj⟩
  obtain ⟨Vs, _, h2, h3⟩ := free_words (P := P) (l.take k) 0 _ (fun j o ho e he hb => by
    obtain ⟨ho', hj⟩ := hget j o ho
    have := ok.before j o hj ho' e he hb
    omega) h
  simp only [Nat.zero_add, hlt] at h2 h3
  have each : ∀ (i : Nat) (o : Oper), i < k → l.toArray[i]? = some o → (l.take k)[i]? = some o := fun i o hi ho => by
    rw [List.getElem?_take_of_lt hi]; simpa using ho
  have inv0 : HeadInv .any l.toArray k (Array.replicate l.toArray.size false) :=
    ⟨by simp, fun j oj _ hl => (by rw [getD_replicate_false] at hl; cases hl), fun t _ ht => getD_in (by simpa using ht) (getD_replicate_false _ _)⟩
  refine wpIn_region_any hm ?_
  have hleft : ∀ n, left (Array.replicate l.toArray.size false) n = n := by
    intro n
    induction n with
    | zero => rfl
    | succ n ih => unfold left; rw [ih, getD_replicate_false]; simp
  have H := wpAnyIn_free (P := P) (F := F) (nn := nn) (Q := Q) (a0 := a) (w0 := w.drew) hF (noDefer_at hnd) ok (l.drop k) (fun j => by simp [List.getElem?_drop]) (by simp)
    (fun i hi v w w' => by
      have ho : l.toArray[i]? = some (l[i]'(by omega)) := by simp [show i < l.length by omega]
      exact (h2 i _ (each i _ hi ho)).1 v w w')
    (fun i o hi ho vs w' hg hv => by
      have hin : ∀ j, j < i → ∀ d, dstAt l.toArray j = some d → d < a.tmps.size := fun j hj d hdj => by
        have hlj : j < l.length := by omega
        have hoj : (l.take k)[j]? = some (l[j]) := by rw [List.getElem?_take_of_lt (by omega)]; exact List.getElem?_eq_getElem hlj
        have h4 := List.all_eq_true.1 hd _ (List.mem_of_getElem? hoj)
        have h5 : l[j].dst = some d := by simpa [dstAt, hlj] using hdj
        rw [h5] at h4
        rw [hn]
        simpa using h4
      rw [opDoes_eq, rho_eq i hin]
      exact (h2 i o (each i o hi ho)).2 vs w' hg hv) h3 k _ (fun _ => undef) w.drew (hleft k) inv0 (Grows.refl _) (fun i _ hl => (by rw [getD_replicate_false] at hl; cases hl))
  rw [putL_off _ _ (fun j _ => getD_replicate_false _ _), show k + (l.toArray.size - k) = l.toArray.size by simp; omega] at H
  exact H
end
end Go.Proofs.YtjcommodiihcdaaDoor
/- From a call that returns true and leaves what lay before as it lay, to the law's 'post'. No function of the program. -/
namespace Go.Proofs.YtjcommodiihcdaaDoor
open Go.ChangeShapes Go.WideShapes Go.ChangeAt Go.RowKit
section
variable {H : Type} {enc : TypeId × Value → H} {P : Program}
theorem trodAll_stays (hl : laidOutB P = true) {W W' : World} {sp : Nat → Bool} : ∀ {ts : List TypeId} {vs : List Value} {ds : List (DataW H)} {ps : List MemPlace}, ts.all (fun t => P.readableRec t && decide (t < P.types.size)) = true →
    DataW.TrodAll enc P W 0 (fun _ => true) true ts vs ds ps → (∀ x ∈ ps, W.sameAt W' x) → (∀ x ∈ ps, sp x.block = true) → DataW.TrodAll enc P W' 0 sp true ts vs ds ps
  | [], [], [], _, _, h, _, _ => h
  | t :: ts, v :: vs, d :: ds, ps, ht, h, hs, hsp => by
    obtain ⟨p, q, h1, h2, rfl⟩ := h
    simp only [List.all_cons, Bool.and_eq_true, decide_eq_true_eq] at ht
    exact ⟨p, q, WideElems.Trod_stays hl ht.1.1 ht.1.2 h1 (fun x hx => hs x (by simp [hx])) (fun x hx => hsp x (by simp [hx])),
      trodAll_stays hl ht.2 h2 (fun x hx => hs x (by simp [hx])) (fun x hx => hsp x (by simp [hx])), rfl⟩
  | [], _ :: _, _, _, _, h, _, _ => h.elim
  | [], [], _ :: _, _, _, h, _, _ => h.elim
  | _ :: _, [], _, _, _, h, _, _ => h.elim
  | _ :: _, _ :: _, [], _, _, h, _, _ => h.elim

/-- The law returns true: each argument reads behind the call as it read before. -/
theorem law_post {f : Func} {s : ChangeSpec} {apart fresh handsOn again : Bool} {W W' : World} {args : Array Value} {ds gs : List (DataW H)} {before : List MemPlace} {tb : TypeId} (hl : laidOutB P = true)
    (hts : f.params.toList.all (fun t => P.readableRec t && decide (t < P.types.size)) = true) (hr : f.resultTypes = #[tb]) (htb : P.underlying tb = some .bool) (hv0 : s.vars = [])
    (hW : DataW.Whole enc P f.params.toList s.vars apart W args.toList ds gs before) (hs : s.fn H (ds ++ gs) = { results := [.lit (.bool true)], args := ds })
    (hb : Below W.heap.size W W') : s.post enc P f apart fresh handsOn again W args (.bool true) W' := by
  have hlt : ∀ p ∈ before, p.block < W.heap.size := fun p hp => hW.lt p hp
  have hW' := hW
  obtain ⟨p, q, hA, hV, rfl, hz, hn⟩ := hW
  rw [hv0] at hV
  obtain ⟨rfl, rfl⟩ := trodVars_none hV
  simp only [List.append_nil] at hlt hz hn hs
  have hsame : ∀ x ∈ p, W.sameAt W' x := fun x hx => hb.same (hlt x hx)
  have hres : ∀ (b : Nat) (sp : Nat → Bool) (hd : Bool), DataW.TrodAll enc P W' b sp hd f.resultTypes.toList ((Value.bool true).resultList f.resultTypes.size) (s.fn H ds).results [] := by
    intro b sp hd
    rw [hr, hs]
    exact trodAll_cons_mk (shut_bool htb _) trodAll_mk0
  have hargs : ∀ sp : Nat → Bool, (∀ x ∈ p, sp x.block = true) → DataW.TrodAll enc P W' 0 sp true f.params.toList args.toList (s.fn H ds).args p := by
    intro sp hsp
    rw [hs]
    exact trodAll_stays hl hts hA hsame hsp
  have hold : ∀ x ∈ p, (fun b => decide (b < W.heap.size)) x.block = true := fun x hx => by simpa using hlt x hx
  have hvars : ∀ sp : Nat → Bool, DataW.TrodVars enc P W' sp s.vars (s.fn H ds).vars [] := by
    intro sp
    rw [hv0, hs]
    rfl
  refine ⟨ds, [], p ++ [], [], p, [], hW', by simpa using hres _ _ _, by simpa using hargs _ hold, by simpa using hvars _, World.keptBut_mono (fun x hx => ⟨by simpa using hx, ?_⟩) (hb.frame (· ∈ p)), fun _ => ?_⟩
  · exact Or.inr (Or.inl hx)
  · refine ⟨ok_one hr rfl (okWide_bool_mk htb _), _, _, ([] ++ p) ++ [], ⟨[] ++ p, [], trodAll_append (hargs _ (fun _ _ => rfl)) (hres _ _ _), hvars _, rfl, ?_, ?_⟩, ?_⟩
    · intro b off hp
      have hin : MemPlace.cell b off ∈ p := by simpa using hp
      rw [hb.frozen (hlt _ hin)]
      exact hz b off hin
    · intro ha
      have := hn ha
      simpa using this
    · intro x hx _
      simpa using hx
end
end Go.Proofs.YtjcommodiihcdaaDoor
/- Slices whose elements take several cells each: read, opened, copied by append. No function of the program. -/
namespace Go.Proofs.YtjcommodiihcdaaDoor
open Go.ChangeShapes Go.WideShapes Go.ChangeAt Go.RowKit Go.Deep
/-- The slice v holds the elements l; each stands in s cells, as f tells. -/
def Els {α : Type} (s : Nat) (f : α → List Value) (B : Nat) (W : World) (v : Value) (l : List α) : Prop :=
  (∀ x ∈ l, (f x).length = s) ∧ ∃ A cap, v = .slice A l.length cap ∧ l.length ≤ cap ∧ cap ≤ maxLen ∧
    (0 < l.length → ∃ b o, A = some ⟨b, o, none⟩ ∧ b < B ∧ W.rangeAt b o (l.flatMap f))
section
variable {α : Type} {s : Nat} {f : α → List Value}
theorem flat_length {l : List α} (h : ∀ x ∈ l, (f x).length = s) : (l.flatMap f).length = l.length * s := by
  induction l with
  | nil => simp
  | cons a l ih =>
    rw [List.flatMap_cons, List.length_append, h a (by simp), ih fun x hx => h x (by simp [hx]), List.length_cons, Nat.add_mul, Nat.one_mul, Nat.add_comm]
theorem flat_get {l : List α} (h : ∀ x ∈ l, (f x).length = s) : ∀ (j : Nat) (x : α), l[j]? = some x → ∀ i, i < s → (l.flatMap f)[j * s + i]? = (f x)[i]? := by
  induction l with
  | nil => intro j x hx; simp at hx
  | cons a l ih =>
    intro j x hx i hi
    have ha : (f a).length = s := h a (by simp)
    rw [List.flatMap_cons]
    cases j with
    | zero =>
      simp only [List.getElem?_cons_zero, Option.some.injEq] at hx
      subst hx
      rw [Nat.zero_mul, Nat.zero_add, List.getElem?_append_left (by omega)]
    | succ j =>
      simp only [List.getElem?_cons_succ] at hx
      have e : (j + 1) * s + i = (f a).length + (j * s + i) := by rw [ha, Nat.add_mul]; omega
      rw [e, List.getElem?_append_right (by omega), Nat.add_sub_cancel_left]
      exact ih (fun x hx => h x (by simp [hx])) j x hx i hi
theorem range_flat {W : World} {b o : Nat} {l : List α} (h : ∀ x ∈ l, (f x).length = s) (hr : W.rangeAt b o (l.flatMap f)) {j : Nat} {x : α} (hj : l[j]? = some x) : W.rangeAt b (o + j * s) (f x) := by
  intro i u hu
  have hx : (f x).length = s := h x (List.mem_of_getElem? hj)
  have hi : i < s := by have := (List.getElem?_eq_some_iff.1 hu).1; omega
  rw [Nat.add_assoc]
  exact hr _ _ ((flat_get h j x hj i hi).trans hu)
theorem rangeAt_keep {W W' : World} {b o : Nat} {cs : List Value} (h : W.rangeAt b o cs) (hk : ∀ p : Addr, p.block = b → W'.cell? p = W.cell? p) : W'.rangeAt b o cs := fun j v hv => (hk _ rfl).trans (h j v hv)
theorem Els.keep {B : Nat} {W W' : World} {v : Value} {l : List α} (h : Els s f B W v l) (hk : ∀ p : Addr, p.block < B → W'.cell? p = W.cell? p) : Els s f B W' v l := by
  obtain ⟨h0, A, cap, hv, h1, h2, h3⟩ := h
  refine ⟨h0, A, cap, hv, h1, h2, fun hp => ?_⟩
  obtain ⟨b, o, ha, hb, hr⟩ := h3 hp
  exact ⟨b, o, ha, hb, rangeAt_keep hr fun p hp => hk p (by omega)⟩
theorem Els.below {B : Nat} {W W' : World} {v : Value} {l : List α} (h : Els s f B W v l) (hb : Below B W W') : Els s f B W' v l := h.keep fun _ hp => hb.cell hp
theorem Els.more {B B' : Nat} {W : World} {v : Value} {l : List α} (h : Els s f B W v l) (hB : B ≤ B') : Els s f B' W v l := by
  obtain ⟨h0, A, cap, hv, h1, h2, h3⟩ := h
  refine ⟨h0, A, cap, hv, h1, h2, fun hp => ?_⟩
  obtain ⟨b, o, ha, hb, hr⟩ := h3 hp
  exact ⟨b, o, ha, by omega, hr⟩
theorem Els.grows {W W' : World} {v : Value} {l : List α} (h : Els s f W.heap.size W v l) (hg : Grows W W') : Els s f W'.heap.size W' v l := (h.below hg).more (Below.size hg)
theorem Els.nil (B : Nat) (W : World) : Els s f B W (.slice none 0 0) [] := ⟨fun _ h => by simp at h, none, 0, rfl, Nat.le_refl _, Nat.zero_le _, fun h => absurd h (by simp)⟩
theorem Els.form {B : Nat} {W : World} {v : Value} {l : List α} (h : Els s f B W v l) : ∃ A cap, v = .slice A l.length cap ∧ l.length ≤ cap ∧ cap ≤ maxLen ∧ (0 < l.length → ∃ b o, A = some ⟨b, o, none⟩ ∧ b < B ∧ ∀ j x, l[j]? = some x → W.rangeAt b (o + j * s) (f x)) := by
  obtain ⟨h0, A, cap, hv, h1, h2, h3⟩ := h
  refine ⟨A, cap, hv, h1, h2, fun hp => ?_⟩
  obtain ⟨b, o, ha, hb, hr⟩ := h3 hp
  exact ⟨b, o, ha, hb, fun j x hx => range_flat h0 hr hx⟩
/-- A slice that is read when a law begins. -/
theorem els_of_trod [Inhabited α] {H : Type} {enc : TypeId × Value → H} {P : Program} {W : World} {t e : TypeId} {fuel : Nat} {v : Value} {x : DataW H × List MemPlace} (ht : P.underlying t = some (.slice e)) (hc : P.cellsOf e = s) (hs : 0 < s)
    (each : ∀ (n : Nat) (cs : List Value) (y : DataW H × List MemPlace), cs.length = s → DataW.trod enc P W 0 (fun _ => true) true n e cs = some y → ∃ a : α, f a = cs)
    (h : DataW.trod enc P W 0 (fun _ => true) true fuel t [v] = some x) : ∃ l : List α, Els s f W.heap.size W v l := by
  rcases open_slice ht h with ⟨hcs, _⟩ | ⟨a, len, cap, m, n, D, Pl, hcs, _, hl, hm, hmm, _, hx⟩
  · simp only [List.cons.injEq, and_true] at hcs
    subst hcs
    exact ⟨[], Els.nil _ _⟩
  · simp only [List.cons.injEq, and_true] at hcs
    subst hcs
    simp only [if_true] at hmm
    rw [hc] at hx
    have all : ∀ i, i < len → ∃ z : α, (f z).length = s ∧ ∀ j, j < s → W.cell? ((a.add (i * s)).add j) = (f z)[j]? := fun i hi => by
      obtain ⟨cs', h1, h2⟩ := hx i (by omega)
      obtain ⟨_, h3, h4⟩ := World.cells?_some h1
      obtain ⟨z, rfl⟩ := each _ _ _ h3 h2
      exact ⟨z, h3, h4⟩
    obtain ⟨Z, hZ⟩ := choose_lt all
    have hmem : ∀ x ∈ (List.range len).map Z, (f x).length = s := by
      intro x hx
      obtain ⟨i, hi, rfl⟩ := List.mem_map.1 hx
      exact (hZ i (by simpa using hi)).1
    refine ⟨(List.range len).map Z, hmem, some a, cap, by simp, by simpa using hl, hm, fun hp => ?_⟩
    simp only [List.length_map, List.length_range] at hp
    have h0 := (hZ 0 hp).2 0 hs
    rw [Nat.zero_mul, show (a.add 0).add 0 = a by simp [Addr.add]] at h0
    have hl0 : 0 < (f (Z 0)).length := by rw [(hZ 0 hp).1]; exact hs
    rw [List.getElem?_eq_getElem hl0] at h0
    have ha := spot_none h0
    refine ⟨a.block, a.off, by rw [← ha], block_lt_of_cell h0, fun k u hu => ?_⟩
    have hk : k < len * s := by
      have := (List.getElem?_eq_some_iff.1 hu).1
      rw [flat_length hmem] at this
      simpa using this
    have hki : k / s < len := Nat.div_lt_of_lt_mul (by rw [Nat.mul_comm]; exact hk)
    have hkj : k % s < s := Nat.mod_lt _ hs
    have e : k = k / s * s + k % s := by rw [Nat.mul_comm]; exact (Nat.div_add_mod k s).symm
    have hg := flat_get (f := f) hmem (k / s) (Z (k / s)) (by rw [List.getElem?_map, List.getElem?_range hki]; rfl) (k % s) hkj
    rw [← e, hu] at hg
    have h3 := (hZ (k / s) hki).2 (k % s) hkj
    rw [← hg, ha, add_lit, add_lit, Nat.add_assoc, ← e] at h3
    exact h3
/-- What append needs of an element type. -/
structure ElT (P : Program) (t e : TypeId) (s by' : Nat) : Prop where
  und : P.underlying t = some (.slice e)
  info : ∃ i z, P.info? e = some i ∧ i.zero = some z ∧ i.size = s ∧ i.bytes = by' ∧ z.cells.size = s
  pos : 0 < s
theorem elT_mk {P : Program} {t e : TypeId} {s by' : Nat} (hu : P.underlying t = some (.slice e)) (h : (P.info? e).map (fun i => (i.zero.map (·.cells.size), i.size, i.bytes)) = some (some s, s, by')) (hs : 0 < s) : ElT P t e s by' := by
  refine ⟨hu, ?_, hs⟩
  obtain ⟨i, hi, hzz⟩ := Option.map_eq_some_iff.1 h
  simp only [Prod.mk.injEq] at hzz
  obtain ⟨h1, h2, h3⟩ := hzz
  obtain ⟨z, hz, hzs⟩ := Option.map_eq_some_iff.1 h1
  exact ⟨i, z, hi, hz, h2, h3, hzs⟩
/-- v holds these elements, in a block of the call's own (from base on), or is nil. -/
def Own' (e : TypeId) (s : Nat) (f : α → List Value) (base : Nat) (w : World) (v : Value) (l : List α) : Prop := (∀ x ∈ l, (f x).length = s) ∧ w.ownsRow base e s v l.length (l.flatMap f)
theorem Own'.els {e : TypeId} {base : Nat} {w : World} {v : Value} {l : List α} (h : Own' e s f base w v l) : Els s f w.heap.size w v l := by
  obtain ⟨h0, hl, h⟩ := h
  rcases h with ⟨rfl, h'⟩ | ⟨g, cap, cur, rfl, _, hh, h1, h2, h3, h4⟩
  · obtain rfl : l = [] := List.length_eq_zero_iff.1 h'
    exact Els.nil _ _
  · refine ⟨h0, _, cap, rfl, h1, h2, fun _ => ⟨g, 0, rfl, (Array.getElem?_eq_some_iff.1 hh).1, fun j u hu => ?_⟩⟩
    rw [Nat.zero_add, cell_of_row w g j cur e (0, 0) hh]
    have hj := (List.getElem?_eq_some_iff.1 hu).1
    rw [← h4, List.getElem?_take_of_lt (by omega)] at hu
    simpa using hu
theorem Own'.grows {e : TypeId} {base : Nat} {w w' : World} {v : Value} {l : List α} (h : Own' e s f base w v l) (hg : Grows w w') : Own' e s f base w' v l := ⟨h.1, own_grows h.2 hg⟩
theorem Own'.more {e : TypeId} {base b : Nat} {w : World} {v : Value} {l : List α} (h : Own' e s f base w v l) (hb : b ≤ base) : Own' e s f b w v l :=
  ⟨h.1, h.2.1, h.2.2.imp id fun ⟨g, cap, cur, h1, h2, h3⟩ => ⟨g, cap, cur, h1, Nat.le_trans hb h2, h3⟩⟩
/-- append onto a row of one's own, whatever elements. -/
theorem run_append_els {P : Program} {t e : TypeId} {by' : Nat} (T : ElT P t e s by') (h1c : ∀ x : α, ∀ u ∈ f x, u.oneCell' = true) {base B : Nat} {w : World} {v x : Value} {l m : List α} (ty : TypeId) (hv : Own' e s f base w v l) (hx : Els s f B w x m)
    (hlen : l.length + m.length ≤ maxLen) (hby : (l.length + m.length) * by' ≤ 140737488355328) (hb : base ≤ w.heap.size) :
    ∃ v' w', (Builtin.append_ #[t, t] ty #[v, x]).run P w = .ok v' w' ∧ Own' e s f base w' v' (l ++ m) ∧ w.grownBy w' v.ownBlock ∧ (v'.ownBlock = v.ownBlock ∨ v'.ownBlock = some w.heap.size) := by
  obtain ⟨i0, z, hi, hz0, hz1, hz2, hz3⟩ := T.info
  obtain ⟨hx0, A, cap, rfl, h1, h2, h3⟩ := hx
  have hall : ∀ y ∈ l ++ m, (f y).length = s := fun y hy => (List.mem_append.1 hy).elim (hv.1 y) (hx0 y)
  cases A with
  | none =>
    have hm : m = [] := by
      by_cases hp : 0 < m.length
      · obtain ⟨_, _, h, _⟩ := h3 hp; cases h
      · exact List.length_eq_zero_iff.1 (by omega)
    subst hm
    have hr : (Builtin.append_ #[t, t] ty #[v, .slice none 0 cap]).run P w = .ok v w := by
      have hv' := hv.2
      rcases hv'.2 with ⟨rfl, h0⟩ | ⟨g, cp, cur, rfl, _, _, hnc, _⟩
      · simp [Builtin.append_, run_underlying T.und, sizeOf, typeInfo, hi, Builtin.lenOf, Builtin.firstCells]
      · simp [Builtin.append_, run_underlying T.und, sizeOf, typeInfo, hi, Builtin.lenOf, Builtin.firstCells, hnc, storeCells]
    exact ⟨v, w, hr, by simpa using hv, World.grownBy.refl _ _, .inl rfl⟩
  | some a =>
    have hc : ∀ j u, (m.flatMap f)[j]? = some u → w.cell? (a.add j) = some u := fun j u hu => by
      have hp : 0 < m.length := by
        cases m with
        | nil => simp at hu
        | cons _ _ => simp
      obtain ⟨b, o, ha, _, hcell⟩ := h3 hp
      cases ha
      rw [add_lit]
      exact hcell j u hu
    obtain ⟨v', w', hr, ho, hg, _, hat⟩ := run_append_own_at (P := P) w base t ty e i0 z s by' T.und hi hz0 hz1 hz2 hz3 T.pos v l.length (l.flatMap f) hv.2 a m.length cap (m.flatMap f) (flat_length hx0) hc
      (fun u hu => by obtain ⟨y, _, hy⟩ := List.mem_flatMap.1 hu; exact h1c y u hy) hlen hby hb
    exact ⟨v', w', hr, ⟨hall, by rw [List.length_append, List.flatMap_append]; exact ho⟩, hg, hat⟩
/-- append onto a literal of no elements: nothing that lay before is turned. -/
theorem run_append_els_empty {P : Program} {t e : TypeId} {by' : Nat} (T : ElT P t e s by') (h1c : ∀ x : α, ∀ u ∈ f x, u.oneCell' = true) {B : Nat} {w : World} {g : Nat} {x : Value} {m : List α} (ty : TypeId) (hr : Row w g e #[]) (hx : Els s f B w x m)
    (hlen : m.length ≤ maxLen) (hby : m.length * by' ≤ 140737488355328) (hby2 : (m.length + m.length / 4 + 192) * by' ≤ 281474976710656) :
    ∃ v' w', (Builtin.append_ #[t, t] ty #[.slice (some ⟨g, 0, none⟩) 0 0, x]).run P w = .ok v' w' ∧ Grows w w' ∧ Own' e s f g w' v' m := by
  obtain ⟨i0, z, hi, hz0, hz1, hz2, hz3⟩ := T.info
  have hv : Own' e s f g w (.slice (some ⟨g, 0, none⟩) 0 0) ([] : List α) := ⟨fun _ h => by simp at h, by simp, .inr ⟨g, 0, #[], rfl, Nat.le_refl _, hr, Nat.le_refl _, Nat.zero_le _, by simp, by simp⟩⟩
  by_cases hm : m.length = 0
  · obtain rfl : m = [] := List.length_eq_zero_iff.1 hm
    obtain ⟨_, A, cap, rfl, h1, h2, h3⟩ := hx
    cases A with
    | none =>
      refine ⟨.slice (some ⟨g, 0, none⟩) 0 0, w, ?_, Grows.refl _, hv⟩
      simp [Builtin.append_, run_underlying T.und, sizeOf, typeInfo, hi, Builtin.lenOf, Builtin.firstCells, storeCells]
    | some a =>
      have hrun := run_append_room (P := P) w t ty e i0 T.und hi g 0 0 #[] hr a 0 cap [] (by simp) (fun j u hu => by simp at hu) (by simp) (by omega) (by simp)
      have he : ((#[] : Array Value).toList.take (0 * i0.size) ++ [] ++ (#[] : Array Value).toList.drop (0 * i0.size + ([] : List Value).length)).toArray = (#[] : Array Value) := by simp
      rw [he] at hrun
      have hrow := Row.setRow hr #[]
      refine ⟨_, _, hrun, ⟨rfl, rfl, rfl, by simp [World.setRow], fun k hk => ?_⟩, ⟨fun _ h => by simp at h, by simp, .inr ⟨g, 0, #[], rfl, Nat.le_refl _, hrow, Nat.le_refl _, Nat.zero_le _, by simp, by simp⟩⟩⟩
      by_cases hkg : k = g
      · subst hkg
        exact (Row.setRow hr _).trans hr.symm
      · exact setRow_other w g k _ hkg
  · have hx' := hx
    obtain ⟨hx0, A, cap, rfl, h1, h2, h3⟩ := hx
    obtain ⟨b, o, rfl, _, hcell⟩ := h3 (by omega)
    have hrun := run_append_grow (P := P) w t ty e i0 z T.und hi hz0 ⟨g, 0, none⟩ 0 0 [] (by simp) (fun j u hu => by simp at hu) ⟨b, o, none⟩ m.length cap (m.flatMap f) (by rw [hz1]; exact flat_length hx0) (fun j u hu => by rw [add_lit]; exact hcell j u hu) (by omega) (by unfold maxLen at hlen; omega)
      (growslice_fits_wide (by omega) (by rw [hz2, Nat.zero_add]; exact hby2))
    obtain ⟨v', w', hr', h2', h3', h4'⟩ := run_append_els T h1c ty hv hx' (by simpa using hlen) (by simpa using hby) (Nat.le_of_lt hr.lt)
    rw [hrun] at hr'
    injection hr' with e1 e2
    subst e1 e2
    exact ⟨_, _, hrun, (Grows.drew w).trans (Grows.alloc _ _), h2'⟩
theorem does_append_els_empty {P : Program} {t e : TypeId} {by' : Nat} (T : ElT P t e s by') (h1c : ∀ x : α, ∀ u ∈ f x, u.oneCell' = true) {B : Nat} {w : World} {o : Oper} {ρ : Operand → Value} {g : Nat} {m : List α} (y x : Operand)
    (ho : o.op = .call { callee := .builtin .append, args := #[y, x], argTypes := #[t, t] })
    (hs : ρ y = .slice (some ⟨g, 0, none⟩) 0 0) (hr : Row w g e #[]) (hx : Els s f B w (ρ x) m)
    (hlen : m.length ≤ maxLen) (hby : m.length * by' ≤ 140737488355328) (hby2 : (m.length + m.length / 4 + 192) * by' ≤ 281474976710656) :
    Does P o ρ w fun v' w' => Grows w w' ∧ Own' e s f g w' v' m := by
  obtain ⟨v', w', hrun, h2, h3⟩ := run_append_els_empty T h1c o.type hr hx hlen hby hby2
  unfold Does execOp
  simp only [ho, resolve, invoke, builtin, Sem.run_bind, Sem.run_pure, Result.andThen_ok, List.map_toArray, List.map_cons, List.map_nil, hs, hrun]
  exact ⟨h2, h3⟩
theorem wpList_append_els {P : Program} {t e : TypeId} {by' : Nat} (T : ElT P t e s by') (h1c : ∀ x : α, ∀ u ∈ f x, u.oneCell' = true) {w : World} {ops : Array Oper} {rest : List Oper} {o : Oper} {a : Act} {Q : Exit → Act → World → Prop} (hgd : o.guard = none) (y x : Operand)
    (ho : o.op = .call { callee := .builtin .append, args := #[y, x], argTypes := #[t, t] }) (base B : Nat) (l m : List α)
    (hv : Own' e s f base w (a.eval y) l) (hx : Els s f B w (a.eval x) m) (hlen : l.length + m.length ≤ maxLen) (hby : (l.length + m.length) * by' ≤ 140737488355328) (hb : base ≤ w.heap.size)
    (h : ∀ v' w', Own' e s f base w' v' (l ++ m) → w.grownBy w' (a.eval y).ownBlock → (v'.ownBlock = (a.eval y).ownBlock ∨ v'.ownBlock = some w.heap.size) → wpList P ops Q rest (a.put o.dst v') w') :
    wpList P ops Q (o :: rest) a w := by
  refine wpList_plain hgd fun K hK => ?_
  obtain ⟨v', w', hr, h2, h3, h4⟩ := run_append_els T h1c o.type hv hx hlen hby hb
  unfold Oper.wp execOp
  simp only [ho, resolve, invoke, builtin, Sem.run_bind, Sem.run_pure, Result.andThen_ok, List.map_toArray, List.map_cons, List.map_nil, hr]
  exact hK _ _ (h v' w' h2 h3 h4)
end
/-- Rows of numbers under the language's '=='. -/
theorem eqItems_ints {P : Program} (d : Nat) {e : TypeId} {k : IntKind} (he : P.underlying e = some (.int k)) (cs ds : Array Value) (w : World) : ∀ (is : List Nat) (F G : Nat → Int), (∀ j ∈ is, cs[j]? = some (.int k (F j)) ∧ ds[j]? = some (.int k (G j))) →
    (Op.eqItems (d + 1) e 1 cs ds is).run P w = .ok (is.all fun j => F j == G j) w
  | [], _, _, _ => by simp [Op.eqItems]
  | j :: is, F, G, h => by
    obtain ⟨h1, h2⟩ := h j (by simp)
    have hagg : (isAgg e).run P w = .ok false w := by
      unfold isAgg
      rw [Sem.run_bind, run_underlying he w]
      rfl
    have hp1 : (part e cs (j * 1)).run P w = .ok (.int k (F j)) w := by simp [part, hagg, h1]
    have hp2 : (part e ds (j * 1)).run P w = .ok (.int k (G j)) w := by simp [part, hagg, h2]
    have hq := run_equalIn_int (P := P) w d e k k (F j) (G j) he
    have ih := eqItems_ints d he cs ds w is F G fun j' hj' => h j' (by simp [hj'])
    simp only [Op.eqItems, Sem.run_bind, hp1, hp2, Result.andThen_ok, hq]
    by_cases hh : F j = G j
    · simpa [hh] using ih
    · simp [hh]
end Go.Proofs.YtjcommodiihcdaaDoor
/- What the texts share: blocks that are kept, rows of one's own of whatever elements, beside others; appends. No function of the program. -/
namespace Go.Proofs.YtjcommodiihcdaaDoor
open Go.RowKit Go.Deep
set_option linter.unusedVariables false
set_option linter.unusedSimpArgs false
def intE (n : Int) : List Value := [.int .i64 n]
theorem intE_one : ∀ x : Int, ∀ u ∈ intE x, u.oneCell' = true := fun x u hu => by
  rw [List.mem_singleton.1 hu]; rfl
/-- Block b lies as it lay. -/
def KeptAt (b : Nat) (W W' : World) : Prop := W'.heap[b]? = W.heap[b]?
theorem KeptAt.t {b : Nat} {A B C : World} (h : KeptAt b A B) (k : KeptAt b B C) : KeptAt b A C := Eq.trans k h
theorem KeptAt.b {b B : Nat} (hb : b < B) (W : World) (l : Nat) (o o' : Obj) (hl : B ≤ l) (_ : W.heap[l]? = some o) (_ : o.isCells = false) (_ : o.isWalk = false) : KeptAt b W (W.putObj l o') :=
  World.putObj_heap_other (by omega)
theorem KeptAt.rows {b : Nat} {t : TypeId} {cs : Array Value} {W W' : World} (h : Row W b t cs) (h' : Row W' b t cs) : KeptAt b W W' := Eq.trans h' (Eq.symm h)
theorem row_stays (g : Nat) (t : TypeId) (cs : Array Value) {β : Type} : Own (fun (_ : β) W => Row W g t cs) := fun s X Y row hs hg hr =>
  hs.grown hg fun e => by obtain ⟨o, ho, hc⟩ := hr _ e.symm; rw [show X.heap[g]? = _ from hs] at ho; cases ho; cases hc
theorem row_varies {β : Type} (g : Nat) (t : TypeId) (cs : β → Array Value) : Own (fun (s : β) W => Row W g t (cs s)) := fun s X Y row hs hg hr =>
  hs.grown hg fun e => by obtain ⟨o, ho, hc⟩ := hr _ e.symm; rw [show X.heap[g]? = _ from hs] at ho; cases ho; cases hc
theorem boxed_stays (b : Nat) (t : TypeId) (u : Value) {β : Type} : Own (fun (_ : β) W => Boxed W b t u) := fun s X Y row hs hg hrow =>
  hs.kept hg (fun e' => by obtain ⟨o, ho, hc⟩ := hrow b e'.symm; rw [show X.heap[b]? = _ from hs] at ho; cases ho; cases hc)
theorem Row.kept_put {w : World} {g l : Nat} {t : TypeId} {cs : Array Value} (h : Row w g t cs) {ds : Option (List Deferred)} (hl : w.heap[l]? = some (.deferred ds)) (o : Obj) : Row (w.putObj l o) g t cs :=
  (World.putObj_heap_other (fun e => by subst e; rw [show w.heap[g]? = _ from h] at hl; cases hl)).trans h
theorem Row.ne_mark {w : World} {g l : Nat} {t : TypeId} {cs : Array Value} (h : Row w g t cs) {ds : Option (List Deferred)} (hl : w.heap[l]? = some (.deferred ds)) : l ≠ g := fun e => by subst e; rw [show w.heap[l]? = _ from h] at hl; cases hl
theorem mark_set {w : World} {l : Nat} {ds : Option (List Deferred)} (hl : w.heap[l]? = some (.deferred ds)) {p : Addr} (hp : l ≠ p.block) (u : Value) : (w.setCell p u).heap[l]? = some (.deferred ds) := (Below.heap_setCell w p u l hp).trans hl
theorem others_of_grows {w w' : World} (h : Grows w w') : KeepsOthers w w' := KeepsOthers.of_grownBy h.grownBy (fun j o e => by cases e)
theorem Grows.put_mark {w w' : World} (h : Grows w w') {D : Nat} {ds : Option (List Deferred)} {o : Obj} (hk : w'.heap[D]? = some (.deferred ds)) (hD : w.heap.size ≤ D) : Below w.heap.size w' (w'.putObj D o) :=
  belowK_b (w := w) (Nat.le_refl _) w' D _ _ hD hk rfl rfl
theorem setRow_grown (w : World) (g : Nat) (cs : Array Value) : w.grownBy (w.setRow g cs) (some g) :=
  ⟨rfl, rfl, rfl, by simp [World.setRow], fun k _ hk => setRow_other w g k cs (fun e => hk (by rw [e]))⟩
theorem setCell_grown (W : World) (b i : Nat) (v : Value) : W.grownBy (W.setCell ⟨b, i, none⟩ v) (some b) :=
  ⟨rfl, rfl, rfl, by rw [World.size_setCell]; exact Nat.le_refl _, fun k _ hk => Below.heap_setCell _ _ _ k (fun e => hk (by rw [e]))⟩
theorem grown_fresh {W W1 W' : World} {o : Obj} (h1 : W1 = W.alloc o) (hg : W1.grownBy W' (some W.heap.size)) : Grows W W' := by
  subst h1
  exact (Grows.alloc W o).grown hg (by simp) (fun k e => by cases e; exact Nat.le_refl _)
theorem dk_load {P : Program} {ρ : Operand → Value} {o : Oper} {w : World} {R : Value → World → Prop} (ty : TypeId) (x : Operand) (a : Addr) (v : Value) (ho : o.op = .load ty x) (hx : ρ x = .pointer (some a)) (hl : (loadVar ty a).run P w = .ok v w) (hR : R v w) : Does P o ρ w R := by
  unfold Does execOp
  simp only [ho, hx, Instr.loadAt, Instr.sureAddr, Sem.run_bind, Sem.run_pure, Result.andThen_ok, hl]
  exact hR
theorem wpList_does {P : Program} {w : World} {ops : Array Oper} {rest : List Oper} {o : Oper} {a : Act} {Q : Exit → Act → World → Prop} {R : Value → World → Prop} (hw : Region.wanted o (yielded ops a.tmps) = true) (h : Does P o a.eval w R) (hK : ∀ v w', R v w' → wpList P ops Q rest (a.put o.dst v) w') : wpList P ops Q (o :: rest) a w :=
  BigFrame.wpList_want hw fun K hK' => Does.wp h (fun v w' hR => hK' _ _ (hK v w' hR))
theorem dk_mono (v : Value) : ∀ u (w w' : World), u = v → Grows w w' → u = v := fun _ _ _ h _ => h
/-- A literal of no elements, just laid. -/
def NoneYet (base : Nat) (e : TypeId) (v : Value) (w : World) : Prop := ∃ g, v = .slice (some ⟨g, 0, none⟩) 0 0 ∧ base ≤ g ∧ Row w g e #[]
theorem NoneYet.mono (base : Nat) (e : TypeId) : ∀ v w w', NoneYet base e v w → Grows w w' → NoneYet base e v w' := fun v w w' ⟨g, e1, e2, e3⟩ hg => ⟨g, e1, e2, Row.grows e3 hg⟩
theorem own_mono {α : Type} {s : Nat} {f : α → List Value} (e : TypeId) (base : Nat) (l : List α) : ∀ v w w', Own' e s f base w v l → Grows w w' → Own' e s f base w' v l := fun v w w' h hg => h.grows hg
theorem own_low {α : Type} {e : TypeId} {s : Nat} {f : α → List Value} {base : Nat} {w : World} {v : Value} {l : List α} (h : Own' e s f base w v l) : ∀ k, v.ownBlock = some k → base ≤ k := fun k hk => (World.ownsRow.lt h.2 k hk).1

theorem own_lt {α : Type} {e : TypeId} {s : Nat} {f : α → List Value} {base : Nat} {w : World} {v : Value} {l : List α} (h : Own' e s f base w v l) : ∀ k, v.ownBlock = some k → base ≤ k ∧ k < w.heap.size := World.ownsRow.lt h.2
/-- Rows of one's own of two element types lie in two blocks. -/
theorem own_other {α β : Type} {e e2 : TypeId} {s s2 : Nat} {f : α → List Value} {f2 : β → List Value} {base base2 : Nat} {w w' : World} {v v2 : Value} {l : List α} {l2 : List β} (h : Own' e s f base w v l) (h2 : Own' e2 s2 f2 base2 w v2 l2) (hne : e ≠ e2) (hg : w.grownBy w' v2.ownBlock) : Own' e s f base w' v l := by
  refine ⟨h.1, h.2.kept hg ?_⟩
  rcases h.2.2 with ⟨rfl, _⟩ | ⟨g, cap, cur, rfl, _, hh, _⟩
  · exact .inl rfl
  · refine .inr fun hb => ?_
    rcases h2.2.2 with ⟨rfl, _⟩ | ⟨g', cap', cur', rfl, _, hh', _⟩
    · cases hb
    · simp only [Value.ownBlock, Option.some.injEq] at hb
      subst hb
      rw [hh] at hh'
      injection hh' with hh'
      injection hh' with _ ht
      exact hne ht
theorem row_other {α : Type} {e t : TypeId} {s : Nat} {f : α → List Value} {base g : Nat} {w w' : World} {v : Value} {l : List α} {cs : Array Value} (h : Own' e s f base w v l) (hr : Row w g t cs) (hne : e ≠ t) (hg : w.grownBy w' v.ownBlock) : Row w' g t cs := by
  refine hr.grown hg fun hb => ?_
  rcases h.2.2 with ⟨rfl, _⟩ | ⟨g', cap', cur, rfl, _, hh, _⟩
  · cases hb
  · exact own_ne_row h.2 hr hne (by simpa [Value.ownBlock] using hb.symm)
/-- A row of one's own stays where a block of another type is written. -/
theorem Own'.aside {α : Type} {e t : TypeId} {s : Nat} {f : α → List Value} {base g : Nat} {w w' : World} {v : Value} {l : List α} {cs : Array Value} (h : Own' e s f base w v l) (hg : w.grownBy w' (some g)) (hr : Row w g t cs) (hne : e ≠ t) : Own' e s f base w' v l := by
  refine ⟨h.1, h.2.kept hg (.inr fun hb => ?_)⟩
  rcases h.2.2 with ⟨rfl, _⟩ | ⟨g', cap', cur, rfl, _, hh, _⟩
  · cases hb
  · exact own_ne_row h.2 hr hne (by simpa [Value.ownBlock] using hb)
theorem own_stays {α β : Type} (e : TypeId) (s : Nat) (f : α → List Value) (base : Nat) (v : Value) (l : β → List α) : Own (fun (b : β) W => Own' e s f base W v (l b)) := fun b X Y row hs hg hr => by
  refine ⟨hs.1, hs.2.kept hg ?_⟩
  rcases hs.2.2 with ⟨rfl, _⟩ | ⟨g, cap, cur, rfl, _, hh, _⟩
  · exact .inl rfl
  · refine .inr fun hb => ?_
    obtain ⟨o, ho, hc⟩ := hr g hb.symm
    rw [hh] at ho
    cases ho
    cases hc
theorem own_mark_ne {α : Type} {e : TypeId} {s : Nat} {f : α → List Value} {base : Nat} {w : World} {v : Value} {l : List α} (h : Own' e s f base w v l) {D : Nat} {ds : Option (List Deferred)} (hk : w.heap[D]? = some (.deferred ds)) : some D ≠ v.ownBlock := fun e => by
  rcases h.2.2 with ⟨rfl, _⟩ | ⟨g, cap, cur, rfl, _, hh, _⟩
  · cases e
  · simp only [Value.ownBlock, Option.some.injEq] at e
    subst e
    rw [hh] at hk
    cases hk
theorem own_kept {α : Type} {e : TypeId} {s : Nat} {f : α → List Value} {base : Nat} {w w' : World} {g : Nat} {n c : Nat} {l : List α} (h : Own' e s f base w (.slice (some ⟨g, 0, none⟩) n c) l) {row : Option Nat} (hg : w.grownBy w' row) (hne : some g ≠ row) : Own' e s f base w' (.slice (some ⟨g, 0, none⟩) n c) l :=
  ⟨h.1, h.2.kept hg (.inr hne)⟩
theorem own_put {α : Type} {e : TypeId} {s : Nat} {f : α → List Value} {base : Nat} {w : World} {v : Value} {l : List α} (h : Own' e s f base w v l) {D : Nat} {ds : Option (List Deferred)} (hk : w.heap[D]? = some (.deferred ds)) (o : Obj) : Own' e s f base (w.putObj D o) v l :=
  own_stays e s f base v (fun _ : Unit => l) () w _ (some D) h (grownBy_putObj' _ _ _) (fun r er => by cases er; exact ⟨_, hk, rfl⟩)
theorem grown_room {w : World} {n : Nat} {e : TypeId} (h : n ≤ 1000000) : grownCap w n 0 e ≤ maxLen := by
  have := grownCap_le_maxLen w n 0 e (by unfold maxLen; omega)
  exact this
theorem does_append_els_new {α : Type} {s : Nat} {f : α → List Value} {P : Program} {t e : TypeId} {by' : Nat} (T : ElT P t e s by') (h1c : ∀ x : α, ∀ u ∈ f x, u.oneCell' = true) {base B : Nat} {w : World} {o : Oper} {ρ : Operand → Value} {m : List α} (y x : Operand)
    (ho : o.op = .call { callee := .builtin .append, args := #[y, x], argTypes := #[t, t] }) (hs : NoneYet base e (ρ y) w) (hx : Els s f B w (ρ x) m) (hlen : m.length ≤ 1000000) (hby : by' ≤ 1000) :
    Does P o ρ w fun v' w' => Grows w w' ∧ Own' e s f base w' v' m := by
  obtain ⟨g, e1, e2, e3⟩ := hs
  have m1 : m.length * by' ≤ 1000000 * 1000 := Nat.mul_le_mul hlen hby
  have m2 : (m.length + m.length / 4 + 192) * by' ≤ 2000000 * 1000 := Nat.mul_le_mul (by omega) hby
  obtain ⟨v', w', hrun, h2, h3⟩ := run_append_els_empty T h1c o.type e3 hx (by unfold maxLen; omega) (by omega) (by omega)
  unfold Does execOp
  simp only [ho, resolve, invoke, builtin, Sem.run_bind, Sem.run_pure, Result.andThen_ok, List.map_toArray, List.map_cons, List.map_nil, e1, hrun]
  exact ⟨h2, h3.more e2⟩
theorem ints_one (W : World) (x : Int) : Els 1 intE (W.heap.size + 1) (W.alloc (.cells #[.int .i64 x] 3)) (.slice (some ⟨W.heap.size, 0, none⟩) 1 1) [x] := by
  refine ⟨fun y hy => rfl, _, 1, rfl, Nat.le_refl _, by decide, fun _ => ⟨W.heap.size, 0, rfl, Nat.lt_succ_self _, fun j u hu => ?_⟩⟩
  rw [Nat.zero_add, (Row.new W 3 #[.int .i64 x]).cell]
  simpa [intE] using hu
theorem own_block_cells {α : Type} {e : TypeId} {s : Nat} {f : α → List Value} {base : Nat} {w : World} {v : Value} {l : List α} (h : Own' e s f base w v l) {j : Nat} {ob : Obj} (hj : v.ownBlock = some j) (ho : w.heap[j]? = some ob) : ob.isCells = true := by
  rcases h.2.2 with ⟨rfl, _⟩ | ⟨g, cap, cur, rfl, _, hh, _⟩
  · cases hj
  · simp only [Value.ownBlock, Option.some.injEq] at hj
    subst hj
    rw [hh] at ho
    cases ho
    rfl
def NewRow (b : Nat) (t : TypeId) (cs : Array Value) (v : Value) (w : World) : Prop := ∃ g, v = .pointer (some ⟨g, 0, none⟩) ∧ b ≤ g ∧ Row w g t cs
theorem NewRow.mono (b : Nat) (t : TypeId) (cs : Array Value) : ∀ v w w', NewRow b t cs v w → Grows w w' → NewRow b t cs v w' := fun v w w' ⟨g, e, l, h⟩ hg => ⟨g, e, l, Row.grows h hg⟩
end Go.Proofs.YtjcommodiihcdaaDoor
