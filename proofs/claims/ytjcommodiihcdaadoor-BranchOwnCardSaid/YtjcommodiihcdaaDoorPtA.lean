/- PtrM Ptr PtOps PtSmall -/
import Derived.Test.YtjcommodiihcdaaDoorBaseC
import Derived.Test.YtjcommodiihcdaaDoorCrcA
import Derived.Test.YtjcommodiihcdaaDoorBaseA
import Derived.Test.YtjcommodiihcdaaDoorRows
import Derived.Test.YtjcommodiihcdaaDoorPage
import Derived.Laws.StructEq
import Derived.Lib.SmallJoins
import Derived.Lib.Hide
/- What layer 5 reckons: pointers, plain mathematics. No function of the program. -/
namespace Go.Proofs.YtjcommodiihcdaaDoor
open Go.RowKit
/-- Words of 16 and 32 bits as the model's numbers. -/
def hI (x : BitVec 16) : Int := (x.toNat : Int)
def wI (x : BitVec 32) : Int := (x.toNat : Int)
theorem hI_nonneg (x : BitVec 16) : 0 ≤ hI x := Int.natCast_nonneg _
theorem hI_lt (x : BitVec 16) : hI x < 65536 := by have := x.isLt; unfold hI; omega
theorem wI_nonneg (x : BitVec 32) : 0 ≤ wI x := Int.natCast_nonneg _
theorem wI_lt (x : BitVec 32) : wI x < 4294967296 := by have := x.isLt; unfold wI; omega
theorem hI_ofNat (n : Nat) (h : n < 65536) : hI (BitVec.ofNat 16 n) = n := by unfold hI; rw [BitVec.toNat_ofNat, Nat.mod_eq_of_lt (by omega)]
theorem wI_ofNat (n : Nat) (h : n < 4294967296) : wI (BitVec.ofNat 32 n) = n := by unfold wI; rw [BitVec.toNat_ofNat, Nat.mod_eq_of_lt (by omega)]
theorem hI_of (n : Int) (h : 0 ≤ n) (h2 : n ≤ 65535) : ∃ x, n = hI x := ⟨BitVec.ofNat 16 n.toNat, by rw [hI_ofNat _ (by omega)]; omega⟩
theorem wI_of (n : Int) (h : 0 ≤ n) (h2 : n ≤ 4294967295) : ∃ x, n = wI x := ⟨BitVec.ofNat 32 n.toNat, by rw [wI_ofNat _ (by omega)]; omega⟩
theorem hI_inj {x y : BitVec 16} (h : hI x = hI y) : x = y := BitVec.eq_of_toNat_eq (by unfold hI at h; omega)
theorem wI_inj {x y : BitVec 32} (h : wI x = wI y) : x = y := BitVec.eq_of_toNat_eq (by unfold wI at h; omega)
theorem hI_beq (x y : BitVec 16) : (hI x == hI y) = (x == y) := by
  rw [Bool.eq_iff_iff]; simp only [beq_iff_eq]; exact ⟨hI_inj, fun h => by rw [h]⟩
theorem wI_beq (x y : BitVec 32) : (wI x == wI y) = (x == y) := by
  rw [Bool.eq_iff_iff]; simp only [beq_iff_eq]; exact ⟨wI_inj, fun h => by rw [h]⟩
theorem wrap_i64_hI (x : BitVec 16) : IntKind.i64.wrap (hI x) = hI x := IntWalk.i64_in _ (by have := hI_nonneg x; have := hI_lt x; omega)
theorem hI_uI (x : BitVec 16) : hI x = uI (x.setWidth 64) := by
  unfold hI uI; rw [BitVec.toNat_setWidth_of_le (by decide)]
theorem wI_uI (x : BitVec 32) : wI x = uI (x.setWidth 64) := by
  unfold wI uI; rw [BitVec.toNat_setWidth_of_le (by decide)]
theorem wrap_u64_hI (x : BitVec 16) : IntKind.u64.wrap (hI x) = uI (x.setWidth 64) := by
  rw [IntWalk.u64_in _ (by have := hI_nonneg x; have := hI_lt x; omega), hI_uI]
theorem wrap_u64_wI (x : BitVec 32) : IntKind.u64.wrap (wI x) = uI (x.setWidth 64) := by
  rw [IntWalk.u64_in _ (by have := wI_nonneg x; have := wI_lt x; omega), wI_uI]
theorem wrap_u16' (n : Int) : IntKind.u16.wrap n = n % 65536 := by
  simp [IntKind.wrap, IntKind.signed, IntKind.bits]
theorem wrap_u32' (n : Int) : IntKind.u32.wrap n = n % 4294967296 := by
  simp [IntKind.wrap, IntKind.signed, IntKind.bits]
theorem wrap_u16_uI (x : BitVec 64) : IntKind.u16.wrap (uI x) = hI (x.setWidth 16) := by
  rw [wrap_u16']; unfold uI hI; rw [BitVec.toNat_setWidth]; omega
theorem wrap_u32_uI (x : BitVec 64) : IntKind.u32.wrap (uI x) = wI (x.setWidth 32) := by
  rw [wrap_u32']; unfold uI wI; rw [BitVec.toNat_setWidth]; omega
/-- The lowest 16 bits of a number. -/
theorem wrap_u16_int (n : Int) : IntKind.u16.wrap n = hI (BitVec.ofInt 16 n) := by
  rw [wrap_u16']; unfold hI; rw [BitVec.toNat_ofInt]; omega
structure Pt where
  kind : BitVec 8
  a : BitVec 16
  b : BitVec 16
  birth : BitVec 32
  sum : BitVec 64
theorem Pt.eq_iff (x y : Pt) : (x.kind = y.kind ∧ x.a = y.a ∧ x.b = y.b ∧ x.birth = y.birth ∧ x.sum = y.sum) ↔ x = y := by
  cases x; cases y; simp
instance : DecidableEq Pt := fun x y => decidable_of_iff _ (Pt.eq_iff x y)
namespace PtM
def none : Pt := ⟨0, 0, 0, 0, 0⟩
def node (x : Pt) : Bool := x.kind == 1#8 || x.kind == 2#8
def place (n : BitVec 16) (size : Int) : Bool := decide (4 ≤ hI n) && decide (hI n < size)
def born (x : Pt) : Bool := decide (1 ≤ wI x.birth) && decide (wI x.birth ≤ 1073741824)
def second (x : Pt) : Bool := if x.kind = 3#8 then x.b == 0#16 else node x && (x.a != x.b)
/-- Its addresses. -/
def wheres (x : Pt) : List (BitVec 16) := if node x = true then [x.a, x.b] else if x.kind = 3#8 then [x.a] else []
def right (x : Pt) (size : Int) : Bool := (born x && second x) && (wheres x).all fun n => place n size
def fits (x : Pt) (p : List (BitVec 8)) : Bool := x.kind != 0#8 && x.sum == CrcM.sum p
def of (k : BitVec 8) (a b : Int) (birth : BitVec 32) (p : List (BitVec 8)) : Pt := ⟨k, BitVec.ofInt 16 a, if k = 3#8 then 0#16 else BitVec.ofInt 16 b, birth, CrcM.sum p⟩
def widths : List Nat := [1, 2, 2, 4, 8]
def numbers (x : Pt) : List (BitVec 64) := [x.kind.setWidth 64, x.a.setWidth 64, x.b.setWidth 64, x.birth.setWidth 64, x.sum]
def ofNumbers (n0 n1 n2 n3 n4 : BitVec 64) : Pt := ⟨n0.setWidth 8, n1.setWidth 16, n2.setWidth 16, n3.setWidth 32, n4⟩
/-- A pointer's bytes. -/
def bytes (x : Pt) : List (BitVec 8) := (((Num.bytes (x.kind.setWidth 64) 1 ++ Num.bytes (x.a.setWidth 64) 2) ++ Num.bytes (x.b.setWidth 64) 2) ++ Num.bytes (x.birth.setWidth 64) 4) ++ Num.bytes x.sum 8
theorem bytes_length (x : Pt) : (bytes x).length = 17 := by simp [bytes]
def put (b : List (BitVec 8)) (x : Pt) : List (BitVec 8) := b ++ bytes x
def taken (b : List (BitVec 8)) : Pt := ofNumbers (Num.num (b.take 1)) (Num.num ((b.drop 1).take 2)) (Num.num ((b.drop 3).take 2)) (Num.num ((b.drop 5).take 4)) (Num.num ((b.drop 9).take 8))
def takeP (b : List (BitVec 8)) : Pt := if b.length < 17 then none else taken b
def takeR (b : List (BitVec 8)) : List (BitVec 8) := if b.length < 17 then b else b.drop 17
def takeE (b : List (BitVec 8)) : Int := if b.length < 17 then 20 else 0
theorem low_of_width (x : BitVec 64) (n w : Nat) (h : x.toNat < 2 ^ n) (hn : n ≤ 8 * w) (hw : w ≤ 8) : Num.low x w = x := by
  unfold Num.low
  by_cases h8 : w < 8
  · rw [if_pos h8]
    apply BitVec.eq_of_getLsbD_eq
    intro j hj
    rw [BitVec.getLsbD_and, Num.mask_bit _ _ (by omega)]
    by_cases hjw : j < 8 * w
    · simp [hjw]
    · have : x.getLsbD j = false := by
        rw [BitVec.getLsbD]
        exact Nat.testBit_lt_two_pow (Nat.lt_of_lt_of_le h (Nat.pow_le_pow_right (by decide) (by omega)))
      simp [this]
  · rw [if_neg h8]
theorem back_u8 (x : BitVec 8) : (Num.num (Num.bytes (x.setWidth 64) 1)).setWidth 8 = x := by
  rw [Num.num_bytes _ _ (by decide), low_of_width _ 8 1 (by rw [BitVec.toNat_setWidth_of_le (by decide)]; exact x.isLt) (by decide) (by decide)]
  simp
theorem back_u16 (x : BitVec 16) : (Num.num (Num.bytes (x.setWidth 64) 2)).setWidth 16 = x := by
  rw [Num.num_bytes _ _ (by decide), low_of_width _ 16 2 (by rw [BitVec.toNat_setWidth_of_le (by decide)]; exact x.isLt) (by decide) (by decide)]
  simp
theorem back_u32 (x : BitVec 32) : (Num.num (Num.bytes (x.setWidth 64) 4)).setWidth 32 = x := by
  rw [Num.num_bytes _ _ (by decide), low_of_width _ 32 4 (by rw [BitVec.toNat_setWidth_of_le (by decide)]; exact x.isLt) (by decide) (by decide)]
  simp
theorem back_u64 (x : BitVec 64) : Num.num (Num.bytes x 8) = x := by
  rw [Num.num_bytes _ _ (by decide)]; rfl
/-- What is put is taken again. -/
theorem taken_bytes (x : Pt) (l : List (BitVec 8)) : taken (bytes x ++ l) = x := by
  have l0 : (Num.bytes (x.kind.setWidth 64) 1).length = 1 := by simp
  have l1 : (Num.bytes (x.a.setWidth 64) 2).length = 2 := by simp
  have l2 : (Num.bytes (x.b.setWidth 64) 2).length = 2 := by simp
  have l3 : (Num.bytes (x.birth.setWidth 64) 4).length = 4 := by simp
  have l4 : (Num.bytes x.sum 8).length = 8 := by simp
  have b0 := back_u8 x.kind
  have b1 := back_u16 x.a
  have b2 := back_u16 x.b
  have b3 := back_u32 x.birth
  have b4 := back_u64 x.sum
  unfold taken bytes
  generalize Num.bytes (x.kind.setWidth 64) 1 = B0 at *
  generalize Num.bytes (x.a.setWidth 64) 2 = B1 at *
  generalize Num.bytes (x.b.setWidth 64) 2 = B2 at *
  generalize Num.bytes (x.birth.setWidth 64) 4 = B3 at *
  generalize Num.bytes x.sum 8 = B4 at *
  have e0 : (B0 ++ B1 ++ B2 ++ B3 ++ B4 ++ l).take 1 = B0 := by
    simp only [List.append_assoc]; rw [List.take_append_of_le_length (by omega), List.take_of_length_le (by omega)]
  have e1 : ((B0 ++ B1 ++ B2 ++ B3 ++ B4 ++ l).drop 1).take 2 = B1 := by
    simp only [List.append_assoc]
    rw [List.drop_append, List.drop_of_length_le (by omega), l0, List.nil_append, Nat.sub_self, List.drop_zero, List.take_append_of_le_length (by omega), List.take_of_length_le (by omega)]
  have e2 : ((B0 ++ B1 ++ B2 ++ B3 ++ B4 ++ l).drop 3).take 2 = B2 := by
    rw [show B0 ++ B1 ++ B2 ++ B3 ++ B4 ++ l = (B0 ++ B1) ++ (B2 ++ (B3 ++ (B4 ++ l))) by simp only [List.append_assoc]]
    rw [List.drop_append, List.drop_of_length_le (by simp; omega), List.length_append, l0, l1, List.nil_append, Nat.sub_self, List.drop_zero, List.take_append_of_le_length (by omega), List.take_of_length_le (by omega)]
  have e3 : ((B0 ++ B1 ++ B2 ++ B3 ++ B4 ++ l).drop 5).take 4 = B3 := by
    rw [show B0 ++ B1 ++ B2 ++ B3 ++ B4 ++ l = (B0 ++ B1 ++ B2) ++ (B3 ++ (B4 ++ l)) by simp only [List.append_assoc]]
    rw [List.drop_append, List.drop_of_length_le (by simp; omega), List.length_append, List.length_append, l0, l1, l2, List.nil_append, Nat.sub_self, List.drop_zero, List.take_append_of_le_length (by omega), List.take_of_length_le (by omega)]
  have e4 : ((B0 ++ B1 ++ B2 ++ B3 ++ B4 ++ l).drop 9).take 8 = B4 := by
    rw [show B0 ++ B1 ++ B2 ++ B3 ++ B4 ++ l = (B0 ++ B1 ++ B2 ++ B3) ++ (B4 ++ l) by simp only [List.append_assoc]]
    rw [List.drop_append, List.drop_of_length_le (by simp; omega), List.length_append, List.length_append, List.length_append, l0, l1, l2, l3, List.nil_append, Nat.sub_self, List.drop_zero, List.take_append_of_le_length (by omega), List.take_of_length_le (by omega)]
  rw [e0, e1, e2, e3, e4]
  unfold ofNumbers
  rw [b0, b1, b2, b3, b4]
theorem take_put (x : Pt) (l : List (BitVec 8)) : takeP (bytes x ++ l) = x ∧ takeR (bytes x ++ l) = l ∧ takeE (bytes x ++ l) = 0 := by
  have hl : (bytes x ++ l).length = 17 + l.length := by rw [List.length_append, bytes_length]
  refine ⟨?_, ?_, ?_⟩
  · unfold takeP; rw [if_neg (by omega), taken_bytes]
  · unfold takeR; rw [if_neg (by omega), List.drop_append, List.drop_of_length_le (by rw [bytes_length]; omega), bytes_length, List.nil_append, Nat.sub_self, List.drop_zero]
  · unfold takeE; rw [if_neg (by omega)]
end PtM
end Go.Proofs.YtjcommodiihcdaaDoor
/- Pointers as values: how a law's stands in the heap, the language's '==' on them, a block that holds one. No function of the program. -/
namespace Go.Proofs.YtjcommodiihcdaaDoor
open Go.ChangeShapes Go.WideShapes Go.ChangeAt Go.RowKit Go.Deep Go.Joins
set_option linter.unusedVariables false
set_option linter.unusedSimpArgs false
def ptE (x : Pt) : List Value := [.int .u8 (bI x.kind), .int .u16 (hI x.a), .int .u16 (hI x.b), .int .u32 (wI x.birth), .int .u64 (uI x.sum)]
def ptA (x : Pt) : Array Value := #[.int .u8 (bI x.kind), .int .u16 (hI x.a), .int .u16 (hI x.b), .int .u32 (wI x.birth), .int .u64 (uI x.sum)]
theorem ptA_one (x : Pt) : (ptA x).all (·.oneCell') = true := by simp [ptA, Value.oneCell']
theorem ptA_size (x : Pt) : (ptA x).size = 5 := rfl
theorem ptr_info : (Tryd.prog.info? 45).map (·.size) = some 5 := by kernel_rfl
section
variable {H : Type} {enc : TypeId × Value → H} {W : World}
theorem wf_u16_b {n : Int} (h : (Lit.int .u16 n).wf = true) : 0 ≤ n ∧ n ≤ 65535 := by
  simpa [Lit.wf, IntKind.min, IntKind.max, IntKind.signed, IntKind.bits] using h
theorem wf_u32_b {n : Int} (h : (Lit.int .u32 n).wf = true) : 0 ≤ n ∧ n ≤ 4294967295 := by
  simpa [Lit.wf, IntKind.min, IntKind.max, IntKind.signed, IntKind.bits] using h
theorem open_u32 {P : Program} {b0 : Nat} {t : TypeId} {v : Value} {d : DataW H} {ps : List MemPlace} (ht : P.underlying t = some (.int .u32)) (hval : Value.okWide P W .any b0 t v) (hd : DataW.Trod enc P W 0 (fun _ => true) true t v d ps) :
    ∃ x, v = .int .u32 (wI x) := by
  obtain ⟨n, rfl, _, _, hw⟩ := open_int ht hval hd
  obtain ⟨x, rfl⟩ := wI_of n (wf_u32_b hw).1 (wf_u32_b hw).2
  exact ⟨x, rfl⟩
end
theorem list5 {l : List Value} (h : l.length = 5) : ∃ a b c d e, l = [a, b, c, d, e] := by
  match l, h with
  | [a, b, c, d, e], _ => exact ⟨a, b, c, d, e, rfl⟩
/-- A pointer, as its cells are read. -/
theorem ptr_of_cells {H : Type} {enc : TypeId × Value → H} {W : World} {n : Nat} {hl : Bool} {cs : List Value} {y : DataW H × List MemPlace} (h5 : cs.length = 5) (h : DataW.trod enc Tryd.prog W 0 (fun _ => true) hl n 45 cs = some y) : ∃ x, ptE x = cs := by
  obtain ⟨c0, c1, c2, c3, c4, rfl⟩ := list5 h5
  obtain ⟨y0, y1, y2, y3, m, _, _, h0, h1, h2, h3⟩ := trod_struct4 Tryd.underlying45 h
  have k0 : Tryd.prog.cellsOf 5 = 1 := by kernel_rfl
  have k1 : Tryd.prog.cellsOf 42 = 2 := by kernel_rfl
  have k2 : Tryd.prog.cellsOf 34 = 1 := by kernel_rfl
  have k3 : Tryd.prog.cellsOf 43 = 1 := by kernel_rfl
  have k4 : Tryd.prog.cellsOf 41 = 1 := by kernel_rfl
  simp only [k0, k1, k2, k3, List.drop_zero, List.drop_succ_cons, List.take_succ_cons, List.take_zero] at h0 h1 h2 h3
  obtain ⟨n0, e0, _, w0⟩ := DataW.trod_int Tryd.underlying5 h0
  obtain ⟨n2, e2, _, w2⟩ := DataW.trod_int Tryd.underlying34 h2
  obtain ⟨n3, e3, _, w3⟩ := DataW.trod_int Tryd.underlying43 h3
  obtain ⟨xs, m1, _, _, _, hxl, hx⟩ := DataW.trod_array Tryd.underlying42 h1
  have q0 := hx 0 (by omega)
  have q1 := hx 1 (by omega)
  rw [k4, List.getElem?_eq_getElem (by omega)] at q0 q1
  simp only [Nat.zero_mul, Nat.one_mul, List.drop_zero, List.drop_succ_cons, List.take_succ_cons, List.take_zero] at q0 q1
  obtain ⟨n4, e4, _, w4⟩ := DataW.trod_int Tryd.underlying41 q0
  obtain ⟨n5, e5, _, w5⟩ := DataW.trod_int Tryd.underlying41 q1
  obtain ⟨x0, rfl⟩ := bI_of n0 (wf_u8_b w0).1 (wf_u8_b w0).2
  obtain ⟨x2, rfl⟩ := wI_of n2 (wf_u32_b w2).1 (wf_u32_b w2).2
  obtain ⟨x3, rfl⟩ := uI_of n3 (wf_u64_b w3).1 (wf_u64_b w3).2
  obtain ⟨x4, rfl⟩ := hI_of n4 (wf_u16_b w4).1 (wf_u16_b w4).2
  obtain ⟨x5, rfl⟩ := hI_of n5 (wf_u16_b w5).1 (wf_u16_b w5).2
  simp only [List.cons.injEq, and_true] at e0 e2 e3 e4 e5
  exact ⟨⟨x0, x4, x5, x2, x3⟩, by unfold ptE; rw [e0, e2, e3, e4, e5]⟩
/-- A pointer that a law is given. -/
theorem open_ptr {H : Type} {enc : TypeId × Value → H} {W : World} {b0 : Nat} {v : Value} {d : DataW H} {ps : List MemPlace} (hval : Value.okWide Tryd.prog W .any b0 45 v) (hd : DataW.Trod enc Tryd.prog W 0 (fun _ => true) true 45 v d ps) : ∃ x, v = .agg (ptA x) := by
  obtain ⟨cs, rfl, hsz⟩ := okWide_struct Tryd.underlying45 hval
  have k : Tryd.prog.cellsOf 45 = 5 := by kernel_rfl
  rw [k] at hsz
  obtain ⟨fuel, hf⟩ := hd
  obtain ⟨x, hx⟩ := ptr_of_cells (cs := cs.toList) (by simpa using hsz) hf
  refine ⟨x, ?_⟩
  congr 1
  apply Array.ext'
  rw [← hx]
  rfl
theorem addr2_eq (d : Nat) (a b a' b' : BitVec 16) (w : World) : (Op.equalIn (d + 2) 42 (.agg #[.int .u16 (hI a), .int .u16 (hI b)]) (.agg #[.int .u16 (hI a'), .int .u16 (hI b')])).run Tryd.prog w = .ok (decide (a = a') && decide (b = b')) w := by
  obtain ⟨i0, hi⟩ : ∃ i, Tryd.prog.info? 41 = some i := Option.isSome_iff_exists.1 (by kernel_rfl)
  have hc : Tryd.prog.cellsOf 41 = 1 := by kernel_rfl
  rw [run_equalIn_array w (d + 1) _ _ Tryd.underlying42 hi, hc,
    eqItems_ints d Tryd.underlying41 _ _ w (List.range 2) (fun j => if j = 0 then hI a else hI b) (fun j => if j = 0 then hI a' else hI b') fun j hj => by
      have hj := List.mem_range.1 hj
      rcases j with _ | _ | j
      · simp
      · simp
      · omega]
  congr 1
  simp only [show List.range 2 = [0, 1] from rfl, List.all_cons, List.all_nil, Bool.and_true, if_true, show ¬ (1 : Nat) = 0 by omega, if_false, hI_beq]
  rfl
theorem part_addr (x : Pt) (w : World) : (part 42 (ptA x) 1).run Tryd.prog w = .ok (.agg #[.int .u16 (hI x.a), .int .u16 (hI x.b)]) w := by
  have hagg : (isAgg 42).run Tryd.prog w = .ok true w := by
    unfold isAgg
    rw [Sem.run_bind, run_underlying Tryd.underlying42 w]
    rfl
  obtain ⟨i, hi, hs⟩ : ∃ i, Tryd.prog.info? 42 = some i ∧ i.size = 2 := Option.map_eq_some_iff.1 (show (Tryd.prog.info? 42).map (·.size) = some 2 by kernel_rfl)
  simp [part, hagg, sizeOf, typeInfo, hi, hs, ptA]
theorem pt_eq_run (x y : Pt) (w : World) : (Op.equalIn 10000 45 (.agg (ptA x)) (.agg (ptA y))).run Tryd.prog w = .ok (decide (x = y)) w := by
  have hf : (Tryd.prog.fieldsOf 45).toList.map (fun f => (f.name, f.type, f.offset)) = [("Kind", 5, 0), ("Addr", 42, 1), ("Birth", 34, 3), ("Sum", 43, 4)] := by kernel_rfl
  rw [show (10000 : Nat) = 9999 + 1 from rfl, run_equalIn_struct w 9999 _ _ _ (show Tryd.prog.underlying 45 = some (.struct (Tryd.prog.fieldsOf 45)) by unfold Program.fieldsOf; rw [Tryd.underlying45]) (by kernel_rfl)]
  generalize (Tryd.prog.fieldsOf 45).toList = fs at *
  rcases fs with _ | ⟨f0, _ | ⟨f1, _ | ⟨f2, _ | ⟨f3, _ | ⟨f4, fs⟩⟩⟩⟩⟩
  · simp at hf
  · simp at hf
  · simp at hf
  · simp at hf
  · simp only [List.map_cons, List.map_nil, List.cons.injEq, Prod.mk.injEq, and_true] at hf
    obtain ⟨⟨n0, t0, o0⟩, ⟨n1, t1, o1⟩, ⟨n2, t2, o2⟩, n3, t3, o3⟩ := hf
    have agg : ∀ t k, Tryd.prog.underlying t = some (.int k) → (isAgg t).run Tryd.prog w = .ok false w := fun t k h => by
      unfold isAgg
      rw [Sem.run_bind, run_underlying h w]
      rfl
    have a0 := agg _ _ Tryd.underlying5
    have a2 := agg _ _ Tryd.underlying34
    have a3 := agg _ _ Tryd.underlying43
    have p0 : ∀ z : Pt, (part 5 (ptA z) 0).run Tryd.prog w = .ok (.int .u8 (bI z.kind)) w := fun z => by simp [part, a0, ptA]
    have p2 : ∀ z : Pt, (part 34 (ptA z) 3).run Tryd.prog w = .ok (.int .u32 (wI z.birth)) w := fun z => by simp [part, a2, ptA]
    have p3 : ∀ z : Pt, (part 43 (ptA z) 4).run Tryd.prog w = .ok (.int .u64 (uI z.sum)) w := fun z => by simp [part, a3, ptA]
    have q0 : (Op.equalIn 9999 5 (.int .u8 (bI x.kind)) (.int .u8 (bI y.kind))).run Tryd.prog w = .ok (bI x.kind == bI y.kind) w := run_equalIn_int (P := Tryd.prog) w 9998 5 .u8 .u8 _ _ Tryd.underlying5
    have q1 := addr2_eq 9997 x.a x.b y.a y.b w
    have q2 : (Op.equalIn 9999 34 (.int .u32 (wI x.birth)) (.int .u32 (wI y.birth))).run Tryd.prog w = .ok (wI x.birth == wI y.birth) w := run_equalIn_int (P := Tryd.prog) w 9998 34 .u32 .u32 _ _ Tryd.underlying34
    have q3 : (Op.equalIn 9999 43 (.int .u64 (uI x.sum)) (.int .u64 (uI y.sum))).run Tryd.prog w = .ok (uI x.sum == uI y.sum) w := run_equalIn_int (P := Tryd.prog) w 9998 43 .u64 .u64 _ _ Tryd.underlying43
    simp [Op.eqFields, n0, n1, n2, n3, t0, t1, t2, t3, o0, o1, o2, o3, p0, p2, p3, part_addr, q0, q1, q2, q3, bI_beq, wI_beq, uI_beq]
    obtain ⟨x0, x1, x2, x3, x4⟩ := x
    obtain ⟨y0, y1, y2, y3, y4⟩ := y
    by_cases h0 : x0 = y0 <;> by_cases h1 : x1 = y1 <;> by_cases h2 : x2 = y2 <;> by_cases h3 : x3 = y3 <;> by_cases h4 : x4 = y4 <;> simp [h0, h1, h2, h3, h4]
  · simp at hf
theorem pt_guard (x y : Pt) (op : BinOp) (p q : Operand) (w : World) : (eqGuard op 45 p q (.agg (ptA x)) (.agg (ptA y))).run Tryd.prog w = .ok () w :=
  run_eqGuard_agg w op _ p q _ _ (by kernel_rfl)
theorem pt_eql (x y : Pt) (w : World) : (binOp .eql 45 (.agg (ptA x)) (.agg (ptA y))).run Tryd.prog w = .ok (.bool (decide (x = y))) w := by
  rw [run_eql_struct, pt_eq_run]; rfl
theorem pt_neq (x y : Pt) (w : World) : (binOp .neq 45 (.agg (ptA x)) (.agg (ptA y))).run Tryd.prog w = .ok (.bool (!decide (x = y))) w := by
  rw [run_neq_struct, pt_eq_run]; rfl
end Go.Proofs.YtjcommodiihcdaaDoor
/- A block that holds a pointer: loaded, stored, told, held against another one. No function of the program. -/
namespace Go.Proofs.YtjcommodiihcdaaDoor
open Go.RowKit
set_option linter.unusedVariables false
theorem val_mono' (v : Value) : ∀ u (w w' : World), u = v → Grows w w' → u = v := fun _ _ _ h _ => h
@[go_sem] theorem ptA_0 (x : Pt) : (ptA x)[0]? = some (.int .u8 (bI x.kind)) := rfl
@[go_sem] theorem ptA_1 (x : Pt) : (ptA x)[1]? = some (.int .u16 (hI x.a)) := rfl
@[go_sem] theorem ptA_2 (x : Pt) : (ptA x)[2]? = some (.int .u16 (hI x.b)) := rfl
@[go_sem] theorem ptA_3 (x : Pt) : (ptA x)[3]? = some (.int .u32 (wI x.birth)) := rfl
@[go_sem] theorem ptA_4 (x : Pt) : (ptA x)[4]? = some (.int .u64 (uI x.sum)) := rfl
section
variable {w : World} {g : Nat} {x : Pt}
theorem run_load_pt (h : Row w g 45 (ptA x)) : (loadVar 45 ⟨g, 0, none⟩).run Tryd.prog w = .ok (.agg (ptA x)) w :=
  run_loadVar_row w g 45 45 (ptA x) (0, 0) _ h Tryd.underlying45 rfl ptr_info
section
variable {ops : Array Oper} {rest : List Oper} {o : Oper} {a : Act} {Q : Exit → Act → World → Prop}
theorem wpList_load_pt (hgd : o.guard = none) (y : Operand) (ho : o.op = .load 45 y) (g : Nat) (x : Pt) (hx : a.eval y = .pointer (some ⟨g, 0, none⟩)) (hr : Row w g 45 (ptA x))
    (h : wpList Tryd.prog ops Q rest (a.put o.dst (.agg (ptA x))) w) : wpList Tryd.prog ops Q (o :: rest) a w :=
  wpList_load_row hgd 45 y ho g hx 45 (ptA x) (0, 0) _ hr Tryd.underlying45 rfl ptr_info h
theorem wpList_store_pt (hgd : o.guard = none) (y z : Operand) (ho : o.op = .store 45 y z) (g : Nat) (x : Pt) (old : Array Value) (hx : a.eval y = .pointer (some ⟨g, 0, none⟩)) (hy : a.eval z = .agg (ptA x)) (h5 : old.size = 5) (hr : Row w g 45 old)
    (h : ∀ w', Row w' g 45 (ptA x) → w.grownBy w' (some g) → wpList Tryd.prog ops Q rest (a.put o.dst undef) w') : wpList Tryd.prog ops Q (o :: rest) a w :=
  wpList_store_row hgd 45 y z ho g (ptA x) hx hy 45 old hr ptr_info (by rw [h5]; rfl) (ptA_one x)
    (h _ (hr.setRow _) (setRow_grownBy _ _ _))
theorem wpList_eql_pt (hgd : o.guard = none) (y z : Operand) (ty : TypeId) (ho : o.op = .binOp .eql 45 y z ty) (p q : Pt) (hx : a.eval y = .agg (ptA p)) (hy : a.eval z = .agg (ptA q))
    (h : wpList Tryd.prog ops Q rest (a.put o.dst (.bool (decide (p = q)))) w) : wpList Tryd.prog ops Q (o :: rest) a w :=
  wpList_plain hgd fun K hK => by
    have hq := pt_eql p q w
    have hg := pt_guard p q .eql y z w
    unfold Oper.wp execOp
    simp only [ho, hx, hy, hg, hq, Sem.run_bind, Sem.run_pure, Result.andThen_ok, Oper.upon]
    exact hK _ _ h
end
theorem does_eql_pt {ρ : Operand → Value} {o : Oper} {w : World} {R : Value → World → Prop} (y z : Operand) (p q : Pt) (ty : TypeId) (ho : o.op = .binOp .eql 45 y z ty) (hx : ρ y = .agg (ptA p)) (hy : ρ z = .agg (ptA q)) (hR : R (.bool (decide (p = q))) w) : Does Tryd.prog o ρ w R := by
  have hq := pt_eql p q w
  have hg := pt_guard p q .eql y z w
  unfold Does execOp
  simp only [ho, hx, hy, hg, hq, Sem.run_bind, Sem.run_pure, Result.andThen_ok]
  exact hR
theorem does_neq_pt {ρ : Operand → Value} {o : Oper} {w : World} {R : Value → World → Prop} (y z : Operand) (p q : Pt) (ty : TypeId) (ho : o.op = .binOp .neq 45 y z ty) (hx : ρ y = .agg (ptA p)) (hy : ρ z = .agg (ptA q)) (hR : R (.bool (!decide (p = q))) w) : Does Tryd.prog o ρ w R := by
  have hq := pt_neq p q w
  have hg := pt_guard p q .neq y z w
  unfold Does execOp
  simp only [ho, hx, hy, hg, hq, Sem.run_bind, Sem.run_pure, Result.andThen_ok]
  exact hR
theorem results_pt {fn : Func} {p : Tmp} (h : fn.results = #[.cell p 45]) (tmps : Array Value) (hp : tmps.getD p undef = .pointer (some ⟨g, 0, none⟩)) (hr : Row w g 45 (ptA x)) :
    (results fn tmps).run Tryd.prog w = .ok (.agg (ptA x)) w :=
  results_cell_row h tmps w g 45 (ptA x) (0, 0) _ hp hr Tryd.underlying45 rfl ptr_info
theorem results_pt_three {fn : Func} {p q r : Tmp} (h : fn.results = #[.cell p 45, .tmp q, .tmp r]) (tmps : Array Value) (u v : Value) (hp : tmps.getD p undef = .pointer (some ⟨g, 0, none⟩)) (hq : tmps.getD q undef = u) (hv : tmps.getD r undef = v) (hr : Row w g 45 (ptA x)) :
    (results fn tmps).run Tryd.prog w = .ok (.tuple #[.agg (ptA x), u, v]) w := by
  have hp' : tmps[p]?.getD undef = .pointer (some ⟨g, 0, none⟩) := by simpa using hp
  have hq' : tmps[q]?.getD undef = u := by simpa using hq
  have hv' : tmps[r]?.getD undef = v := by simpa using hv
  simp [results, h, hp', hq', hv', asAddr, run_load_pt hr]
end
end Go.Proofs.YtjcommodiihcdaaDoor
/- Layer 5's small answers: none, of metadata, may it be born, second addresses. -/
namespace Go.Proofs.YtjcommodiihcdaaDoor
open Go.RowKit
set_option linter.unusedVariables false
set_option linter.unusedSimpArgs false
theorem bI_eq_of {x : BitVec 8} {n : Nat} (hn : n < 256) : bI x = (n : Int) ↔ x = BitVec.ofNat 8 n := by
  rw [← bI_ofNat n hn]; exact ⟨bI_inj, fun h => by rw [h]⟩
theorem node_of {x : Pt} : PtM.node x = (decide (bI x.kind = 1) || decide (bI x.kind = 2)) := by
  unfold PtM.node
  have h1 := bI_eq_of (x := x.kind) (n := 1) (by decide)
  have h2 := bI_eq_of (x := x.kind) (n := 2) (by decide)
  rw [Bool.eq_iff_iff]
  simp only [Bool.or_eq_true, beq_iff_eq, decide_eq_true_eq]
  exact ⟨fun h => h.imp h1.2 h2.2, fun h => h.imp h1.1 h2.1⟩
theorem node_any (x : Pt) (w : World) : Calls Tryd.prog 48 #[.agg (ptA x)] w fun e w' => e = .returned (.bool (PtM.node x)) ∧ Grows w w' := by
  have HG := Lib.hid (Grows.alloc w (.cells (ptA x) 45))
  have HN := Lib.hid (node_of (x := x))
  by_cases h1 : bI x.kind = 1
  · go_enter Tryd.func48, Tryd.ntmps48
    go_wp2
    go_ret
    exact ⟨by rw [HN.out]; simp [h1], HG.out⟩
  · by_cases h2 : bI x.kind = 2
    · go_enter Tryd.func48, Tryd.ntmps48
      go_wp2
      go_ret
      exact ⟨by rw [HN.out]; simp [h2], HG.out⟩
    · go_enter Tryd.func48, Tryd.ntmps48
      go_wp2
      go_ret
      exact ⟨by rw [HN.out]; simp [h1, h2], HG.out⟩
theorem rnode_any (x : Pt) (w : World) : Calls Tryd.prog 36 #[.agg (ptA x)] w fun e w' => e = .returned (.bool (PtM.node x)) ∧ Grows w w' := by
  have HG := Lib.hid (Grows.alloc w (.cells (ptA x) 45))
  have HN := Lib.hid (node_of (x := x))
  by_cases h1 : bI x.kind = 1
  · go_enter Tryd.func36, Tryd.ntmps36
    go_wp2
    go_ret
    exact ⟨by rw [HN.out]; simp [h1], HG.out⟩
  · by_cases h2 : bI x.kind = 2
    · go_enter Tryd.func36, Tryd.ntmps36
      go_wp2
      go_ret
      exact ⟨by rw [HN.out]; simp [h2], HG.out⟩
    · go_enter Tryd.func36, Tryd.ntmps36
      go_wp2
      go_ret
      exact ⟨by rw [HN.out]; simp [h1, h2], HG.out⟩
theorem hI_eq_of {x : BitVec 16} {n : Nat} (hn : n < 65536) : hI x = (n : Int) ↔ x = BitVec.ofNat 16 n := by
  rw [← hI_ofNat n hn]; exact ⟨hI_inj, fun h => by rw [h]⟩
theorem hI_zero (x : BitVec 16) : (hI x == 0) = (x == 0#16) := by
  have h := hI_eq_of (x := x) (n := 0) (by decide)
  rw [Bool.eq_iff_iff]; simp only [beq_iff_eq]; exact h
theorem hI_bne (x y : BitVec 16) : (hI x != hI y) = (x != y) := by
  rw [bne, bne, hI_beq]
theorem born_any (x : Pt) (w : World) : Calls Tryd.prog 58 #[.agg (ptA x)] w fun e w' => e = .returned (.bool (PtM.born x)) ∧ Grows w w' := by
  have HG := Lib.hid (Grows.alloc w (.cells (ptA x) 45))
  have HN : Hid (PtM.born x = (decide (1 ≤ wI x.birth) && decide (wI x.birth ≤ 1073741824))) := rfl
  by_cases h1 : 1 ≤ wI x.birth
  · by_cases h2 : wI x.birth ≤ 1073741824
    · go_enter Tryd.func58, Tryd.ntmps58
      go_wp2
      go_ret
      exact ⟨by rw [HN.out]; simp [h1, h2], HG.out⟩
    · go_enter Tryd.func58, Tryd.ntmps58
      go_wp2
      go_ret
      exact ⟨by rw [HN.out]; simp [h1, h2], HG.out⟩
  · go_enter Tryd.func58, Tryd.ntmps58
    go_wp2
    go_ret
    exact ⟨by rw [HN.out]; simp; intro; omega, HG.out⟩
theorem place_any (x : BitVec 16) (n : Int) (w : World) : Calls Tryd.prog 51 #[.int .u16 (hI x), .int .i64 n] w fun e w' => e = .returned (.bool (PtM.place x n)) ∧ Grows w w' := by
  have HN : Hid (PtM.place x n = (decide (4 ≤ hI x) && decide (hI x < n))) := rfl
  have hw := wrap_i64_hI x
  by_cases h1 : 4 ≤ hI x
  · by_cases h2 : hI x < n
    · go_enter Tryd.func51, Tryd.ntmps51
      go_wp2
      go_ret
      exact ⟨by rw [HN.out]; simp [h1, h2], Grows.refl _⟩
    · go_enter Tryd.func51, Tryd.ntmps51
      go_wp2
      go_ret
      exact ⟨by rw [HN.out]; simp [h1, h2], Grows.refl _⟩
  · go_enter Tryd.func51, Tryd.ntmps51
    go_wp2
    go_ret
    exact ⟨by rw [HN.out]; simp; intro; omega, Grows.refl _⟩
theorem second_any (x : Pt) (w : World) : Calls Tryd.prog 59 #[.agg (ptA x)] w fun e w' => e = .returned (.bool (PtM.second x)) ∧ Grows w w' := by
  have HG := Lib.hid (Grows.alloc w (.cells (ptA x) 45))
  have R0 := Row.new w 45 (ptA x)
  have HR := Lib.hid R0
  have HM := Lib.hid (fun W => node_any x W)
  have h3 := bI_eq_of (x := x.kind) (n := 3) (by decide)
  have HS : Hid (PtM.second x = if x.kind = 3#8 then x.b == 0#16 else PtM.node x && (x.a != x.b)) := rfl
  rw [← hI_zero, ← hI_bne] at HS
  generalize PtM.second x = t at *
  by_cases hk : bI x.kind = 3
  · rw [if_pos (h3.1 hk)] at HS
    obtain rfl := HS.out
    clear HS h3 R0
    go_enter Tryd.func59, Tryd.ntmps59
    go_wp2
    go_ret
    exact ⟨rfl, HG.out⟩
  · rw [if_neg (fun e => hk (h3.2 e))] at HS
    obtain rfl := HS.out
    clear HS h3 R0
    generalize PtM.node x = m at *
    go_enter Tryd.func59, Tryd.ntmps59
    go_wp2_with (first
      | ((with_reducible refine wpList_load_pt (o := ⟨some 10, _, _, _, _, _⟩) ?_ (.tmp 1) ?_ w.heap.size x ?_ ?_ ?_); exact rfl; exact rfl; exact rfl; exact HR.out)
      | (go_at_call 48; refine (HM.out _).mono ?_; rintro e w2 ⟨rfl, hb2⟩; have R2 := Row.grows HR.out hb2; have c1 := (R2.cell 1).trans (ptA_1 x); have c2 := (R2.cell 2).trans (ptA_2 x); have HB2 := Lib.hid (HG.out.trans hb2); clear hb2 R2; cases m))
    all_goals (go_ret; exact ⟨rfl, HB2.out⟩)
end Go.Proofs.YtjcommodiihcdaaDoor
