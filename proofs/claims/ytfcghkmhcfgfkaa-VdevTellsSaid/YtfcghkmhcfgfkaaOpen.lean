/- What arguments of plain types are: words, bytes, rows of bytes, rows of rows, arrays. No function of the program. -/
import Derived.Test.YtfcghkmhcfgfkaaMem
import Derived.Test.YtfcghkmhcfgfkaaWords
import Derived.ProofKit
import Derived.OpenShut
import Derived.Deep.Slices
namespace Go.Proofs.Ytfcghkmhcfgfkaa
open Go.ChangeShapes Go.WideShapes Go.ChangeAt Go.RowKit Go.Deep
def byteV (b : BitVec 8) : Value := .int .u8 (bI b)
/-- The slice v holds the bytes l. -/
def Bytes (B : Nat) (W : World) (v : Value) (l : List (BitVec 8)) : Prop := Sl B W v (l.map byteV)
/-- The slice v holds slices, which hold these rows of bytes. -/
def Parts (B : Nat) (W : World) (v : Value) (ls : List (List (BitVec 8))) : Prop :=
  ∃ vs : List Value, vs.length = ls.length ∧ Sl B W v vs ∧ ∀ (i : Nat) (x : Value) (l : List (BitVec 8)), vs[i]? = some x → ls[i]? = some l → Bytes B W x l
theorem Parts.below {B : Nat} {W W' : World} {v : Value} {ls : List (List (BitVec 8))} (h : Parts B W v ls) (hb : Below B W W') : Parts B W' v ls := by
  obtain ⟨vs, h1, h2, h3⟩ := h
  exact ⟨vs, h1, h2.below hb, fun i x l hx hl => (h3 i x l hx hl).below hb⟩
theorem Parts.more {B B' : Nat} {W : World} {v : Value} {ls : List (List (BitVec 8))} (h : Parts B W v ls) (hb : B ≤ B') : Parts B' W v ls := by
  obtain ⟨vs, h1, h2, h3⟩ := h
  exact ⟨vs, h1, h2.more hb, fun i x l hx hl => (h3 i x l hx hl).more hb⟩
theorem Parts.one {B : Nat} {W : World} {g o cap : Nat} {v : Value} {l : List (BitVec 8)} (hB : g < B) (hc : W.cell? ⟨g, o, none⟩ = some v) (h1 : 1 ≤ cap) (h2 : cap ≤ maxLen) (hv : Bytes B W v l) : Parts B W (.slice (some ⟨g, o, none⟩) 1 cap) [l] :=
  ⟨[v], rfl, ⟨_, cap, rfl, h1, h2, fun _ => ⟨g, o, rfl, hB, fun j u hu => by
    cases j with
    | zero => simp at hu; subst hu; simpa using hc
    | succ j => simp at hu⟩⟩, fun i x l' hx hl => by
    cases i with
    | zero => simp at hx hl; subst hx hl; exact hv
    | succ i => simp at hx⟩
theorem Parts.new {w : World} {t : TypeId} {v : Value} {l : List (BitVec 8)} (hv : Bytes w.heap.size w v l) : Parts (w.heap.size + 1) (w.alloc (.cells #[v] t)) (.slice (some ⟨w.heap.size, 0, none⟩) 1 1) [l] :=
  Parts.one (by simp) (by simp) (Nat.le_refl _) (by decide) ((Sl.below hv ((Below.refl _ w).alloc (Nat.le_refl _) _)).more (by simp))
theorem Bytes.below {B : Nat} {W W' : World} {v : Value} {l : List (BitVec 8)} (h : Bytes B W v l) (hb : Below B W W') : Bytes B W' v l := Sl.below h hb
theorem Bytes.more {B B' : Nat} {W : World} {v : Value} {l : List (BitVec 8)} (h : Bytes B W v l) (hb : B ≤ B') : Bytes B' W v l := Sl.more h hb
theorem Bytes.take {B : Nat} {W : World} {A : Option Addr} {cap n len : Nat} {l : List (BitVec 8)} (h : Bytes B W (.slice A len cap) l) (hn : n ≤ l.length) : Bytes B W (.slice A n cap) (l.take n) := by
  have := Sl.take (n := n) h (by simpa using hn)
  unfold Bytes
  rwa [List.map_take]
section
variable {H : Type} {enc : TypeId × Value → H} {P : Program} {W : World}
theorem wf_u64_b {n : Int} (h : (Lit.int .u64 n).wf = true) : 0 ≤ n ∧ n ≤ 18446744073709551615 := by
  simpa [Lit.wf, IntKind.min, IntKind.max, IntKind.signed, IntKind.bits] using h
theorem wf_u8_b {n : Int} (h : (Lit.int .u8 n).wf = true) : 0 ≤ n ∧ n ≤ 255 := by
  simpa [Lit.wf, IntKind.min, IntKind.max, IntKind.signed, IntKind.bits] using h
theorem wf_i64_b {n : Int} (h : (Lit.int .i64 n).wf = true) : -9223372036854775808 ≤ n ∧ n ≤ 9223372036854775807 := by
  simpa [Lit.wf, IntKind.min, IntKind.max, IntKind.signed, IntKind.bits] using h
theorem open_u64 {b0 : Nat} {t : TypeId} {v : Value} {d : DataW H} {ps : List MemPlace} (ht : P.underlying t = some (.int .u64)) (hval : Value.okWide P W .any b0 t v) (hd : DataW.Trod enc P W 0 (fun _ => true) true t v d ps) :
    ∃ x, v = .int .u64 (uI x) := by
  obtain ⟨n, rfl, _, _, hw⟩ := open_int ht hval hd
  obtain ⟨x, rfl⟩ := uI_of n (wf_u64_b hw).1 (wf_u64_b hw).2
  exact ⟨x, rfl⟩
theorem open_u8 {b0 : Nat} {t : TypeId} {v : Value} {d : DataW H} {ps : List MemPlace} (ht : P.underlying t = some (.int .u8)) (hval : Value.okWide P W .any b0 t v) (hd : DataW.Trod enc P W 0 (fun _ => true) true t v d ps) :
    ∃ x, v = .int .u8 (bI x) := by
  obtain ⟨n, rfl, _, _, hw⟩ := open_int ht hval hd
  obtain ⟨x, rfl⟩ := bI_of n (wf_u8_b hw).1 (wf_u8_b hw).2
  exact ⟨x, rfl⟩
theorem open_i64 {b0 : Nat} {t : TypeId} {v : Value} {d : DataW H} {ps : List MemPlace} (ht : P.underlying t = some (.int .i64)) (hval : Value.okWide P W .any b0 t v) (hd : DataW.Trod enc P W 0 (fun _ => true) true t v d ps) :
    ∃ n : Int, v = .int .i64 n ∧ -9223372036854775808 ≤ n ∧ n ≤ 9223372036854775807 := by
  obtain ⟨n, rfl, _, _, hw⟩ := open_int ht hval hd
  exact ⟨n, rfl, wf_i64_b hw⟩
theorem bytes_of_ints (zs : List Int) (h : ∀ n ∈ zs, (Lit.int .u8 n).wf = true) : ∃ l : List (BitVec 8), l.length = zs.length ∧ l.map byteV = zs.map (Value.int .u8) := by
  induction zs with
  | nil => exact ⟨[], rfl, rfl⟩
  | cons z zs ih =>
    obtain ⟨l, h1, h2⟩ := ih fun n hn => h n (by simp [hn])
    obtain ⟨x, hx⟩ := bI_of z (wf_u8_b (h z (by simp))).1 (wf_u8_b (h z (by simp))).2
    exact ⟨x :: l, by simp [h1], by simp [h2, byteV, hx]⟩
theorem spot_none {W : World} {a : Addr} {v : Value} (h : W.cell? a = some v) : a = ⟨a.block, a.off, none⟩ := by
  cases a with
  | mk b o s =>
    cases s with
    | none => rfl
    | some s => simp only [World.cell?] at h; split at h <;> simp at h
/-- The cells of a slice that is read: nil, or at an address. -/
theorem bytes_of_trod {t e : TypeId} {fuel : Nat} {v : Value} {x : DataW H × List MemPlace} (ht : P.underlying t = some (.slice e)) (he : P.underlying e = some (.int .u8)) (hc : P.cellsOf e = 1)
    (h : DataW.trod enc P W 0 (fun _ => true) true fuel t [v] = some x) : ∃ l, Bytes W.heap.size W v l := by
  rcases open_ints ht he hc h with ⟨hcs, _⟩ | ⟨a, len, cap, zs, hcs, _, hl, hm, hz, _, hcell, hw⟩
  · simp only [List.cons.injEq, and_true] at hcs
    subst hcs
    exact ⟨[], Sl.nil _ _⟩
  · simp only [List.cons.injEq, and_true] at hcs
    subst hcs
    simp only [if_true] at hz
    obtain ⟨l, h1, h2⟩ := bytes_of_ints (zs.take len) fun n hn => hw n (List.mem_of_mem_take hn)
    have hlen : l.length = len := by rw [h1, List.length_take]; omega
    have hlen' : (l.map byteV).length = len := by simp [hlen]
    refine ⟨l, some a, cap, by rw [hlen'], by omega, hm, fun hp => ?_⟩
    rw [hlen'] at hp
    have h0 := hcell 0 (by omega)
    have ha := spot_none h0
    rw [show a.add 0 = a from by simp [Addr.add]] at h0 ha
    refine ⟨a.block, a.off, by rw [← ha], block_lt_of_cell h0, fun j u hu => ?_⟩
    have hj : j < len := by
      have := (List.getElem?_eq_some_iff.1 hu).1
      omega
    have h3 := hcell j (by omega)
    rw [ha, add_lit] at h3
    rw [h3]
    rw [h2] at hu
    simp only [List.getElem?_map, List.getElem?_take_of_lt hj] at hu
    rw [List.getD_eq_getElem?_getD]
    cases hzj : zs[j]? with
    | none => simp [hzj] at hu
    | some z => simp only [hzj, Option.map_some, Option.some.injEq] at hu; simpa using hu
theorem open_bytes {b0 : Nat} {t e : TypeId} {v : Value} {d : DataW H} {ps : List MemPlace} (ht : P.underlying t = some (.slice e)) (he : P.underlying e = some (.int .u8)) (hc : P.cellsOf e = 1)
    (hval : Value.okWide P W .any b0 t v) (hd : DataW.Trod enc P W 0 (fun _ => true) true t v d ps) : ∃ l, Bytes W.heap.size W v l := by
  obtain ⟨a, len, cap, rfl⟩ := okWide_slice ht hval
  obtain ⟨fuel, hf⟩ := hd
  exact bytes_of_trod ht he hc hf
theorem open_parts {b0 : Nat} {t e q : TypeId} {v : Value} {d : DataW H} {ps : List MemPlace} (ht : P.underlying t = some (.slice e)) (he : P.underlying e = some (.slice q)) (hq : P.underlying q = some (.int .u8)) (ce : P.cellsOf e = 1) (cq : P.cellsOf q = 1)
    (hval : Value.okWide P W .any b0 t v) (hd : DataW.Trod enc P W 0 (fun _ => true) true t v d ps) : ∃ ls, Parts W.heap.size W v ls := by
  obtain ⟨a, len, cap, rfl⟩ := okWide_slice ht hval
  obtain ⟨fuel, hf⟩ := hd
  rcases open_slice1 ht ce hf with ⟨hcs, _⟩ | ⟨a, len, cap, m, n, V, D, Pl, hcs, _, hl, hm, hmm, _, hx⟩
  · simp [Value.cells] at hcs
    obtain ⟨rfl, rfl, rfl⟩ := hcs
    exact ⟨[], [], rfl, Sl.nil _ _, fun i x l h => by simp at h⟩
  · simp [Value.cells] at hcs
    obtain ⟨rfl, rfl, rfl⟩ := hcs
    simp only [if_true] at hmm
    have each : ∀ i, i < m → ∃ l, Bytes W.heap.size W (V i) l := fun i hi => bytes_of_trod he hq cq (hx i hi).2
    obtain ⟨L, hL⟩ := choose_lt each
    refine ⟨(List.range len).map L, (List.range len).map V, by simp, ⟨some a, cap, by simp, by simpa using hl, hm, fun hp => ?_⟩, fun i x l h1 h2 => ?_⟩
    · simp only [List.length_map, List.length_range] at hp
      have h0 := (hx 0 (by omega)).1
      have ha := spot_none h0
      rw [show a.add 0 = a from by simp [Addr.add]] at h0 ha
      refine ⟨a.block, a.off, by rw [← ha], block_lt_of_cell h0, fun j u hu => ?_⟩
      simp only [List.getElem?_map] at hu
      by_cases hj : j < len
      · rw [List.getElem?_range hj] at hu
        simp only [Option.map_some, Option.some.injEq] at hu
        have h3 := (hx j (by omega)).1
        rw [ha, add_lit] at h3
        rw [h3, hu]
      · rw [List.getElem?_eq_none (by simpa using hj)] at hu
        simp at hu
    · simp only [List.getElem?_map] at h1 h2
      by_cases hi : i < len
      · rw [List.getElem?_range hi] at h1 h2
        simp only [Option.map_some, Option.some.injEq] at h1 h2
        subst h1 h2
        exact hL i (by omega)
      · rw [List.getElem?_eq_none (by simpa using hi)] at h1
        simp at h1
theorem okWide_array {b0 : Nat} {t e : TypeId} {n : Nat} {v : Value} (ht : P.underlying t = some (.array n e)) (h : Value.okWide P W .any b0 t v) : ∃ cs, v = .agg cs ∧ cs.size = P.cellsOf t := by
  unfold Value.okWide at h
  rw [ht] at h
  obtain ⟨cs, h1, h2, _⟩ := h
  exact ⟨cs, h1, h2⟩
theorem open_arr {b0 : Nat} {t e : TypeId} {n : Nat} {v : Value} {d : DataW H} {ps : List MemPlace} (ht : P.underlying t = some (.array n e)) (he : P.underlying e = some (.int .u8)) (hc : P.cellsOf e = 1) (hn : P.cellsOf t = n)
    (hval : Value.okWide P W .any b0 t v) (hd : DataW.Trod enc P W 0 (fun _ => true) true t v d ps) : ∃ l : List (BitVec 8), l.length = n ∧ v = .agg (l.map byteV).toArray := by
  obtain ⟨cs, rfl, hs⟩ := okWide_array ht hval
  obtain ⟨fuel, hf⟩ := hd
  obtain ⟨xs, m, rfl, _, _, hxl, hx⟩ := DataW.trod_array ht hf
  rw [hn] at hs
  have each : ∀ i, i < n → ∃ z : Int, cs[i]? = some (.int .u8 z) ∧ (Lit.int .u8 z).wf = true := by
    intro i hi
    have h1 := hx i hi
    rw [hc, Nat.mul_one] at h1
    have hi' : i < cs.size := by omega
    have h2 : (cs.toList.drop i).take 1 = [cs[i]] := by
      rw [List.drop_eq_getElem_cons (by simpa using hi')]; simp
    rw [show (Value.agg cs).cells.toList = cs.toList from rfl, h2, List.getElem?_eq_getElem (by omega)] at h1
    obtain ⟨z, hz, _, hw⟩ := DataW.trod_int he h1
    simp only [List.cons.injEq, and_true] at hz
    exact ⟨z, by rw [Array.getElem?_eq_getElem hi', hz], hw⟩
  obtain ⟨Z, hZ⟩ := choose_lt each
  obtain ⟨l, h1, h2⟩ := bytes_of_ints ((List.range n).map Z) fun z hz => by
    obtain ⟨i, hi, rfl⟩ := List.mem_map.1 hz
    exact (hZ i (by simpa using hi)).2
  refine ⟨l, by simpa using h1, ?_⟩
  rw [h2]
  congr 1
  apply Array.ext
  · simp [hs]
  · intro i hi _
    have h3 := (hZ i (by omega)).1
    rw [Array.getElem?_eq_getElem hi] at h3
    simp only [Option.some.injEq] at h3
    simp [h3]
end
/-- A number brought into 0 .. n by the remainder twice. -/
theorem into (a : Int) (n : Nat) : (-((n : Int) + 1) < a.tmod (n + 1) ∧ a.tmod (n + 1) < (n : Int) + 1) ∧ ∃ p : Nat, p ≤ n ∧ (a.tmod (n + 1) + n + 1) % ((n : Int) + 1) = p := by
  have h1 : a.tmod ((n : Int) + 1) < (n : Int) + 1 := Int.tmod_lt_of_pos a (by omega)
  have h2 : -((n : Int) + 1) < a.tmod ((n : Int) + 1) := by
    have h3 : (-a).tmod ((n : Int) + 1) < (n : Int) + 1 := Int.tmod_lt_of_pos (-a) (by omega)
    rw [Int.neg_tmod] at h3
    omega
  refine ⟨⟨h2, h1⟩, ((a.tmod (n + 1) + n + 1) % ((n : Int) + 1)).toNat, ?_, ?_⟩
  · have h3 := Int.emod_lt_of_pos (a.tmod (n + 1) + n + 1) (show 0 < (n : Int) + 1 by omega)
    have h4 := Int.emod_nonneg (a.tmod (n + 1) + n + 1) (show (n : Int) + 1 ≠ 0 by omega)
    omega
  · have h4 := Int.emod_nonneg (a.tmod (n + 1) + n + 1) (show (n : Int) + 1 ≠ 0 by omega)
    omega
theorem Parts.of_row {B : Nat} {W : World} {g n : Nat} {t : TypeId} {cs : Array Value} {fr : Nat × Nat} (ls : List (List (BitVec 8))) (h : W.heap[g]? = some (.cells cs t fr)) (hB : g < B) (hn : cs.size = n) (hl : ls.length = n) (hm : n ≤ maxLen)
    (each : ∀ (i : Nat) (x : Value) (l : List (BitVec 8)), cs.toList[i]? = some x → ls[i]? = some l → Bytes B W x l) : Parts B W (.slice (some ⟨g, 0, none⟩) n n) ls := by
  refine ⟨cs.toList, by simp [hn, hl], ?_, each⟩
  have hlen : cs.toList.length = n := by simpa using hn
  have := Sl.of_row h hB n cs.toList rfl (by omega) hm
  rwa [hlen] at this
/-- A number brought into 0 .. n - 1 by the remainder twice. -/
theorem into' (a : Int) (n : Nat) (hn : 0 < n) : (-(n : Int) < a.tmod n ∧ a.tmod n < (n : Int)) ∧ ∃ p : Nat, p < n ∧ (a.tmod n + n) % (n : Int) = p := by
  have h1 : a.tmod (n : Int) < (n : Int) := Int.tmod_lt_of_pos a (by omega)
  have h2 : -(n : Int) < a.tmod (n : Int) := by
    have h3 : (-a).tmod (n : Int) < (n : Int) := Int.tmod_lt_of_pos (-a) (by omega)
    rw [Int.neg_tmod] at h3
    omega
  have h3 := Int.emod_lt_of_pos (a.tmod n + n) (show 0 < (n : Int) by omega)
  have h4 := Int.emod_nonneg (a.tmod n + n) (show (n : Int) ≠ 0 by omega)
  exact ⟨⟨h2, h1⟩, ((a.tmod n + n) % (n : Int)).toNat, by omega, by omega⟩
end Go.Proofs.Ytfcghkmhcfgfkaa
