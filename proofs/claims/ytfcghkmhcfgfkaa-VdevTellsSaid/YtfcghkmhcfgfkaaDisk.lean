/- Pages, writes, disks as values: what they hold, how a law's stand in the heap, the language's '==' on them. No function of the program. -/
import Derived.Test.YtfcghkmhcfgfkaaCells
import Derived.Test.YtfcghkmhcfgfkaaRows
import Derived.Lib.SmallJoins
namespace Go.Proofs.Ytfcghkmhcfgfkaa
open Go.ChangeShapes Go.WideShapes Go.ChangeAt Go.RowKit Go.Deep Go.Joins
abbrev Pg := List (BitVec 8)
structure Dk where
  pages : List Pg
  cache : List (Int × Pg)
  bad : List Int
  off : Bool
def pageE (p : Pg) : List Value := p.map byteV
def writeE (x : Int × Pg) : List Value := .int .i64 x.1 :: x.2.map byteV
def intE (n : Int) : List Value := [.int .i64 n]
theorem pageE_one : ∀ x : Pg, ∀ u ∈ pageE x, u.oneCell' = true := fun x u hu => by
  obtain ⟨_, _, rfl⟩ := List.mem_map.1 hu
  rfl
theorem writeE_one : ∀ x : Int × Pg, ∀ u ∈ writeE x, u.oneCell' = true := fun x u hu => by
  rcases List.mem_cons.1 hu with rfl | hu
  · rfl
  · exact pageE_one x.2 u hu
theorem intE_one : ∀ x : Int, ∀ u ∈ intE x, u.oneCell' = true := fun x u hu => by
  rw [List.mem_singleton.1 hu]; rfl
/-- The value v is this disk. -/
def IsDisk (B : Nat) (W : World) (v : Value) (d : Dk) : Prop :=
  ∃ pv cv bv, v = .agg #[pv, cv, bv, .bool d.off] ∧ Els 256 pageE B W pv d.pages ∧ Els 257 writeE B W cv d.cache ∧ Els 1 intE B W bv d.bad
theorem IsDisk.below {B : Nat} {W W' : World} {v : Value} {d : Dk} (h : IsDisk B W v d) (hb : Below B W W') : IsDisk B W' v d := by
  obtain ⟨pv, cv, bv, h0, h1, h2, h3⟩ := h
  exact ⟨pv, cv, bv, h0, h1.below hb, h2.below hb, h3.below hb⟩
theorem IsDisk.more {B B' : Nat} {W : World} {v : Value} {d : Dk} (h : IsDisk B W v d) (hb : B ≤ B') : IsDisk B' W v d := by
  obtain ⟨pv, cv, bv, h0, h1, h2, h3⟩ := h
  exact ⟨pv, cv, bv, h0, h1.more hb, h2.more hb, h3.more hb⟩
theorem IsDisk.grows {W W' : World} {v : Value} {d : Dk} (h : IsDisk W.heap.size W v d) (hg : Grows W W') : IsDisk W'.heap.size W' v d := (h.below hg).more (Below.size hg)
theorem elT_page : ElT Try.prog 22 28 256 256 := elT_mk Try.underlying22 (by kernel_rfl) (by omega)
theorem elT_write : ElT Try.prog 23 47 257 264 := elT_mk Try.underlying23 (by kernel_rfl) (by omega)
theorem elT_int : ElT Try.prog 24 3 1 8 := elT_mk Try.underlying24 (by kernel_rfl) (by omega)
section
variable {H : Type} {enc : TypeId × Value → H} {W : World}
theorem page_of_cells {n : Nat} {cs : List Value} {y : DataW H × List MemPlace} (hl : cs.length = 256) (h : DataW.trod enc Try.prog W 0 (fun _ => true) true n 28 cs = some y) : ∃ p : Pg, pageE p = cs := by
  obtain ⟨xs, m, rfl, _, _, hxl, hx⟩ := DataW.trod_array Try.underlying28 h
  have hc : Try.prog.cellsOf 5 = 1 := by kernel_rfl
  have each : ∀ i, i < 256 → ∃ z : Int, cs[i]? = some (.int .u8 z) ∧ (Lit.int .u8 z).wf = true := by
    intro i hi
    have h1 := hx i hi
    rw [hc, Nat.mul_one] at h1
    have hi' : i < cs.length := by omega
    have h2 : (cs.drop i).take 1 = [cs[i]] := by
      rw [List.drop_eq_getElem_cons hi']; rfl
    rw [h2, List.getElem?_eq_getElem (by omega)] at h1
    obtain ⟨z, hz, _, hw⟩ := DataW.trod_int Try.underlying5 h1
    simp only [List.cons.injEq, and_true] at hz
    exact ⟨z, by rw [List.getElem?_eq_getElem hi', hz], hw⟩
  obtain ⟨Z, hZ⟩ := choose_lt each
  obtain ⟨l, h1, h2⟩ := bytes_of_ints ((List.range 256).map Z) fun z hz => by
    obtain ⟨i, hi, rfl⟩ := List.mem_map.1 hz
    exact (hZ i (by simpa using hi)).2
  refine ⟨l, ?_⟩
  unfold pageE
  rw [h2]
  apply List.ext_getElem
  · simp [hl]
  · intro i hi hi2
    have h3 := (hZ i (by omega)).1
    rw [List.getElem?_eq_getElem hi2] at h3
    simp only [Option.some.injEq] at h3
    simp [h3]
theorem write_of_cells {n : Nat} {cs : List Value} {y : DataW H × List MemPlace} (hl : cs.length = 257) (h : DataW.trod enc Try.prog W 0 (fun _ => true) true n 47 cs = some y) : ∃ x : Int × Pg, writeE x = cs := by
  obtain ⟨y0, y1, m, _, _, h0, h1⟩ := trod_struct2 Try.underlying47 h
  have c0 : Try.prog.cellsOf 3 = 1 := by kernel_rfl
  have c1 : Try.prog.cellsOf 28 = 256 := by kernel_rfl
  match cs, hl with
  | c :: cs, hl =>
    simp only [List.length_cons] at hl
    simp only [c0, List.drop_zero, List.take_succ_cons, List.take_zero] at h0
    simp only [c1, List.drop_succ_cons, List.drop_zero] at h1
    rw [List.take_of_length_le (by omega)] at h1
    obtain ⟨z, hz, _, hw⟩ := DataW.trod_int Try.underlying3 h0
    simp only [List.cons.injEq, and_true] at hz
    obtain ⟨p, hp⟩ := page_of_cells (by omega) h1
    exact ⟨(z, p), by unfold writeE; rw [hz, ← hp]; rfl⟩
theorem int_of_cells {n : Nat} {cs : List Value} {y : DataW H × List MemPlace} (hl : cs.length = 1) (h : DataW.trod enc Try.prog W 0 (fun _ => true) true n 3 cs = some y) : ∃ x : Int, intE x = cs := by
  match cs, hl with
  | [c], _ =>
    obtain ⟨z, hz, _, hw⟩ := DataW.trod_int Try.underlying3 h
    exact ⟨z, hz.symm⟩
/-- A disk that a law is given. -/
theorem open_disk {b0 : Nat} {v : Value} {d : DataW H} {ps : List MemPlace} (hval : Value.okWide Try.prog W .any b0 26 v) (hd : DataW.Trod enc Try.prog W 0 (fun _ => true) true 26 v d ps) : ∃ dk, IsDisk W.heap.size W v dk := by
  obtain ⟨v0, v1, v2, v3, y0, y1, y2, y3, n, rfl, _, _, h0, h1, h2, h3⟩ := open_agg4 Try.underlying26 (by kernel_rfl) (by kernel_rfl) hval hd
  obtain ⟨ps, hp⟩ := els_of_trod (f := pageE) Try.underlying22 (show Try.prog.cellsOf 28 = 256 by kernel_rfl) (by omega) (fun n cs y => page_of_cells) h0
  obtain ⟨cs, hc⟩ := els_of_trod (f := writeE) Try.underlying23 (show Try.prog.cellsOf 47 = 257 by kernel_rfl) (by omega) (fun n cs y => write_of_cells) h1
  obtain ⟨bs, hb⟩ := els_of_trod (f := intE) Try.underlying24 (show Try.prog.cellsOf 3 = 1 by kernel_rfl) (by omega) (fun n cs y => int_of_cells) h2
  obtain ⟨z, hz, _⟩ := DataW.trod_bool Try.underlying4 h3
  simp only [List.cons.injEq, and_true] at hz
  subst hz
  exact ⟨⟨ps, cs, bs, z⟩, _, _, _, rfl, hp, hc, hb⟩
end
end Go.Proofs.Ytfcghkmhcfgfkaa
