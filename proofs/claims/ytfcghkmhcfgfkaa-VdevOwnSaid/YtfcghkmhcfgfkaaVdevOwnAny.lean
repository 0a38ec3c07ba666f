/- VdevOwn: what is handed in stays as it is, whatever is done with what is told. -/
import Derived.Test.YtfcghkmhcfgfkaaVdLaws
namespace Go.Proofs.Ytfcghkmhcfgfkaa
open Go.RowKit
set_option linter.unusedVariables false
set_option linter.unusedSimpArgs false
/-- What may stand at a place of a block of pages, of writes, of numbers. -/
def okAt (t : TypeId) (i : Nat) (u : Value) : Prop :=
  if t = 28 then ∃ z : BitVec 8, u = byteV z
  else if t = 47 then (if i % 257 = 0 then ∃ n : Int, u = .int .i64 n else ∃ z : BitVec 8, u = byteV z)
  else ∃ n : Int, u = .int .i64 n
theorem okAt_page (i : Nat) (z : BitVec 8) : okAt 28 i (byteV z) := by unfold okAt; rw [if_pos rfl]; exact ⟨z, rfl⟩
theorem okAt_place (j : Nat) (n : Int) : okAt 47 (j * 257) (.int .i64 n) := by unfold okAt; rw [if_neg (by decide), if_pos rfl, if_pos (Nat.mul_mod_left _ _)]; exact ⟨n, rfl⟩
theorem okAt_data (i : Nat) (h : ¬ i % 257 = 0) (z : BitVec 8) : okAt 47 i (byteV z) := by unfold okAt; rw [if_neg (by decide), if_pos rfl, if_neg h]; exact ⟨z, rfl⟩
theorem okAt_int (i : Nat) (n : Int) : okAt 3 i (.int .i64 n) := by unfold okAt; rw [if_neg (by decide), if_neg (by decide)]; exact ⟨n, rfl⟩
/-- A block whose first cells are of their kinds. -/
def Ty (t : TypeId) (b S : Nat) (W : World) : Prop := ∃ cs : Array Value, Row W b t cs ∧ ∀ i, i < S → ∃ u, cs[i]? = some u ∧ okAt t i u
theorem Ty.grows {t : TypeId} {b S : Nat} {W W' : World} (h : Ty t b S W) (hg : Grows W W') : Ty t b S W' := by
  obtain ⟨cs, h1, h2⟩ := h
  exact ⟨cs, h1.grows hg, h2⟩
theorem Ty.store {t t' : TypeId} {b S b' S' : Nat} {W : World} (h : Ty t b S W) (h' : Ty t' b' S' W) (i : Nat) (v : Value) (hi : i < S') (hv : okAt t' i v) : Ty t b S (W.setCell ⟨b', i, none⟩ v) := by
  obtain ⟨cs, h1, h3⟩ := h
  obtain ⟨cs', h1', h3'⟩ := h'
  by_cases hb : b = b'
  · subst hb
    have e : Obj.cells cs t (0, 0) = Obj.cells cs' t' (0, 0) := Option.some.inj (h1.symm.trans h1')
    injection e with e1 e2
    subst e1 e2
    refine ⟨_, h1.set i v, fun k hk => ?_⟩
    rw [Array.getElem?_setIfInBounds]
    by_cases hki : i = k
    · subst hki
      obtain ⟨u, hu, _⟩ := h3 i hk
      exact ⟨v, by rw [if_pos rfl, if_pos (Array.getElem?_eq_some_iff.1 hu).1], hv⟩
    · rw [if_neg hki]
      exact h3 k hk
  · exact ⟨cs, h1.far (by simpa using hb) v, h3⟩
theorem Ty.cell {t : TypeId} {b S : Nat} {W : World} (h : Ty t b S W) (i : Nat) (hi : i < S) : ∃ u, W.cell? ⟨b, i, none⟩ = some u ∧ okAt t i u ∧ W.frozen? ⟨b, i, none⟩ = false := by
  obtain ⟨cs, h1, h3⟩ := h
  obtain ⟨u, hu, hk⟩ := h3 i hi
  exact ⟨u, (h1.cell i).trans hu, hk, h1.frozen i⟩
theorem Ty.ne {t t' : TypeId} {b S g : Nat} {W : World} {cs : Array Value} (h : Ty t b S W) (hr : Row W g t' cs) (hne : t' ≠ t) : g ≠ b := by
  rintro rfl
  obtain ⟨cs', h1, _⟩ := h
  have e := Option.some.inj (hr.symm.trans h1)
  injection e with e1 e2
  exact hne e2
/-- A slice whose cells may be written: nothing, or a block by itself. -/
def Free (t : TypeId) (s n lo : Nat) (W : World) (v : Value) : Prop := ∃ A cap, v = .slice A n cap ∧ n ≤ cap ∧ cap ≤ maxLen ∧ (0 < n → ∃ b, A = some ⟨b, 0, none⟩ ∧ lo ≤ b ∧ Ty t b (n * s) W)
theorem Free.grows {t : TypeId} {s n lo : Nat} {W W' : World} {v : Value} (h : Free t s n lo W v) (hg : Grows W W') : Free t s n lo W' v := by
  obtain ⟨A, cap, h1, h2, h3, h4⟩ := h
  exact ⟨A, cap, h1, h2, h3, fun hn => by obtain ⟨b, e1, e2, e3⟩ := h4 hn; exact ⟨b, e1, e2, e3.grows hg⟩⟩
theorem Free.store {t t' : TypeId} {s n lo b' S' : Nat} {W : World} {u : Value} (h : Free t s n lo W u) (h' : Ty t' b' S' W) (i : Nat) (v : Value) (hi : i < S') (hv : okAt t' i v) : Free t s n lo (W.setCell ⟨b', i, none⟩ v) u := by
  obtain ⟨A, cap, h1, h2, h3, h4⟩ := h
  exact ⟨A, cap, h1, h2, h3, fun hn => by obtain ⟨b, e1, e2, e3⟩ := h4 hn; exact ⟨b, e1, e2, e3.store h' i v hi hv⟩⟩
theorem free_of {α : Type} {t : TypeId} {s : Nat} {f : α → List Value} {base lo : Nat} {W : World} {v : Value} {l : List α} (h : Own' t s f base W v l) (hlo : lo ≤ base) (hs : 0 < s) (hok : ∀ x ∈ l, ∀ r u, (f x)[r]? = some u → ∀ j, okAt t (j * s + r) u) : Free t s l.length lo W v := by
  obtain ⟨h0, hl, h⟩ := h
  rcases h with ⟨rfl, h'⟩ | ⟨g, cap, cur, rfl, hb, hh, h1, h2, h3, h4⟩
  · exact ⟨none, 0, by rw [h'], by omega, by decide, fun hn => by omega⟩
  · refine ⟨_, cap, rfl, h1, h2, fun _ => ⟨g, rfl, by omega, cur, hh, fun i hi => ?_⟩⟩
    have hq : i / s < l.length := Nat.div_lt_of_lt_mul (by rw [Nat.mul_comm]; exact hi)
    have hr : i % s < s := Nat.mod_lt _ hs
    have e : i = i / s * s + i % s := by have := Nat.div_add_mod i s; rw [Nat.mul_comm] at this; exact this.symm
    have g1 := flat_get h0 (i / s) _ (List.getElem?_eq_getElem hq) (i % s) hr
    rw [← e, ← h4, List.getElem?_take_of_lt hi, Array.getElem?_toList] at g1
    have hlt : i % s < (f l[i / s]).length := by rw [h0 _ (List.getElem_mem hq)]; exact hr
    rw [List.getElem?_eq_getElem hlt] at g1
    refine ⟨_, g1, ?_⟩
    have := hok _ (List.getElem_mem hq) (i % s) _ (List.getElem?_eq_getElem hlt) (i / s)
    rwa [← e] at this
theorem free_pages {base lo : Nat} {W : World} {v : Value} {l : List Pg} (h : Own' 28 256 pageE base W v l) (hlo : lo ≤ base) : Free 28 256 l.length lo W v :=
  free_of h hlo (Nat.succ_pos _) fun x hx r u hu j => by
    obtain ⟨z, _, rfl⟩ := List.mem_map.1 (List.mem_of_getElem? hu)
    exact okAt_page _ z
theorem free_writes {base lo : Nat} {W : World} {v : Value} {l : List (Int × Pg)} (h : Own' 47 257 writeE base W v l) (hlo : lo ≤ base) : Free 47 257 l.length lo W v :=
  free_of h hlo (Nat.succ_pos _) fun x hx r u hu j => by
    have hlen := h.1 x hx
    cases r with
    | zero =>
      have hu' : u = .int .i64 x.1 := by unfold writeE at hu; rw [List.getElem?_cons_zero] at hu; exact (Option.some.inj hu).symm
      rw [hu', Nat.add_zero]
      exact okAt_place j x.1
    | succ r =>
      have hr : r + 1 < 257 := by have := (List.getElem?_eq_some_iff.1 hu).1; omega
      unfold writeE at hu
      rw [List.getElem?_cons_succ] at hu
      obtain ⟨z, _, rfl⟩ := List.mem_map.1 (List.mem_of_getElem? hu)
      exact okAt_data _ (by omega) z
theorem free_ints {base lo : Nat} {W : World} {v : Value} {l : List Int} (h : Own' 3 1 intE base W v l) (hlo : lo ≤ base) : Free 3 1 l.length lo W v :=
  free_of h hlo (Nat.succ_pos _) fun x hx r u hu j => by
    unfold intE at hu
    rw [List.mem_singleton.1 (List.mem_of_getElem? hu)]
    exact okAt_int _ x
/-- Three disks in one block, all of whose rows may be written. -/
def AllFree (cells : Array Value) (n lo : Nat) (W : World) : Prop := ∀ k, k < 3 → ∃ pv cv bv m q, cells[k * 4]? = some pv ∧ cells[k * 4 + 1]? = some cv ∧ cells[k * 4 + 2]? = some bv ∧ m ≤ 100000 ∧ q ≤ 100000 ∧
  Free 28 256 n lo W pv ∧ Free 47 257 m lo W cv ∧ Free 3 1 q lo W bv
theorem AllFree.grows {cells : Array Value} {n lo : Nat} {W W' : World} (h : AllFree cells n lo W) (hg : Grows W W') : AllFree cells n lo W' := fun k hk => by
  obtain ⟨pv, cv, bv, m, q, h1, h2, h3, h4, h5, h6, h7, h8⟩ := h k hk
  exact ⟨pv, cv, bv, m, q, h1, h2, h3, h4, h5, h6.grows hg, h7.grows hg, h8.grows hg⟩
theorem AllFree.store {cells : Array Value} {n lo : Nat} {W : World} (h : AllFree cells n lo W) {t' : TypeId} {b' S' : Nat} (h' : Ty t' b' S' W) (i : Nat) (v : Value) (hi : i < S') (hv : okAt t' i v) : AllFree cells n lo (W.setCell ⟨b', i, none⟩ v) := fun k hk => by
  obtain ⟨pv, cv, bv, m, q, h1, h2, h3, h4, h5, h6, h7, h8⟩ := h k hk
  exact ⟨pv, cv, bv, m, q, h1, h2, h3, h4, h5, h6.store h' i v hi hv, h7.store h' i v hi hv, h8.store h' i v hi hv⟩
theorem Free.spot {t : TypeId} {s n m lo cap : Nat} {W : World} {A : Option Addr} (h : Free t s n lo W (.slice A m cap)) : n = m ∧ n ≤ cap ∧ cap ≤ maxLen ∧ (0 < n → ∃ b, A = some ⟨b, 0, none⟩ ∧ lo ≤ b ∧ Ty t b (n * s) W) := by
  obtain ⟨A', cap', h1, h2, h3, h4⟩ := h
  injection h1 with x1 x2 x3
  subst x1 x2 x3
  exact ⟨rfl, h2, h3, h4⟩
theorem AllFree.pages {cells : Array Value} {n lo k : Nat} {W : World} {v : Value} (h : AllFree cells n lo W) (hk : k < 3) (e : cells[k * 4]? = some v) : Free 28 256 n lo W v := by
  obtain ⟨pv, cv, bv, m, q, h1, h2, h3, h4, h5, h6, h7, h8⟩ := h k hk
  cases h1.symm.trans e
  exact h6
theorem AllFree.writes {cells : Array Value} {n lo k m cap : Nat} {W : World} {A : Option Addr} (h : AllFree cells n lo W) (hk : k < 3) (e : cells[k * 4 + 1]? = some (.slice A m cap)) : Free 47 257 m lo W (.slice A m cap) := by
  obtain ⟨pv, cv, bv, m', q, h1, h2, h3, h4, h5, h6, h7, h8⟩ := h k hk
  cases h2.symm.trans e
  have := h7.spot.1
  subst this
  exact h7
theorem AllFree.ints {cells : Array Value} {n lo k m cap : Nat} {W : World} {A : Option Addr} (h : AllFree cells n lo W) (hk : k < 3) (e : cells[k * 4 + 2]? = some (.slice A m cap)) : Free 3 1 m lo W (.slice A m cap) := by
  obtain ⟨pv, cv, bv, m', q, h1, h2, h3, h4, h5, h6, h7, h8⟩ := h k hk
  cases h3.symm.trans e
  have := h8.spot.1
  subst this
  exact h8
/-- What holds from round to round. -/
def OwnInv (w0 : World) (bl : Nat) (cells : Array Value) (n : Nat) (W : World) : Prop := Grows w0 W ∧ Row W bl 26 cells ∧ AllFree cells n w0.heap.size W
theorem OwnInv.grows {w0 : World} {bl n : Nat} {cells : Array Value} {W W' : World} (h : OwnInv w0 bl cells n W) (hg : Grows W W') : OwnInv w0 bl cells n W' := ⟨h.1.trans hg, h.2.1.grows hg, h.2.2.grows hg⟩
theorem OwnInv.store {w0 : World} {bl n : Nat} {cells : Array Value} {W : World} (h : OwnInv w0 bl cells n W) {t' : TypeId} {b' S' : Nat} (h' : Ty t' b' S' W) (hlo : w0.heap.size ≤ b') (hne : 26 ≠ t') (i : Nat) (v : Value) (hi : i < S') (hv : okAt t' i v) : OwnInv w0 bl cells n (W.setCell ⟨b', i, none⟩ v) :=
  ⟨Below.trans h.1 (Below.setCell (Below.refl _ _) (by exact hlo) v) , h.2.1.far (by exact h'.ne h.2.1 hne) v, h.2.2.store h' i v hi hv⟩
theorem page_byte {i : Nat} {u : Value} (h : okAt 28 i u) : ∃ z : BitVec 8, u = .int .u8 (bI z) := by unfold okAt at h; rw [if_pos rfl] at h; exact h
theorem write_byte {i : Nat} {u : Value} (h : okAt 47 i u) (hi : ¬ i % 257 = 0) : ∃ z : BitVec 8, u = .int .u8 (bI z) := by unfold okAt at h; rw [if_neg (by decide), if_pos rfl, if_neg hi] at h; exact h
theorem xor255 (z : BitVec 8) : bits .xor .u8 (bI z) 255 = bI (z ^^^ 255#8) := bits_xor_b z 255#8
attribute [local go_sem] wrap_u8_uI xor255
set_option maxRecDepth 20000 in
set_option maxHeartbeats 8000000 in
theorem vdevOwn_any (v : Value) (d : Dk) (a : Int) (p : Pg) (w : World) (hv : IsDisk w.heap.size w v d) (ba1 : -9223372036854775808 ≤ a) (ba2 : a ≤ 9223372036854775807) (hp : p.length = 256) :
    Calls Try.prog 5 #[v, .int .i64 a, .agg (pgA p)] w fun e w' => e = .returned (.bool true) ∧ Below w.heap.size w w' := by
  have HV := Lib.hid hv; have HPl := Lib.hid hp
  obtain ⟨pv, cv, bv, rfl, hpp, hcc, hbb⟩ := hv
  obtain ⟨A, cap, rfl, q1, q2, _⟩ := hpp.form
  clear hpp hcc hbb hp
  unfold maxLen at q2
  obtain ⟨D, hD⟩ : ∃ D, D = #[Value.slice A d.pages.length cap, cv, bv, .bool d.off] := ⟨_, rfl⟩
  have Ds : Hid (D.size = 4 ∧ D[0]? = some (.slice A d.pages.length cap)) := by subst hD; exact ⟨rfl, rfl⟩
  rw [← hD] at HV ⊢
  clear hD
  have L0 : Hid (Live [(w.heap.size, 26, D), (w.heap.size + 1, 28, pgA p)] [w] ((w.alloc (.cells D 26)).alloc (.cells (pgA p) 28))) := by
    have h0 : Live [] [w] w := ⟨fun i r h => by simp at h, fun i c h => by
      cases i with
      | zero => cases h; exact Below.refl _ _
      | succ i => simp at h⟩
    have h1 := (h0.grows (Grows.alloc w (.cells D 26))).push (Row.new w 26 D)
    have h2 := (h1.grows (Grows.alloc _ (.cells (pgA p) 28))).push (Row.new _ 28 (pgA p))
    rw [World.size_alloc] at h2
    exact h2
  have HGr : Hid _ := Lib.hid (great_one (L0.out.disk 0 rfl HV.out) Ds.out.1)
  have HMy : Hid (∀ W, IsDisk W.heap.size W (.agg D) d → Calls Try.prog 16 #[.agg D] W fun e w' => e = .returned (.bool (VdM.may d)) ∧ Grows W w') := fun W h => rmay_any _ d W h
  rw [World.size_alloc, World.size_alloc] at HGr
  by_cases hg : VdM.great d = true
  · rw [hg] at HGr
    clear hg
    go_enter Try.func5, Try.ntmps5
    go_wp2_with (first
      | ((with_reducible refine wpList_load_dk (o := ⟨some 17, _, _, _, _, _⟩) ?_ (.tmp 3) ?_ w.heap.size D ?_ ?_ ?_ ?_); exact rfl; exact rfl; exact rfl; exact L0.out.row 0 _ rfl; exact Ds.out.1)
      | ((with_reducible refine wpList_slice_dk (o := ⟨some 18, _, _, _, _, _⟩) ?_ (.tmp 17) ?_ D ?_ ?_ ?_); exact rfl; exact rfl; exact rfl; exact Ds.out.1)
      | (go_at_call 8; refine HGr.out.mono ?_; rintro e u1 ⟨rfl, g⟩; have Z1 : Hid (w.heap.size + 2 < u1.heap.size) := (by have := Below.size g; simp at this; unfold Hid; omega); have L1 := Lib.hid ((L0.out.grows (Grows.alloc _ _)).grows g); clear g)
      | (go_at_call 9; refine (wakes_any _).mono ?_; rintro e u3 ⟨rfl, g⟩; have LE := Lib.hid (L1.out.grows g); clear g))
    go_ret
    exact ⟨rfl, LE.out.below 0 w rfl⟩
  rw [Bool.eq_false_iff.2 hg] at HGr
  have hgp := VdM.great_parts (Bool.eq_false_iff.2 hg)
  clear hg
  by_cases hm : VdM.may d = true
  case neg =>
    rw [Bool.eq_false_iff.2 hm] at HMy; clear hm
    clear hgp
    go_enter Try.func5, Try.ntmps5
    go_wp2_with (first
      | ((with_reducible refine wpList_load_dk (o := ⟨some 17, _, _, _, _, _⟩) ?_ (.tmp 3) ?_ w.heap.size D ?_ ?_ ?_ ?_); exact rfl; exact rfl; exact rfl; exact L0.out.row 0 _ rfl; exact Ds.out.1)
      | ((with_reducible refine wpList_slice_dk (o := ⟨some 18, _, _, _, _, _⟩) ?_ (.tmp 17) ?_ D ?_ ?_ ?_); exact rfl; exact rfl; exact rfl; exact Ds.out.1)
      | (go_at_call 8; refine HGr.out.mono ?_; rintro e u1 ⟨rfl, g⟩; have Z1 : Hid (w.heap.size + 2 < u1.heap.size) := (by have := Below.size g; simp at this; unfold Hid; omega); have L1 := Lib.hid ((L0.out.grows (Grows.alloc _ _)).grows g); clear g)
      | ((with_reducible refine wpList_loadG_dk (o := ⟨some 21, _, _, _, _, _⟩) ?_ (.tmp 3) ?_ w.heap.size D ?_ ?_ ?_ ?_); exact rfl; exact rfl; exact rfl; exact L1.out.row 0 _ rfl; exact Ds.out.1)
      | (go_at_call 16; refine (HMy.out _ (L1.out.disk 0 rfl HV.out)).mono ?_; rintro e u2 ⟨rfl, g⟩; have Z2 := Lib.hid (Below.size g); have L2 := Lib.hid (L1.out.grows g); have c0 := (L2.out.cell 0 rfl 0).trans Ds.out.2; clear g)
      | (go_at_call 9; refine (wakes_any _).mono ?_; rintro e u3 ⟨rfl, g⟩; have LE := Lib.hid (L2.out.grows g); clear g))
    go_ret
    exact ⟨rfl, LE.out.below 0 w rfl⟩
  rw [hm] at HMy
  by_cases ha0 : a < 0
  case pos =>
    clear hgp hm
    go_enter Try.func5, Try.ntmps5
    go_wp2_with (first
      | ((with_reducible refine wpList_load_dk (o := ⟨some 17, _, _, _, _, _⟩) ?_ (.tmp 3) ?_ w.heap.size D ?_ ?_ ?_ ?_); exact rfl; exact rfl; exact rfl; exact L0.out.row 0 _ rfl; exact Ds.out.1)
      | ((with_reducible refine wpList_slice_dk (o := ⟨some 18, _, _, _, _, _⟩) ?_ (.tmp 17) ?_ D ?_ ?_ ?_); exact rfl; exact rfl; exact rfl; exact Ds.out.1)
      | (go_at_call 8; refine HGr.out.mono ?_; rintro e u1 ⟨rfl, g⟩; have Z1 : Hid (w.heap.size + 2 < u1.heap.size) := (by have := Below.size g; simp at this; unfold Hid; omega); have L1 := Lib.hid ((L0.out.grows (Grows.alloc _ _)).grows g); clear g)
      | ((with_reducible refine wpList_loadG_dk (o := ⟨some 21, _, _, _, _, _⟩) ?_ (.tmp 3) ?_ w.heap.size D ?_ ?_ ?_ ?_); exact rfl; exact rfl; exact rfl; exact L1.out.row 0 _ rfl; exact Ds.out.1)
      | (go_at_call 16; refine (HMy.out _ (L1.out.disk 0 rfl HV.out)).mono ?_; rintro e u2 ⟨rfl, g⟩; have Z2 := Lib.hid (Below.size g); have L2 := Lib.hid (L1.out.grows g); have c0 := (L2.out.cell 0 rfl 0).trans Ds.out.2; clear g)
      | (go_at_call 9; refine (wakes_any _).mono ?_; rintro e u3 ⟨rfl, g⟩; have LE := Lib.hid (L2.out.grows g); clear g))
    go_ret
    exact ⟨rfl, LE.out.below 0 w rfl⟩
  by_cases han : (d.pages.length : Int) ≤ a
  case pos =>
    clear hgp hm
    go_enter Try.func5, Try.ntmps5
    go_wp2_with (first
      | ((with_reducible refine wpList_load_dk (o := ⟨some 17, _, _, _, _, _⟩) ?_ (.tmp 3) ?_ w.heap.size D ?_ ?_ ?_ ?_); exact rfl; exact rfl; exact rfl; exact L0.out.row 0 _ rfl; exact Ds.out.1)
      | ((with_reducible refine wpList_slice_dk (o := ⟨some 18, _, _, _, _, _⟩) ?_ (.tmp 17) ?_ D ?_ ?_ ?_); exact rfl; exact rfl; exact rfl; exact Ds.out.1)
      | (go_at_call 8; refine HGr.out.mono ?_; rintro e u1 ⟨rfl, g⟩; have Z1 : Hid (w.heap.size + 2 < u1.heap.size) := (by have := Below.size g; simp at this; unfold Hid; omega); have L1 := Lib.hid ((L0.out.grows (Grows.alloc _ _)).grows g); clear g)
      | ((with_reducible refine wpList_loadG_dk (o := ⟨some 21, _, _, _, _, _⟩) ?_ (.tmp 3) ?_ w.heap.size D ?_ ?_ ?_ ?_); exact rfl; exact rfl; exact rfl; exact L1.out.row 0 _ rfl; exact Ds.out.1)
      | (go_at_call 16; refine (HMy.out _ (L1.out.disk 0 rfl HV.out)).mono ?_; rintro e u2 ⟨rfl, g⟩; have Z2 := Lib.hid (Below.size g); have L2 := Lib.hid (L1.out.grows g); have c0 := (L2.out.cell 0 rfl 0).trans Ds.out.2; clear g)
      | (go_at_call 9; refine (wakes_any _).mono ?_; rintro e u3 ⟨rfl, g⟩; have LE := Lib.hid (L2.out.grows g); clear g))
    go_ret
    exact ⟨rfl, LE.out.below 0 w rfl⟩
  have hmp := VdM.may_parts hm
  obtain ⟨k0, rfl⟩ : ∃ k0 : Nat, a = k0 := ⟨a.toNat, by omega⟩
  have hk1 : ¬ (k0 : Int) < 0 := by omega
  have hk0n : k0 < d.pages.length := by omega
  have hk0i : (k0 : Int) < d.pages.length := by omega
  obtain ⟨d1, hd1⟩ : ∃ d1, d1 = VdM.writeD d k0 p := ⟨_, rfl⟩
  obtain ⟨d2, hd2⟩ : ∃ d2, d2 = VdM.flushD d1 := ⟨_, rfl⟩
  have n1 : d1.pages.length = d.pages.length ∧ d1.cache.length ≤ 61 ∧ d1.bad.length ≤ 300 := by
    rw [hd1]
    unfold VdM.writeD
    split
    · refine ⟨rfl, ?_, ?_⟩
      · simp only [List.length_append, List.length_singleton]; omega
      · exact Nat.le_trans hgp.2.2 (by omega)
    · exact ⟨rfl, by omega, by omega⟩
  have n2 : d2.pages.length = d.pages.length ∧ d2.cache.length ≤ 61 ∧ d2.bad.length ≤ 300 := by
    rw [hd2]
    unfold VdM.flushD
    split
    · exact ⟨(VdM.flushP_length d1).trans n1.1, Nat.zero_le _, Nat.le_trans (List.length_filter_le _ _) n1.2.2⟩
    · exact n1
  have W1 := Lib.hid (fun W (v : Value) (h : IsDisk (World.heap W).size W v d) => vwrite_any v d k0 p W HPl.out h (by have := hgp.1; omega) (by have := hgp.2.1; omega) (by have := hgp.2.2; omega))
  rw [← hd1] at W1
  have F1 := Lib.hid (fun W (v : Value) (h : IsDisk (World.heap W).size W v d1) => vflush_any v d1 W h (by rw [n1.1]; have := hgp.1; omega) (by have := n1.2.1; omega) (by have := n1.2.2; omega))
  rw [← hd2] at F1
  have CP := Lib.hid (fun W (v : Value) (h : IsDisk (World.heap W).size W v d) => rcopy_any v d W h (by have := hgp.1; omega) (by have := hgp.2.1; omega) (by have := hgp.2.2; omega))
  have CV := Lib.hid (fun W (v : Value) (h : IsDisk (World.heap W).size W v d) => vcopy_any v d W h (by have := hgp.1; omega) (by have := hgp.2.1; omega) (by have := hgp.2.2; omega))
  have SD : Hid (∀ (W : World) (D1 D2 : Array Value), IsDisk W.heap.size W (.agg D1) d → IsDisk W.heap.size W (.agg D2) d → Calls Try.prog 14 #[.agg D1, .agg D2] W fun e w' => e = .returned (.bool true) ∧ Grows W w') := fun W D1 D2 h1 h2 => by
    have := same_any h1 h2
    rwa [decide_eq_true rfl] at this
  have HN1 := Lib.hid n1; have HN2 := Lib.hid n2; have HGP := Lib.hid hgp; have HMP := Lib.hid hmp
  clear n1 n2 hgp hmp hm ba1 ba2 hd1 hd2 ha0
  go_enter Try.func5, Try.ntmps5
  go_wp2_with (first
    | ((with_reducible refine wpList_load_dk (o := ⟨some 17, _, _, _, _, _⟩) ?_ (.tmp 3) ?_ w.heap.size D ?_ ?_ ?_ ?_); exact rfl; exact rfl; exact rfl; exact L0.out.row 0 _ rfl; exact Ds.out.1)
    | ((with_reducible refine wpList_slice_dk (o := ⟨some 18, _, _, _, _, _⟩) ?_ (.tmp 17) ?_ D ?_ ?_ ?_); exact rfl; exact rfl; exact rfl; exact Ds.out.1)
    | (go_at_call 8; refine HGr.out.mono ?_; rintro e u1 ⟨rfl, g⟩; have Z1 : Hid (w.heap.size + 2 < u1.heap.size) := (by have := Below.size g; simp at this; unfold Hid; omega); have L1 := Lib.hid ((L0.out.grows (Grows.alloc _ _)).grows g); clear g)
    | ((with_reducible refine wpList_loadG_dk (o := ⟨some 21, _, _, _, _, _⟩) ?_ (.tmp 3) ?_ w.heap.size D ?_ ?_ ?_ ?_); exact rfl; exact rfl; exact rfl; exact L1.out.row 0 _ rfl; exact Ds.out.1)
    | (go_at_call 16; refine (HMy.out _ (L1.out.disk 0 rfl HV.out)).mono ?_; rintro e u2 ⟨rfl, g⟩; have Z2 := Lib.hid (Below.size g); have L2 := Lib.hid (L1.out.grows g); have c0 := (L2.out.cell 0 rfl 0).trans Ds.out.2; clear g)
    | ((with_reducible refine wpList_load_dk (o := ⟨some 37, _, _, _, _, _⟩) ?_ (.tmp 3) ?_ w.heap.size D ?_ ?_ ?_ ?_); exact rfl; exact rfl; exact rfl; exact L2.out.row 0 _ rfl; exact Ds.out.1)
    | (go_at_call 27; (with_reducible refine (CP.out _ _ (L2.out.disk 0 rfl HV.out)).mono ?_); rintro e u3 ⟨r, rfl, hr, g⟩; obtain ⟨pvC, cvC, bvC, rfl, oc1, oc2, oc3⟩ := hr; have hoc : OwnDisk u2.heap.size u3 (.agg #[pvC, cvC, bvC, .bool d.off]) d := ⟨_, _, _, rfl, oc1, oc2, oc3⟩; have H4C := Lib.hid (dk_one hoc.disk); clear oc1 oc2 oc3; have Z3 := Lib.hid (Below.size g); have L3 := Lib.hid (L2.out.grows g); have OC_3 := Lib.hid hoc; clear g)
    | ((with_reducible refine wpList_store_dk ?_ (.tmp 7) (.tmp 38) ?_ u3.heap.size #[pvC, cvC, bvC, .bool d.off] #[.slice none 0 0, .slice none 0 0, .slice none 0 0, .bool false] ?_ ?_ ?_ ?_ ?_ ?_ ?_); exact rfl; exact rfl; exact rfl; exact rfl; exact H4C.out.1; exact rfl; exact H4C.out.2; exact Row.new u3 _ _; intro u4 hp hg; have g := grown_fresh rfl hg; have Z4 := Lib.hid (Row.lt hp); have L4 := Lib.hid (L3.out.grows g); have OC_4 := Lib.hid (OC_3.out.grows g); have L5 := Lib.hid (L4.out.push hp); have OC_5 := OC_4; have HDC := Lib.hid OC_5.out.disk; have L6 := Lib.hid L5.out.mark; clear hp hg g)
    | ((with_reducible refine wpList_load_dk (o := ⟨some 40, _, _, _, _, _⟩) ?_ (.tmp 3) ?_ w.heap.size D ?_ ?_ ?_ ?_); exact rfl; exact rfl; exact rfl; exact L6.out.row 0 _ rfl; exact Ds.out.1)
    | ((with_reducible refine wpList_load_pgrow (o := ⟨some 42, _, _, _, _, _⟩) ?_ (.tmp 5) ?_ (w.heap.size + 1) p ?_ ?_ ?_ ?_); exact rfl; exact rfl; exact rfl; exact HPl.out; exact L6.out.row 1 _ rfl)
    | (go_at_call 22; (with_reducible refine (W1.out _ _ (L6.out.disk 0 rfl HV.out)).mono ?_); rintro e u5 ⟨r, rfl, hr, g⟩; obtain ⟨pvE, cvE, bvE, rfl, oa1, oa2, oa3⟩ := hr; have hoE : OwnDisk u4.heap.size u5 (.agg #[pvE, cvE, bvE, .bool d1.off]) d1 := ⟨_, _, _, rfl, oa1, oa2, oa3⟩; have H4E := Lib.hid (dk_one hoE.disk); clear oa1 oa2 oa3; have Z5 := Lib.hid (Below.size g); have L7 := Lib.hid (L6.out.grows g); have OE_7 := Lib.hid hoE; clear g)
    | ((with_reducible refine wpList_store_dk ?_ (.tmp 8) (.tmp 44) ?_ u5.heap.size #[pvE, cvE, bvE, .bool d1.off] #[.slice none 0 0, .slice none 0 0, .slice none 0 0, .bool false] ?_ ?_ ?_ ?_ ?_ ?_ ?_); exact rfl; exact rfl; exact rfl; exact rfl; exact H4E.out.1; exact rfl; exact H4E.out.2; exact Row.new u5 _ _; intro u6 hp hg; have g := grown_fresh rfl hg; have Z6 := Lib.hid (Row.lt hp); have L8 := Lib.hid (L7.out.grows g); have OE_8 := Lib.hid (OE_7.out.grows g); have L9 := Lib.hid (L8.out.push hp); have OE_9 := OE_8; clear hp hg g)
    | ((with_reducible refine wpList_load_dk (o := ⟨some 47, _, _, _, _, _⟩) ?_ (.tmp 8) ?_ u5.heap.size #[pvE, cvE, bvE, .bool d1.off] ?_ ?_ ?_ ?_); exact rfl; exact rfl; exact rfl; exact L9.out.row 3 _ rfl; exact rfl)
    | (go_at_call 24; (with_reducible refine (F1.out _ _ OE_9.out.disk).mono ?_); rintro e u7 ⟨r, rfl, hr, g⟩; obtain ⟨pvF, cvF, bvF, rfl, oa1, oa2, oa3⟩ := hr; have hoF : OwnDisk u6.heap.size u7 (.agg #[pvF, cvF, bvF, .bool d2.off]) d2 := ⟨_, _, _, rfl, oa1, oa2, oa3⟩; have H4F := Lib.hid (dk_one hoF.disk); clear oa1 oa2 oa3; have Z7 := Lib.hid (Below.size g); have L10 := Lib.hid (L9.out.grows g); have OE_10 := Lib.hid (OE_9.out.grows g); have OF_10 := Lib.hid hoF; clear g)
    | ((with_reducible refine wpList_store_dk ?_ (.tmp 10) (.tmp 49) ?_ u7.heap.size #[pvF, cvF, bvF, .bool d2.off] #[.slice none 0 0, .slice none 0 0, .slice none 0 0, .bool false] ?_ ?_ ?_ ?_ ?_ ?_ ?_); exact rfl; exact rfl; exact rfl; exact rfl; exact H4F.out.1; exact rfl; exact H4F.out.2; exact Row.new u7 _ _; intro u8 hp hg; have g := grown_fresh rfl hg; have Z8 := Lib.hid (Row.lt hp); have L11 := Lib.hid (L10.out.grows g); have OE_11 := Lib.hid (OE_10.out.grows g); have OF_11 := Lib.hid (OF_10.out.grows g); have L12 := Lib.hid (L11.out.push hp); have OE_12 := OE_11; have OF_12 := OF_11; clear hp hg g)
    | ((with_reducible refine wpList_load_dk (o := ⟨some 51, _, _, _, _, _⟩) ?_ (.tmp 3) ?_ w.heap.size D ?_ ?_ ?_ ?_); exact rfl; exact rfl; exact rfl; exact L12.out.row 0 _ rfl; exact Ds.out.1)
    | (go_at_call 26; (with_reducible refine (CV.out _ _ (L12.out.disk 0 rfl HV.out)).mono ?_); rintro e u9 ⟨r, rfl, hr, g⟩; obtain ⟨pvG, cvG, bvG, rfl, oa1, oa2, oa3⟩ := hr; have hoG : OwnDisk u8.heap.size u9 (.agg #[pvG, cvG, bvG, .bool d.off]) d := ⟨_, _, _, rfl, oa1, oa2, oa3⟩; have H4G := Lib.hid (dk_one hoG.disk); clear oa1 oa2 oa3; have Z9 := Lib.hid (Below.size g); have L13 := Lib.hid (L12.out.grows g); have OE_13 := Lib.hid (OE_12.out.grows g); have OF_13 := Lib.hid (OF_12.out.grows g); have OG_13 := Lib.hid hoG; clear g)
    | ((with_reducible refine wpList_store_dk ?_ (.tmp 12) (.tmp 52) ?_ u9.heap.size #[pvG, cvG, bvG, .bool d.off] #[.slice none 0 0, .slice none 0 0, .slice none 0 0, .bool false] ?_ ?_ ?_ ?_ ?_ ?_ ?_); exact rfl; exact rfl; exact rfl; exact rfl; exact H4G.out.1; exact rfl; exact H4G.out.2; exact Row.new u9 _ _; intro u10 hp hg; have g := grown_fresh rfl hg; have Z10 := Lib.hid (Row.lt hp); have L14 := Lib.hid (L13.out.grows g); have OE_14 := Lib.hid (OE_13.out.grows g); have OF_14 := Lib.hid (OF_13.out.grows g); have OG_14 := Lib.hid (OG_13.out.grows g); have L15 := Lib.hid (L14.out.push hp); have OE_15 := OE_14; have OF_15 := OF_14; have OG_15 := OG_14; clear hp hg g)
    | ((with_reducible refine wpList_load_dk (o := ⟨some 53, _, _, _, _, _⟩) ?_ (.tmp 8) ?_ u5.heap.size #[pvE, cvE, bvE, .bool d1.off] ?_ ?_ ?_ ?_); exact rfl; exact rfl; exact rfl; exact L15.out.row 3 _ rfl; exact rfl)
    | ((with_reducible refine wpList_load_dk (o := ⟨some 54, _, _, _, _, _⟩) ?_ (.tmp 10) ?_ u7.heap.size #[pvF, cvF, bvF, .bool d2.off] ?_ ?_ ?_ ?_); exact rfl; exact rfl; exact rfl; exact L15.out.row 4 _ rfl; exact rfl)
    | ((with_reducible refine wpList_load_dk (o := ⟨some 55, _, _, _, _, _⟩) ?_ (.tmp 12) ?_ u9.heap.size #[pvG, cvG, bvG, .bool d.off] ?_ ?_ ?_ ?_); exact rfl; exact rfl; exact rfl; exact L15.out.row 5 _ rfl; exact rfl))
  clear c0
  obtain ⟨cells, hcl⟩ : ∃ cells : Array Value, cells = #[pvE, cvE, bvE, .bool d1.off, pvF, cvF, bvF, .bool d2.off, pvG, cvG, bvG, .bool d.off] := ⟨_, rfl⟩
  rw [← hcl]
  have GB := Lib.hid (Grows.alloc u10 (.cells cells 26))
  have RB := Lib.hid (Row.new u10 26 cells)
  have GM : Hid (Grows u4 u10) := L15.out.below 1 u4 rfl
  have AF : Hid (AllFree cells d.pages.length u4.heap.size (u10.alloc (.cells cells 26))) := by
    rw [hcl]
    have hE := OE_15.out.grows GB.out
    have hF := OF_15.out.grows GB.out
    have hG := OG_15.out.grows GB.out
    rw [hcl] at hE hF hG
    obtain ⟨e1, e2, e3, e4, e5, e6, e7⟩ := hE
    obtain ⟨f1, f2, f3, f4, f5, f6, f7⟩ := hF
    obtain ⟨g1, g2, g3, g4, g5, g6, g7⟩ := hG
    simp only [Value.agg.injEq, Array.mk.injEq, List.cons.injEq, and_true] at e4 f4 g4
    obtain ⟨rfl, rfl, rfl⟩ := e4
    obtain ⟨rfl, rfl, rfl⟩ := f4
    obtain ⟨rfl, rfl, rfl⟩ := g4
    have zz : u4.heap.size ≤ u4.heap.size ∧ u4.heap.size ≤ u6.heap.size ∧ u4.heap.size ≤ u8.heap.size := by have z1 := Z1.out; have z2 := Z2.out; have z3 := Z3.out; have z4 := Z4.out; have z5 := Z5.out; have z6 := Z6.out; have z7 := Z7.out; have z8 := Z8.out; have z9 := Z9.out; have z10 := Z10.out; omega
    intro k hk
    match k, hk with
    | 0, _ => exact ⟨_, _, _, d1.cache.length, d1.bad.length, rfl, rfl, rfl, by have := HN1.out.2.1; omega, by have := HN1.out.2.2; omega, by have := free_pages e5 zz.1; rwa [HN1.out.1] at this, free_writes e6 zz.1, free_ints e7 zz.1⟩
    | 1, _ => exact ⟨_, _, _, d2.cache.length, d2.bad.length, rfl, rfl, rfl, by have := HN2.out.2.1; omega, by have := HN2.out.2.2; omega, by have := free_pages f5 zz.2.1; rwa [HN2.out.1] at this, free_writes f6 zz.2.1, free_ints f7 zz.2.1⟩
    | 2, _ => exact ⟨_, _, _, d.cache.length, d.bad.length, rfl, rfl, rfl, by have := HGP.out.2.1; omega, by have := HGP.out.2.2; omega, free_pages g5 zz.2.2, free_writes g6 zz.2.2, free_ints g7 zz.2.2⟩
    | k + 3, h => omega
  have GM2 := Lib.hid (GM.out.trans GB.out)
  have HLM := Lib.hid L6.out
  clear hcl OE_15 OF_15 OG_15
  generalize hWB : u10.alloc (.cells cells 26) = wB at *
  generalize hbl : u10.heap.size = bl at *
  have HI : Hid (OwnInv u4 bl cells d.pages.length wB) := ⟨GM2.out, RB.out, AF.out⟩
  have HRD := Lib.hid (HLM.out.row 0 _ rfl)
  have HRC := Lib.hid (HLM.out.row 2 _ rfl)
  have HWW := Lib.hid (HLM.out.below 0 w rfl)
  have hn1 : 0 < d.pages.length := by omega
  clear GM GM2 RB AF GB hWB hbl
  go_loopw [14] (fun i wr => ∃ k : Nat, k ≤ 3 ∧ i = .int .i64 k ∧ OwnInv u4 bl cells d.pages.length wr) (fun i _ => 3 - (intOf i).toNat)
  case atStart => exact ⟨0, by omega, rfl, HI.out⟩
  case round =>
    obtain ⟨k, hk3, rfl, hI⟩ := hrel
    have HI := Lib.hid hI
    clear hI
    by_cases hlt : k < 3
    · obtain ⟨pv, cv, bv, m, q, e0, e1, e2, hm, hq, fp, fc, fb⟩ := HI.out.2.2 k hlt
      obtain ⟨A, cap, rfl, l1, l2, l3⟩ := fp
      obtain ⟨G, rfl, hG, tyG⟩ := l3 hn1
      obtain ⟨C, cc, rfl, m1, m2, _⟩ := fc
      obtain ⟨B, cb, rfl, b1, b2, _⟩ := fb
      unfold maxLen at l2 m2 b2
      have hklt : (k : Int) < 3 := by omega
      have E0 := Lib.hid e0; have E1 := Lib.hid e1; have E2 := Lib.hid e2; have TG := Lib.hid tyG
      have a0 := (HI.out.2.1.cell (k * 4)).trans e0
      have d0 := ((Row.grows HRD.out HI.out.1).cell 0).trans Ds.out.2
      obtain ⟨u0, hu0, ho0, hf0⟩ := tyG.cell (k0 * 256) (by omega)
      obtain ⟨zb, rfl⟩ := page_byte ho0
      clear e0 e1 e2 tyG l3 ho0 hf0
      go_wp2
      refine wp_region_free 10 150 (by kernel_rfl) (by kernel_rfl) rfl (by kernel_rfl) ?_; simp only [List.take_succ_cons, List.take_zero, List.drop_succ_cons, List.drop_zero]
      repeat (apply free_pure rfl; focus (intro vs w hg hd; have q0 := hg.cell a0; have q1 := hg.cell d0; (try simp [Region.binds] at hd); simp only [execOp, resolve, Option.map_some, Option.map_none, List.map_toArray, List.map_cons, List.map_nil, rho_const, rho_func]; (repeat (conv in rho _ _ _ _ (Operand.tmp _) => whnf)); (try simp only [hd]); go_simp; (repeat (conv in rho _ _ _ _ (Operand.tmp _) => whnf)); (try simp only [hd]); rfl))
      intro vs w' hg hv; have h9 := hv 9 (by omega); simp at h9; simp only [putL, dstAt, List.range, List.range.loop, if_true, List.getElem?_toArray, List.getElem?_cons_zero, List.getElem?_cons_succ, Option.bind_some, Act.put, List.setIfInBounds_toArray, List.set_cons_zero, List.set_cons_succ]
      rw [h9]
      have HI := Lib.hid (HI.out.grows (Grows.of_drew hg))
      have a0 := (HI.out.2.1.cell (k * 4)).trans E0.out
      have hu0 : w'.cell? ⟨G, k0 * 256, none⟩ = _ := ((Grows.of_drew hg).cell hu0)
      have TG := Lib.hid (TG.out.grows (Grows.of_drew hg))
      clear hv h9 hg d0
      generalize vs 0 = z0, vs 1 = z1, vs 2 = z2, vs 3 = z3, vs 4 = z4, vs 5 = z5, vs 6 = z6, vs 7 = z7, vs 8 = z8, vs 9 = z9 at *
      generalize w' = wr at *
      go_wp2
      refine wp_region_free 18 150 (by kernel_rfl) (by kernel_rfl) rfl (by kernel_rfl) ?_; simp only [List.take_succ_cons, List.take_zero, List.drop_succ_cons, List.drop_zero]
      repeat (apply free_pure rfl; focus (intro vs w hg hd; have q0 := hg.cell a0; have q1 := hg.cell hu0; (try simp [Region.binds] at hd); simp only [execOp, resolve, Option.map_some, Option.map_none, List.map_toArray, List.map_cons, List.map_nil, rho_const, rho_func]; (repeat (conv in rho _ _ _ _ (Operand.tmp _) => whnf)); (try simp only [hd]); go_simp; (repeat (conv in rho _ _ _ _ (Operand.tmp _) => whnf)); (try simp only [hd]); rfl))
      intro vs w' hg hv; have h15 := hv 15 (by omega); simp at h15; have h17 := hv 17 (by omega); simp at h17; simp only [putL, dstAt, List.range, List.range.loop, if_true, List.getElem?_toArray, List.getElem?_cons_zero, List.getElem?_cons_succ, Option.bind_some, Act.put, List.setIfInBounds_toArray, List.set_cons_zero, List.set_cons_succ]
      rw [h15, h17]
      have HI := Lib.hid (HI.out.grows (Grows.of_drew hg))
      have TG := Lib.hid (TG.out.grows (Grows.of_drew hg))
      obtain ⟨u1, hu1, _, hf1⟩ := TG.out.cell (k0 * 256) (by omega)
      have HI := Lib.hid (HI.out.store TG.out hG (by decide) (k0 * 256) (.int .u8 (bI (zb ^^^ 255#8))) (by omega) (okAt_page _ _))
      clear hv h15 h17 hg a0 hu0
      generalize vs 0 = z0, vs 1 = z1, vs 2 = z2, vs 3 = z3, vs 4 = z4, vs 5 = z5, vs 6 = z6, vs 7 = z7, vs 8 = z8, vs 9 = z9, vs 10 = z10, vs 11 = z11, vs 12 = z12, vs 13 = z13, vs 14 = z14, vs 15 = z15, vs 16 = z16, vs 17 = z17 at *
      go_wp2
      clear hu1 hf1 TG
      generalize w'.setCell ⟨G, k0 * 256, none⟩ (.int .u8 (bI (zb ^^^ 255#8))) = wP at *
      go_loopw [15] (fun j wr => ∃ jj : Nat, jj ≤ m ∧ j = .int .i64 jj ∧ OwnInv u4 bl cells d.pages.length wr) (fun j _ => m - (intOf j).toNat)
      case atStart => exact ⟨0, Nat.zero_le _, rfl, HI.out⟩
      case round =>
        obtain ⟨j, hj, rfl, hI⟩ := hrel
        have HI := Lib.hid hI
        clear hI
        by_cases hjm : j < m
        · have hji : (j : Int) < m := by omega
          obtain ⟨_, _, _, x4⟩ := (HI.out.2.2.writes hlt E1.out).spot
          obtain ⟨gC, rfl, hgC, tyC⟩ := x4 (by omega)
          have TC := Lib.hid tyC
          clear x4 tyC
          have a1 := (HI.out.2.1.cell (k * 4 + 1)).trans E1.out
          obtain ⟨u2, hu2, _, hf2⟩ := TC.out.cell (j * 257) (by omega)
          have HI2 := Lib.hid (HI.out.store TC.out hgC (by decide) (j * 257) (.int .i64 0) (by omega) (okAt_place j 0))
          have TC2 := Lib.hid (TC.out.store TC.out (j * 257) (.int .i64 0) (by omega) (okAt_place j 0))
          go_wp2
          clear a1 hu2 hf2 HI TC
          generalize wr.setCell ⟨gC, j * 257, none⟩ (.int .i64 0) = wS at *
          have a1 := (HI2.out.2.1.cell (k * 4 + 1)).trans E1.out
          obtain ⟨u3, hu3, ho3, hf3⟩ := TC2.out.cell (j * 257 + 1 + 3) (by omega)
          obtain ⟨zc, rfl⟩ := write_byte ho3 (by omega)
          clear ho3 hf3
          refine wp_region_free 20 150 (by kernel_rfl) (by kernel_rfl) rfl (by kernel_rfl) ?_; simp only [List.take_succ_cons, List.take_zero, List.drop_succ_cons, List.drop_zero]
          repeat (apply free_pure rfl; focus (intro vs w hg hd; have q0 := hg.cell a1; have q1 := hg.cell hu3; (try simp [Region.binds] at hd); simp only [execOp, resolve, Option.map_some, Option.map_none, List.map_toArray, List.map_cons, List.map_nil, rho_const, rho_func]; (repeat (conv in rho _ _ _ _ (Operand.tmp _) => whnf)); (try simp only [hd]); go_simp; (repeat (conv in rho _ _ _ _ (Operand.tmp _) => whnf)); (try simp only [hd]); rfl))
          intro vs w' hg hv; have h16 := hv 16 (by omega); simp at h16; have h19 := hv 19 (by omega); simp at h19; simp only [putL, dstAt, List.range, List.range.loop, if_true, List.getElem?_toArray, List.getElem?_cons_zero, List.getElem?_cons_succ, Option.bind_some, Act.put, List.setIfInBounds_toArray, List.set_cons_zero, List.set_cons_succ]
          rw [h16, h19]
          have HI3 := Lib.hid (HI2.out.grows (Grows.of_drew hg))
          have TC3 := Lib.hid (TC2.out.grows (Grows.of_drew hg))
          obtain ⟨u4, hu4, _, hf4⟩ := TC3.out.cell (j * 257 + 1 + 3) (by omega)
          have HI4 := Lib.hid (HI3.out.store TC3.out hgC (by decide) (j * 257 + 1 + 3) (.int .u8 (bI (zc ^^^ 255#8))) (by omega) (okAt_data _ (by omega) _))
          clear hv h16 h19 hg a1 hu3 HI2 TC2 HI3 TC3
          generalize vs 0 = z0, vs 1 = z1, vs 2 = z2, vs 3 = z3, vs 4 = z4, vs 5 = z5, vs 6 = z6, vs 7 = z7, vs 8 = z8, vs 9 = z9, vs 10 = z10, vs 11 = z11, vs 12 = z12, vs 13 = z13, vs 14 = z14, vs 15 = z15, vs 16 = z16, vs 17 = z17, vs 18 = z18, vs 19 = z19 at *
          go_wp2
          go_roundw
          case rel => exact ⟨j + 1, by omega, by go_num, HI4.out⟩
          case measure => simp [intOf]; omega
        · have hji : ¬ (j : Int) < m := by omega
          have a1 := (HI.out.2.1.cell (k * 4 + 1)).trans E1.out
          go_wp2
          clear a1
          go_loopw [16] (fun j wr => ∃ jj : Nat, jj ≤ q ∧ j = .int .i64 jj ∧ OwnInv u4 bl cells d.pages.length wr) (fun j _ => q - (intOf j).toNat)
          case atStart => exact ⟨0, Nat.zero_le _, rfl, HI.out⟩
          case round =>
            obtain ⟨jb, hjb, rfl, hI⟩ := hrel
            have HI := Lib.hid hI
            clear hI
            by_cases hjq : jb < q
            · have hjqi : (jb : Int) < q := by omega
              obtain ⟨_, _, _, x4⟩ := (HI.out.2.2.ints hlt E2.out).spot
              obtain ⟨gB, rfl, hgB, tyB⟩ := x4 (by omega)
              have TB := Lib.hid tyB
              clear x4 tyB
              have a2 := (HI.out.2.1.cell (k * 4 + 2)).trans E2.out
              obtain ⟨u2, hu2, _, hf2⟩ := TB.out.cell jb (by omega)
              have HI2 := Lib.hid (HI.out.store TB.out hgB (by decide) jb (.int .i64 (-1)) (by omega) (okAt_int jb (-1)))
              go_wp2
              go_roundw
              case rel => exact ⟨jb + 1, by omega, by go_num, HI2.out⟩
              case measure => simp [intOf]; omega
            · have hjqi : ¬ (jb : Int) < q := by omega
              have a2 := (HI.out.2.1.cell (k * 4 + 2)).trans E2.out
              go_wp2
              go_roundw
              case rel => exact ⟨k + 1, by omega, by go_num, HI.out⟩
              case measure => simp [intOf]; omega
    · have hklt : ¬ (k : Int) < 3 := by omega
      have L300 := Lib.hid (HLM.out.grows HI.out.1)
      clear HI HRD HRC
      go_wp2_with (first
        | ((with_reducible refine wpList_load_dk (o := ⟨some 144, _, _, _, _, _⟩) ?_ (.tmp 3) ?_ w.heap.size D ?_ ?_ ?_ ?_); exact rfl; exact rfl; exact rfl; exact L300.out.row 0 _ rfl; exact Ds.out.1)
        | ((with_reducible refine wpList_load_dk (o := ⟨some 145, _, _, _, _, _⟩) ?_ (.tmp 7) ?_ u3.heap.size #[pvC, cvC, bvC, .bool d.off] ?_ ?_ ?_ ?_); exact rfl; exact rfl; exact rfl; exact L300.out.row 2 _ rfl; exact rfl)
        | (go_at_call 14; (with_reducible refine (SD.out _ _ _ (L300.out.disk 0 rfl HV.out) (L300.out.disk 1 rfl HDC.out)).mono ?_); rintro e u301 ⟨rfl, g⟩; have Z301 := Lib.hid (Below.size g); have L301 := Lib.hid (L300.out.grows g); clear g)
        | (go_at_call 9; (with_reducible refine (wakes_any _).mono ?_); rintro e u302 ⟨rfl, g⟩; have Z302 := Lib.hid (Below.size g); have L302 := Lib.hid (L301.out.grows g); clear g))
      go_ret
      exact ⟨rfl, L302.out.below 0 w rfl⟩
end Go.Proofs.Ytfcghkmhcfgfkaa
