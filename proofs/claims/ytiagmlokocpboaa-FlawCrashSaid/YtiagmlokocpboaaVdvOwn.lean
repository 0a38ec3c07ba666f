/- VdvOwn -/
import Derived.Test.YtiagmlokocpboaaVdCopy
import Derived.Lib.AppendZerosOnto
import Derived.Shelf.Spec.SlicesGrow
/- slices.Grow from nil; vdev.own: a list, and more behind it, in memory of its own. -/
namespace Go.Proofs.Ytiagmlokocpboaa
open Go.RowKit
set_option linter.unusedVariables false
set_option linter.unusedSimpArgs false
theorem grown_room {w : World} {n : Nat} {e : TypeId} (h : n ≤ 1000000) : grownCap w n 0 e ≤ maxLen := by
  have := grownCap_le_maxLen w n 0 e (by unfold maxLen; omega)
  exact this
section
variable {α : Type} {s : Nat} {f : α → List Value}
/-- A fresh row of noughts of which nothing is in the slice. -/
theorem own_fresh {e : TypeId} {base : Nat} {w w' : World} {cs : Array Value} {G : Nat} (hb : base ≤ w.heap.size) (hw : w' = w.drew.alloc (.cells cs e)) (h1 : G ≤ maxLen) (h2 : cs.size = G * s) :
    Own' (α := α) e s f base w' (.slice (some ⟨w.heap.size, 0, none⟩) 0 G) [] := by
  subst hw
  refine ⟨fun _ h => by simp at h, by simp, .inr ⟨w.heap.size, G, cs, rfl, hb, Row.new w.drew e cs, Nat.zero_le _, h1, h2, by simp⟩⟩
end
theorem own_low {α : Type} {e : TypeId} {s : Nat} {f : α → List Value} {base : Nat} {w : World} {v : Value} {l : List α} (h : Own' e s f base w v l) : ∀ k, v.ownBlock = some k → base ≤ k := fun k hk => (World.ownsRow.lt h.2 k hk).1

set_option maxRecDepth 20000 in
set_option maxHeartbeats 2000000 in
/-- slices.Grow from nil, at api.Page. -/
theorem grow_page (n : Nat) (w : World) (hn : n ≤ 1000000) : Calls Try.prog 54 #[.slice none 0 0, .int .i64 n] w fun e w' => ∃ r, e = .returned r ∧ Own' (α := Pg) 40 256 pageE w.heap.size w' r [] ∧ Grows w w' := by
  obtain ⟨i0, z, hi, hz0, hz1, hz2, hz3⟩ := (elT_page).info
  have w1 : IntKind.i64.wrap ((0 : Int) - 0) = 0 := rfl
  have w2 : IntKind.i64.wrap ((n : Int) - 0) = (n : Int) := by rw [Int.sub_zero]; exact IntWalk.i64_in _ (by omega)
  have w3 : IntKind.i64.wrap (n : Int) = (n : Int) := IntWalk.i64_in _ (by omega)
  by_cases h0 : n = 0
  · subst h0
    go_enter Try.func54, Try.ntmps54
    go_wp2
    go_ret
    exact ⟨_, rfl, ⟨fun _ h => by simp at h, World.ownsRow_nil _ _ _ _⟩, Grows.refl _⟩
  · have h1 : ¬ (n : Int) < 0 := by omega
    have h2 : (0 : Int) < n := by omega
    have hrz : ∀ ty, _ := fun ty => Lib.run_append_grow_zeros (P := Try.prog) w 22 3 ty 40 i0 z .i64 .i64 Try.underlying22 Try.underlying3 hi hz0 none 0 0 [] (by exact run_firstCells_none w.drew i0.size 0 0 0) n (by omega) (by rw [hz1]; omega) (by omega) (by omega) (by rw [hz2]; omega) (growslice_fits_wide (by omega) (by rw [hz2]; omega))
    rw [Nat.zero_add] at hrz
    have hGl := grown_room (w := w) (e := 40) hn
    have hGn := grownCap_ge w n 0 40
    have hsz : Hid ((([] : List Value).toArray ++ Builtin.zeroCells z.cells n ++ Builtin.zeroCells z.cells (grownCap w n 0 40 - n)).size = grownCap w n 0 40 * 256) := by
      unfold Hid
      rw [Array.size_append, Array.size_append, size_zeroCells, size_zeroCells, hz3, List.size_toArray, List.length_nil, Nat.zero_add, ← Nat.add_mul]
      congr 1
      omega
    have HW := Lib.hid (fun cs (h : cs.size = grownCap w n 0 40 * 256) => own_fresh (α := Pg) (s := 256) (f := pageE) (e := 40) (base := w.heap.size) (w := w) (cs := cs) (Nat.le_refl _) rfl hGl h)
    generalize grownCap w n 0 40 = G at *
    generalize ([] : List Value).toArray ++ Builtin.zeroCells z.cells n ++ Builtin.zeroCells z.cells (G - n) = cs at *
    have hO := Lib.hid (HW.out cs hsz.out)
    have hGr : Hid (Grows w (w.drew.alloc (.cells cs 40))) := (Grows.drew w).trans (Grows.alloc _ _)
    unfold maxLen at hGl
    clear HW hsz
    go_enter Try.func54, Try.ntmps54
    go_wp2_with (at_builtin; refine Lib.wpList_append_run _ rfl _ _ _ _ rfl _ _ rfl rfl _ _ (hrz _) ?_)
    go_ret
    exact ⟨_, rfl, hO.out, hGr.out⟩

set_option maxRecDepth 20000 in
set_option maxHeartbeats 2000000 in
/-- vdev.own at api.Page. -/
theorem vown_page (v u : Value) (l m : List Pg) (w : World) (hv : Els 256 pageE w.heap.size w v l) (hu : Els 256 pageE w.heap.size w u m) (hl : l.length + m.length ≤ 1000000) :
    Calls Try.prog 40 #[v, u] w fun e w' => ∃ r, e = .returned r ∧ Own' 40 256 pageE w.heap.size w' r (l ++ m) ∧ Grows w w' := by
  have HV := Lib.hid hv; have HU := Lib.hid hu
  obtain ⟨_, A, cap, rfl, q1, q2, _⟩ := hv
  obtain ⟨_, B, cup, rfl, r1, r2, _⟩ := hu
  have hw1 : IntKind.i64.wrap ((l.length : Int) + m.length) = ((l.length + m.length : Nat) : Int) := by rw [Int.natCast_add]; exact IntWalk.i64_in _ (by omega)
  have HGc := Lib.hid (grow_page (l.length + m.length) w hl)
  unfold maxLen at q2 r2
  go_enter Try.func40, Try.ntmps40
  go_wp2_with (first
    | (go_at_call 54; refine HGc.out.mono ?_; rintro e w1 ⟨r, rfl, ho, hg⟩; have HO := Lib.hid ho; have HG := Lib.hid hg; clear ho hg)
    | ((with_reducible refine wpList_append_els (elT_page) pageE_one ?_ (.tmp 13) (.tmp 14) ?_ w.heap.size w1.heap.size [] l ?_ ?_ ?_ ?_ ?_ ?_); exact rfl; exact rfl; exact HO.out; exact HV.out.grows HG.out; simp; unfold maxLen; omega; simp; omega; exact HG.out.size; intro v2 w2 ho2 hg2 hat2; have HO2 := Lib.hid ho2; have HG2 := Lib.hid (HG.out.grown hg2 HG.out.size (fun k e => (own_low HO.out k e))); clear ho2 hg2 hat2)
    | ((with_reducible refine wpList_append_els (elT_page) pageE_one ?_ (.tmp 16) (.tmp 17) ?_ w.heap.size w2.heap.size ([] ++ l) m ?_ ?_ ?_ ?_ ?_ ?_); exact rfl; exact rfl; exact HO2.out; exact HU.out.grows HG2.out; simp; unfold maxLen; omega; simp; omega; exact HG2.out.size; intro v3 w3 ho3 hg3 hat3; have HO3 := Lib.hid ho3; have HG3 := Lib.hid (HG2.out.grown hg3 HG2.out.size (fun k e => (own_low HO2.out k e))); clear ho3 hg3 hat3))
  go_ret
  exact ⟨_, rfl, HO3.out, HG3.out⟩

set_option maxRecDepth 20000 in
set_option maxHeartbeats 2000000 in
/-- slices.Grow from nil, at api.Write. -/
theorem grow_write (n : Nat) (w : World) (hn : n ≤ 1000000) : Calls Try.prog 55 #[.slice none 0 0, .int .i64 n] w fun e w' => ∃ r, e = .returned r ∧ Own' (α := (Int × Pg)) 42 257 writeE w.heap.size w' r [] ∧ Grows w w' := by
  obtain ⟨i0, z, hi, hz0, hz1, hz2, hz3⟩ := (elT_write).info
  have w1 : IntKind.i64.wrap ((0 : Int) - 0) = 0 := rfl
  have w2 : IntKind.i64.wrap ((n : Int) - 0) = (n : Int) := by rw [Int.sub_zero]; exact IntWalk.i64_in _ (by omega)
  have w3 : IntKind.i64.wrap (n : Int) = (n : Int) := IntWalk.i64_in _ (by omega)
  by_cases h0 : n = 0
  · subst h0
    go_enter Try.func55, Try.ntmps55
    go_wp2
    go_ret
    exact ⟨_, rfl, ⟨fun _ h => by simp at h, World.ownsRow_nil _ _ _ _⟩, Grows.refl _⟩
  · have h1 : ¬ (n : Int) < 0 := by omega
    have h2 : (0 : Int) < n := by omega
    have hrz : ∀ ty, _ := fun ty => Lib.run_append_grow_zeros (P := Try.prog) w 23 3 ty 42 i0 z .i64 .i64 Try.underlying23 Try.underlying3 hi hz0 none 0 0 [] (by exact run_firstCells_none w.drew i0.size 0 0 0) n (by omega) (by rw [hz1]; omega) (by omega) (by omega) (by rw [hz2]; omega) (growslice_fits_wide (by omega) (by rw [hz2]; omega))
    rw [Nat.zero_add] at hrz
    have hGl := grown_room (w := w) (e := 42) hn
    have hGn := grownCap_ge w n 0 42
    have hsz : Hid ((([] : List Value).toArray ++ Builtin.zeroCells z.cells n ++ Builtin.zeroCells z.cells (grownCap w n 0 42 - n)).size = grownCap w n 0 42 * 257) := by
      unfold Hid
      rw [Array.size_append, Array.size_append, size_zeroCells, size_zeroCells, hz3, List.size_toArray, List.length_nil, Nat.zero_add, ← Nat.add_mul]
      congr 1
      omega
    have HW := Lib.hid (fun cs (h : cs.size = grownCap w n 0 42 * 257) => own_fresh (α := (Int × Pg)) (s := 257) (f := writeE) (e := 42) (base := w.heap.size) (w := w) (cs := cs) (Nat.le_refl _) rfl hGl h)
    generalize grownCap w n 0 42 = G at *
    generalize ([] : List Value).toArray ++ Builtin.zeroCells z.cells n ++ Builtin.zeroCells z.cells (G - n) = cs at *
    have hO := Lib.hid (HW.out cs hsz.out)
    have hGr : Hid (Grows w (w.drew.alloc (.cells cs 42))) := (Grows.drew w).trans (Grows.alloc _ _)
    unfold maxLen at hGl
    clear HW hsz
    go_enter Try.func55, Try.ntmps55
    go_wp2_with (at_builtin; refine Lib.wpList_append_run _ rfl _ _ _ _ rfl _ _ rfl rfl _ _ (hrz _) ?_)
    go_ret
    exact ⟨_, rfl, hO.out, hGr.out⟩

set_option maxRecDepth 20000 in
set_option maxHeartbeats 2000000 in
/-- vdev.own at api.Write. -/
theorem vown_write (v u : Value) (l m : List (Int × Pg)) (w : World) (hv : Els 257 writeE w.heap.size w v l) (hu : Els 257 writeE w.heap.size w u m) (hl : l.length + m.length ≤ 1000000) :
    Calls Try.prog 41 #[v, u] w fun e w' => ∃ r, e = .returned r ∧ Own' 42 257 writeE w.heap.size w' r (l ++ m) ∧ Grows w w' := by
  have HV := Lib.hid hv; have HU := Lib.hid hu
  obtain ⟨_, A, cap, rfl, q1, q2, _⟩ := hv
  obtain ⟨_, B, cup, rfl, r1, r2, _⟩ := hu
  have hw1 : IntKind.i64.wrap ((l.length : Int) + m.length) = ((l.length + m.length : Nat) : Int) := by rw [Int.natCast_add]; exact IntWalk.i64_in _ (by omega)
  have HGc := Lib.hid (grow_write (l.length + m.length) w hl)
  unfold maxLen at q2 r2
  go_enter Try.func41, Try.ntmps41
  go_wp2_with (first
    | (go_at_call 55; refine HGc.out.mono ?_; rintro e w1 ⟨r, rfl, ho, hg⟩; have HO := Lib.hid ho; have HG := Lib.hid hg; clear ho hg)
    | ((with_reducible refine wpList_append_els (elT_write) writeE_one ?_ (.tmp 13) (.tmp 14) ?_ w.heap.size w1.heap.size [] l ?_ ?_ ?_ ?_ ?_ ?_); exact rfl; exact rfl; exact HO.out; exact HV.out.grows HG.out; simp; unfold maxLen; omega; simp; omega; exact HG.out.size; intro v2 w2 ho2 hg2 hat2; have HO2 := Lib.hid ho2; have HG2 := Lib.hid (HG.out.grown hg2 HG.out.size (fun k e => (own_low HO.out k e))); clear ho2 hg2 hat2)
    | ((with_reducible refine wpList_append_els (elT_write) writeE_one ?_ (.tmp 16) (.tmp 17) ?_ w.heap.size w2.heap.size ([] ++ l) m ?_ ?_ ?_ ?_ ?_ ?_); exact rfl; exact rfl; exact HO2.out; exact HU.out.grows HG2.out; simp; unfold maxLen; omega; simp; omega; exact HG2.out.size; intro v3 w3 ho3 hg3 hat3; have HO3 := Lib.hid ho3; have HG3 := Lib.hid (HG2.out.grown hg3 HG2.out.size (fun k e => (own_low HO2.out k e))); clear ho3 hg3 hat3))
  go_ret
  exact ⟨_, rfl, HO3.out, HG3.out⟩

set_option maxRecDepth 20000 in
set_option maxHeartbeats 2000000 in
/-- slices.Grow from nil, at int. -/
theorem grow_int (n : Nat) (w : World) (hn : n ≤ 1000000) : Calls Try.prog 56 #[.slice none 0 0, .int .i64 n] w fun e w' => ∃ r, e = .returned r ∧ Own' (α := Int) 3 1 intE w.heap.size w' r [] ∧ Grows w w' := by
  obtain ⟨i0, z, hi, hz0, hz1, hz2, hz3⟩ := (elT_int).info
  have w1 : IntKind.i64.wrap ((0 : Int) - 0) = 0 := rfl
  have w2 : IntKind.i64.wrap ((n : Int) - 0) = (n : Int) := by rw [Int.sub_zero]; exact IntWalk.i64_in _ (by omega)
  have w3 : IntKind.i64.wrap (n : Int) = (n : Int) := IntWalk.i64_in _ (by omega)
  by_cases h0 : n = 0
  · subst h0
    go_enter Try.func56, Try.ntmps56
    go_wp2
    go_ret
    exact ⟨_, rfl, ⟨fun _ h => by simp at h, World.ownsRow_nil _ _ _ _⟩, Grows.refl _⟩
  · have h1 : ¬ (n : Int) < 0 := by omega
    have h2 : (0 : Int) < n := by omega
    have hrz : ∀ ty, _ := fun ty => Lib.run_append_grow_zeros (P := Try.prog) w 24 3 ty 3 i0 z .i64 .i64 Try.underlying24 Try.underlying3 hi hz0 none 0 0 [] (by exact run_firstCells_none w.drew i0.size 0 0 0) n (by omega) (by rw [hz1]; omega) (by omega) (by omega) (by rw [hz2]; omega) (growslice_fits_wide (by omega) (by rw [hz2]; omega))
    rw [Nat.zero_add] at hrz
    have hGl := grown_room (w := w) (e := 3) hn
    have hGn := grownCap_ge w n 0 3
    have hsz : Hid ((([] : List Value).toArray ++ Builtin.zeroCells z.cells n ++ Builtin.zeroCells z.cells (grownCap w n 0 3 - n)).size = grownCap w n 0 3 * 1) := by
      unfold Hid
      rw [Array.size_append, Array.size_append, size_zeroCells, size_zeroCells, hz3, List.size_toArray, List.length_nil, Nat.zero_add, ← Nat.add_mul]
      congr 1
      omega
    have HW := Lib.hid (fun cs (h : cs.size = grownCap w n 0 3 * 1) => own_fresh (α := Int) (s := 1) (f := intE) (e := 3) (base := w.heap.size) (w := w) (cs := cs) (Nat.le_refl _) rfl hGl h)
    generalize grownCap w n 0 3 = G at *
    generalize ([] : List Value).toArray ++ Builtin.zeroCells z.cells n ++ Builtin.zeroCells z.cells (G - n) = cs at *
    have hO := Lib.hid (HW.out cs hsz.out)
    have hGr : Hid (Grows w (w.drew.alloc (.cells cs 3))) := (Grows.drew w).trans (Grows.alloc _ _)
    unfold maxLen at hGl
    clear HW hsz
    go_enter Try.func56, Try.ntmps56
    go_wp2_with (at_builtin; refine Lib.wpList_append_run _ rfl _ _ _ _ rfl _ _ rfl rfl _ _ (hrz _) ?_)
    go_ret
    exact ⟨_, rfl, hO.out, hGr.out⟩

set_option maxRecDepth 20000 in
set_option maxHeartbeats 2000000 in
/-- vdev.own at int. -/
theorem vown_int (v u : Value) (l m : List Int) (w : World) (hv : Els 1 intE w.heap.size w v l) (hu : Els 1 intE w.heap.size w u m) (hl : l.length + m.length ≤ 1000000) :
    Calls Try.prog 42 #[v, u] w fun e w' => ∃ r, e = .returned r ∧ Own' 3 1 intE w.heap.size w' r (l ++ m) ∧ Grows w w' := by
  have HV := Lib.hid hv; have HU := Lib.hid hu
  obtain ⟨_, A, cap, rfl, q1, q2, _⟩ := hv
  obtain ⟨_, B, cup, rfl, r1, r2, _⟩ := hu
  have hw1 : IntKind.i64.wrap ((l.length : Int) + m.length) = ((l.length + m.length : Nat) : Int) := by rw [Int.natCast_add]; exact IntWalk.i64_in _ (by omega)
  have HGc := Lib.hid (grow_int (l.length + m.length) w hl)
  unfold maxLen at q2 r2
  go_enter Try.func42, Try.ntmps42
  go_wp2_with (first
    | (go_at_call 56; refine HGc.out.mono ?_; rintro e w1 ⟨r, rfl, ho, hg⟩; have HO := Lib.hid ho; have HG := Lib.hid hg; clear ho hg)
    | ((with_reducible refine wpList_append_els (elT_int) intE_one ?_ (.tmp 13) (.tmp 14) ?_ w.heap.size w1.heap.size [] l ?_ ?_ ?_ ?_ ?_ ?_); exact rfl; exact rfl; exact HO.out; exact HV.out.grows HG.out; simp; unfold maxLen; omega; simp; omega; exact HG.out.size; intro v2 w2 ho2 hg2 hat2; have HO2 := Lib.hid ho2; have HG2 := Lib.hid (HG.out.grown hg2 HG.out.size (fun k e => (own_low HO.out k e))); clear ho2 hg2 hat2)
    | ((with_reducible refine wpList_append_els (elT_int) intE_one ?_ (.tmp 16) (.tmp 17) ?_ w.heap.size w2.heap.size ([] ++ l) m ?_ ?_ ?_ ?_ ?_ ?_); exact rfl; exact rfl; exact HO2.out; exact HU.out.grows HG2.out; simp; unfold maxLen; omega; simp; omega; exact HG2.out.size; intro v3 w3 ho3 hg3 hat3; have HO3 := Lib.hid ho3; have HG3 := Lib.hid (HG2.out.grown hg3 HG2.out.size (fun k e => (own_low HO2.out k e))); clear ho3 hg3 hat3))
  go_ret
  exact ⟨_, rfl, HO3.out, HG3.out⟩
end Go.Proofs.Ytiagmlokocpboaa
