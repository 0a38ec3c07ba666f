/- LfWakes -/
import Derived.Test.YthdncpkmhodokaaDoorLfDecO
import Derived.Test.YthdncpkmhodokaaDoorLfB
import Derived.Lib.SlBytesConst
/- The statements' wakes of layer 6. -/
namespace Go.Proofs.YthdncpkmhodokaaDoor
open Go.RowKit
set_option linter.unusedVariables false
set_option linter.unusedSimpArgs false
section
variable {w : World} {ops : Array Oper} {rest : List Oper} {o : Oper} {a : Act} {Q : Exit → Act → World → Prop}
theorem wpList_buildG (hw : Region.wanted o (yielded ops a.tmps) = true) (ty : TypeId) (xs : Array (Nat × Operand)) (cells : Array Value) (ho : o.op = .build ty xs) (hb : Tryd.prog.built ty (xs.map fun (i, x) => (i, a.eval x)).toList = some cells)
    (h : wpList Tryd.prog ops Q rest (a.put o.dst (.agg cells)) w) : wpList Tryd.prog ops Q (o :: rest) a w :=
  wpList_does hw (R := fun v w' => v = .agg cells ∧ w = w') (by
    unfold Does execOp
    simp only [ho, Sem.run_bind, run_build w ty _ _ hb, Result.andThen_ok]
    exact ⟨rfl, rfl⟩) (by rintro v w' ⟨rfl, rfl⟩; exact h)
theorem wpList_sliceG_it (hw : Region.wanted o (yielded ops a.tmps) = true) (x : Operand) (ho : o.op = .buildSlice 22 1 #[(0, x)]) (r : Raw) (hx : a.eval x = .agg (rawA r))
    (h : wpList Tryd.prog ops Q rest (a.put o.dst (.slice (some ⟨w.heap.size, 0, none⟩) 1 1)) (w.alloc (.cells (rawA r) 45))) : wpList Tryd.prog ops Q (o :: rest) a w :=
  wpList_does hw (R := fun v w' => v = .slice (some ⟨w.heap.size, 0, none⟩) 1 1 ∧ w.alloc (.cells (rawA r) 45) = w') (does_slice_it x ho r hx ⟨rfl, rfl⟩) (by rintro v w' ⟨rfl, rfl⟩; exact h)
end
theorem built_key (A : Option Addr) (n c : Nat) : Tryd.prog.built 45 [(0, .slice A n c)] = some (rawA { noR with ka := A, kn := n, kc := c }) := by kernel_rfl
/-- A slice of one item, just laid. -/
theorem its_one {W : World} {r : Raw} {x : It} (h : RawIs W.heap.size W r x) : Its (W.heap.size + 1) (W.alloc (.cells (rawA r) 45)) (.slice (some ⟨W.heap.size, 0, none⟩) 1 1) [x] := by
  refine ⟨[r], raw_one W r, rfl, fun j r' x' hr hx => ?_⟩
  have hj : j = 0 := by have := (List.getElem?_eq_some_iff.1 hr).1; simp at this; omega
  subst hj
  simp only [List.getElem?_cons_zero, Option.some.injEq] at hr hx
  subst hr hx
  exact (h.below (Grows.alloc W _)).more (Nat.le_succ _)
theorem its_one' {W : World} {r : Raw} {x : It} (h : RawIs W.heap.size W r x) : Its (W.alloc (.cells (rawA r) 45)).heap.size (W.alloc (.cells (rawA r) 45)) (.slice (some ⟨W.heap.size, 0, none⟩) 1 1) [x] := by
  rw [World.size_alloc]; exact its_one h
/-- A letter, laid as a constant or not. -/
theorem letter (W : World) (x : BitVec 8) (i j : Nat) : Bytes (W.alloc (.cells #[.int .u8 (bI x)] 5 (i, j))).heap.size (W.alloc (.cells #[.int .u8 (bI x)] 5 (i, j))) (.slice (some ⟨W.heap.size, 0, none⟩) 1 1) [x] := by
  refine ⟨_, 1, rfl, Nat.le_refl _, by decide, fun _ => ⟨W.heap.size, 0, rfl, by simp, fun k u hu => ?_⟩⟩
  rw [Nat.zero_add, World.cell?_alloc_mark]
  simpa [byteV] using hu
def leafOne : List (BitVec 8) := 1#8 :: List.replicate 255 0#8
theorem built_one : Tryd.prog.built 24 [(0, .int .u8 1), (1, .int .u8 0)] = some (pageA leafOne) := by kernel_rfl
theorem set_one : ((pageA noughts).setIfInBounds 0 (Value.int .u8 1)).setIfInBounds 1 (Value.int .u8 0) = pageA leafOne := by kernel_rfl
theorem right_nil : LeafM.right [] = true := rfl
theorem encP_nil : LeafM.encP [] = leafOne := by
  rw [(LeafM.enc_fill right_nil).1]
  show PackM.fill [1#8, 0#8] = _
  unfold PackM.fill
  rw [if_neg (by decide)]
  rfl
theorem dec_nil : LeafM.decE leafOne = 0 ∧ LeafM.decL leafOne = [] := by
  have h := LeafM.dec_enc right_nil
  rw [encP_nil] at h
  unfold LeafM.decE LeafM.decL
  rw [h]
  exact ⟨rfl, rfl⟩
theorem dec_noughts : LeafM.decE noughts = 50 ∧ LeafM.decL noughts = [] := by
  have h : LeafM.dec noughts = none := by
    unfold LeafM.dec
    rw [if_pos (Or.inl (by decide))]
  unfold LeafM.decE LeafM.decL
  rw [h]
  exact ⟨rfl, rfl⟩
theorem right_zero : LeafM.right [⟨[], [], PtM.none, 0#16⟩] = false := LeafM.right_false (k := 0) (by decide) rfl
theorem right_a : LeafM.right [⟨[97#8], [], PtM.none, 0#16⟩] = true := by decide
set_option maxHeartbeats 4000000 in
set_option maxRecDepth 100000 in
theorem wakes6_any (w : World) (hG : Glob w) : Calls Tryd.prog 9 #[] w fun e w' => e = .returned (.bool true) ∧ Grows w w' := by
  have hz := fun w => zero_page w
  have G0 := Lib.hid hG
  have HE0 : Hid (∀ W, Glob W → Calls Tryd.prog 10 #[.slice none 0 0] W fun e w' => e = .returned (.tuple #[.agg (pageA leafOne), .int .i64 0]) ∧ Grows W w') := fun W h => by
    have := encode6_any (.slice none 0 0) [] W (Its.nil _ _) h
    rw [encP_nil, (LeafM.enc_right right_nil).1] at this
    exact this
  have HD0 : Hid (∀ W, Glob W → Calls Tryd.prog 12 #[.agg (pageA leafOne)] W fun e w' => ∃ A c, e = .returned (.tuple #[.slice A 0 c, .int .i64 0]) ∧ Grows W w') := fun W h => by
    have := decode6_any leafOne W (by decide) h
    rw [dec_nil.1, dec_nil.2] at this
    refine this.mono ?_
    rintro e w' ⟨v, rfl, ho, hg⟩
    obtain ⟨A, c, rfl, _⟩ := ho.form
    exact ⟨A, c, rfl, hg⟩
  have HD1 : Hid (∀ W, Glob W → Calls Tryd.prog 12 #[.agg (pageA noughts)] W fun e w' => ∃ A c, e = .returned (.tuple #[.slice A 0 c, .int .i64 50]) ∧ Grows W w') := fun W h => by
    have := decode6_any noughts W noughts_length h
    rw [dec_noughts.1, dec_noughts.2] at this
    refine this.mono ?_
    rintro e w' ⟨v, rfl, ho, hg⟩
    obtain ⟨A, c, rfl, _⟩ := ho.form
    exact ⟨A, c, rfl, hg⟩
  have HE1 : Hid (∀ W, Glob W → Calls Tryd.prog 10 #[.slice (some ⟨W.heap.size, 0, none⟩) 1 1] (W.alloc (.cells (rawA noR) 45)) fun e w' => e = .returned (.tuple #[.agg (pageA noughts), .int .i64 2]) ∧ Grows (W.alloc (.cells (rawA noR) 45)) w') := fun W h => by
    have := encode6_any _ [⟨[], [], PtM.none, 0#16⟩] (W.alloc (.cells (rawA noR) 45)) (its_one' (r := noR) ⟨Sl.nil _ _, Sl.nil _ _, rfl, rfl⟩) (h.grows (Grows.alloc _ _))
    rw [(LeafM.enc_not right_zero).1, (LeafM.enc_not right_zero).2, LeafM.blank_noughts] at this
    exact this
  have HRa : Hid (∀ W : World, Calls Tryd.prog 15 #[.slice (some ⟨W.heap.size + 1, 0, none⟩) 1 1] ((W.alloc (.cells #[.int .u8 97] 5 (1, 2))).alloc (.cells (rawA { noR with ka := some ⟨W.heap.size, 0, none⟩, kn := 1, kc := 1 }) 45)) fun e w' => e = .returned (.bool true) ∧ Grows ((W.alloc (.cells #[.int .u8 97] 5 (1, 2))).alloc (.cells (rawA { noR with ka := some ⟨W.heap.size, 0, none⟩, kn := 1, kc := 1 }) 45)) w') := fun W => by
    have hm := letter W 97#8 1 2
    have hi := its_one' (W := W.alloc (.cells #[.int .u8 97] 5 (1, 2))) (r := { noR with ka := some ⟨W.heap.size, 0, none⟩, kn := 1, kc := 1 }) (x := ⟨[97#8], [], PtM.none, 0#16⟩) ⟨hm, Sl.nil _ _, rfl, rfl⟩
    have := right6_any _ _ _ hi
    rw [right_a, World.size_alloc] at this
    exact this
  have HBk := Lib.hid built_key
  obtain ⟨p1, hp1⟩ : ∃ p, p = leafOne := ⟨_, rfl⟩
  have HPL : Hid (p1.length = 256) := by rw [hp1]; unfold Hid; decide
  have hset := set_one
  rw [← hp1] at HE0 HD0 hset
  have heq := fun W => page_is p1 p1 HPL.out HPL.out W
  simp only [decide_true] at heq
  have kc := fun (w : World) (C : Array Value) (n c : Nat) => Lib.run_convert_bytes_const (P := Tryd.prog) w 37 5 C n c Tryd.underlying37 Tryd.underlying5
  have HNA : Hid (#[Value.slice none 0 0, .slice none 0 0, .int .u8 0, .int .u16 0, .int .u16 0, .int .u32 0, .int .u64 0, .int .u16 0] = rawA noR) := rfl
  clear hp1 hG
  go_enter Tryd.func9, Tryd.ntmps9
  go_wp2_with (first
    | (go_at_call 10; (with_reducible refine (HE0.out _ G0.out).mono ?_); rintro e w1 ⟨rfl, g⟩; have G1 := Lib.hid g; clear g)
    | ((with_reducible refine wpList_store_page ?_ (.tmp 1) (.tmp 11) ?_ w1.heap.size p1 noughts ?_ ?_ ?_ ?_ ?_); exact rfl; exact rfl; exact rfl; exact rfl; exact HPL.out; exact PRow.new w1 noughts_length; intro w2 hp2 hg2; have g := grown_fresh (W := w1) (W' := w2) rfl hg2; have R2 := Lib.hid hp2; have G2 := Lib.hid (G1.out.trans g); clear hp2 hg2 g)
    | ((with_reducible refine wpList_load_page (o := ⟨some 14, _, _, _, _, _⟩) ?_ (.tmp 1) ?_ w1.heap.size p1 ?_ ?_ ?_); exact rfl; exact rfl; exact rfl; exact R2.out)
    | (go_at_call 12; (with_reducible refine (HD0.out _ (G0.out.grows G2.out)).mono ?_); rintro e w3 ⟨A3, c3, rfl, g⟩; have R3 := Lib.hid (R2.out.grows g); have G3 := Lib.hid (G2.out.trans g); clear g)
    | (go_at_call 12; (with_reducible refine (HD1.out _ (G0.out.grows G3.out)).mono ?_); rintro e w4 ⟨A4, c4, rfl, g⟩; have R4 := Lib.hid (R3.out.grows g); have G4 := Lib.hid (G3.out.trans g); clear g)
    | ((with_reducible refine wpList_slice_it (o := ⟨some 25, _, _, _, _, _⟩) ?_ (.tmp 24) ?_ noR ?_ ?_); exact rfl; exact rfl; exact rfl)
    | (go_at_call 10; (with_reducible refine (HE1.out w4 (G0.out.grows G4.out)).mono ?_); rintro e w5 ⟨rfl, g⟩; have R5 := Lib.hid ((R4.out.alloc (.cells (rawA noR) 45)).grows g); have G5 := Lib.hid ((G4.out.trans (Grows.alloc w4 (.cells (rawA noR) 45))).trans g); clear g)
    | ((with_reducible refine wpList_store_page ?_ (.tmp 7) (.tmp 27) ?_ w5.heap.size noughts noughts ?_ ?_ ?_ ?_ ?_); exact rfl; exact rfl; exact rfl; exact rfl; exact noughts_length; exact PRow.new w5 noughts_length; intro w6 hp6 hg6; have g := grown_fresh (W := w5) (W' := w6) rfl hg6; have R6 := Lib.hid (R5.out.grows g); have G6 := Lib.hid (G5.out.trans g); clear hp6 hg6 g)
    | ((with_reducible refine wpList_loadG_page (o := ⟨some 32, _, _, _, _, _⟩) ?_ (.tmp 1) ?_ w1.heap.size p1 ?_ ?_ ?_); exact rfl; exact rfl; exact rfl; exact R6.out)
    | ((with_reducible refine wpList_buildG (o := ⟨some 56, _, _, _, _, _⟩) ?_ 45 #[(0, .tmp 55)] (rawA { noR with ka := some ⟨w6.heap.size, 0, none⟩, kn := 1, kc := 1 }) ?_ ?_ ?_); exact rfl; exact rfl; exact HBk.out _ _ _)
    | ((with_reducible refine wpList_sliceG_it (o := ⟨some 57, _, _, _, _, _⟩) ?_ (.tmp 56) ?_ { noR with ka := some ⟨w6.heap.size, 0, none⟩, kn := 1, kc := 1 } ?_ ?_); exact rfl; exact rfl; exact rfl)
    | (go_at_call 15; (with_reducible refine (HRa.out w6).mono ?_); rintro e w7 ⟨rfl, g⟩; have G7 := Lib.hid (G6.out.trans ((((Grows.alloc w6 (.cells #[.int .u8 97] 5 (1, 2))).trans (Grows.alloc _ (.cells (rawA { noR with ka := some ⟨w6.heap.size, 0, none⟩, kn := 1, kc := 1 }) 45)))).trans g)); clear g))
  go_ret
  exact ⟨rfl, G7.out⟩
end Go.Proofs.YthdncpkmhodokaaDoor
