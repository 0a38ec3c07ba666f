/- The statements' wakes. -/
import Derived.Test.YtohidggifcnjgaaPackTb
import Derived.Test.YtohidggifcnjgaaPackPb
import Derived.Test.YtohidggifcnjgaaPackHalves
namespace Go.Proofs.Ytohidggifcnjgaa
open Go.RowKit
set_option linter.unusedVariables false
set_option linter.unusedSimpArgs false
attribute [local go_sem high] sliced_cut
attribute [local go_sem] cutA_zero Nat.sub_zero
/-- A literal of two bytes. -/
theorem Bytes.two (W : World) (x y : BitVec 8) : Bytes (W.heap.size + 1) (W.alloc (.cells #[.int .u8 (bI x), .int .u8 (bI y)] 5)) (.slice (some ⟨W.heap.size, 0, none⟩) 2 2) [x, y] :=
  Sl.of_row (heap_alloc_new W _) (Nat.lt_succ_self _) 2 [byteV x, byteV y] rfl (Nat.le_refl _) (by decide)
/-- A page from a place on, and its first bytes, as slices. -/
theorem PRow.tail {w : World} {g : Nat} {l : List (BitVec 8)} (h : PRow w g l) (k n : Nat) (hk : k < 256) (hn : n = 256 - k) : Bytes w.heap.size w (.slice (some ⟨g, k, none⟩) n n) (l.drop k) := by
  subst hn
  have := Bytes.cut (l := k) (h := 256) h.bytes (by omega) (by rw [h.1]; omega)
  rw [if_neg (by omega), Option.map_some, add_lit, Nat.zero_add, List.take_of_length_le (by rw [h.1]; omega)] at this
  exact this
theorem PRow.head {w : World} {g : Nat} {l : List (BitVec 8)} (h : PRow w g l) (k : Nat) (hk : k ≤ 256) : Bytes w.heap.size w (.slice (some ⟨g, 0, none⟩) k 256) (l.take k) := Bytes.take h.bytes (by rw [h.1]; exact hk)
set_option maxHeartbeats 2000000 in
set_option maxRecDepth 10000 in
theorem wakes_any (w : World) :
    Calls Try.prog 8 #[] w fun e w' => e = .returned (.bool true) ∧ Grows w w' := by
  have P1 := Lib.hid (fun W => put_any (.slice none 0 0) [] 258#64 2 W (Sl.nil _ _) (by decide) (by decide) (by decide))
  have e1 : PackM.put [] 258#64 2 = [2#8, 1#8] := by decide
  rw [e1] at P1
  have P2 := Lib.hid (fun W (v : Value) (h : Bytes (World.heap W).size W v [2#8, 7#8]) => takeBytes_any v [2#8, 7#8] 9 W h (by decide) (by decide) (by decide))
  have e2 : PackM.tbE [2#8, 7#8] 9 = 20 := by decide
  rw [e2] at P2
  have P3 := Lib.hid (fun W (v : Value) (h : Bytes (World.heap W).size W v [5#8]) => fill_any v [5#8] W h (by decide))
  have e3 : PackM.fillE [5#8] = 0 := by decide
  rw [e3] at P3
  clear e1 e2 e3
  obtain ⟨F, hF⟩ : ∃ F, F = PackM.fill [5#8] := ⟨_, rfl⟩
  have f0 : F[0]? = some 5#8 := by rw [hF]; rfl
  have f1 : F[1]? = some 0#8 := by rw [hF]; rfl
  have fl : F.length = 256 := by rw [hF]; exact PackM.fill_length _
  have fc1 : PackM.clean (F.drop 1) = true := by rw [hF]; decide +kernel
  have fc2 : PackM.clean F = false := by rw [hF]; decide +kernel
  rw [← hF] at P3
  have F0 := Lib.hid f0; have F1 := Lib.hid f1; have FL := Lib.hid fl; have FC1 := Lib.hid fc1; have FC2 := Lib.hid fc2
  clear hF f0 f1 fl fc1 fc2
  have hz := fun w => zero_page w
  go_enter Try.func8, Try.ntmps8
  go_wp2_with (first
      | (go_at_call 16; refine (P1.out _).mono ?_; rintro e w1 ⟨r1, rfl, m1, g1⟩; obtain ⟨A1, c1, rfl, _, _⟩ := m1.form; have HM1 := Lib.hid m1; have HG1 := Lib.hid g1; clear m1 g1)
      | (go_at_call 11; refine (P2.out _ _ (by exact Bytes.more (Bytes.two _ 2#8 7#8) (by simp))).mono ?_; rintro e w2 ⟨s2, r2, rfl, m2, n2, g2⟩; obtain ⟨A2, c2, rfl, _, _⟩ := m2.form; obtain ⟨A2', c2', rfl, _, _⟩ := n2.form; have HG2 := Lib.hid (HG1.out.trans ((Grows.alloc _ _).trans g2)); have HM2 := Lib.hid (HM1.out.grows ((Grows.alloc _ _).trans g2)); clear m2 n2 g2)
      | (go_at_call 14; refine (P3.out _ _ (by exact Bytes.more (Bytes.one _ 5#8) (by simp))).mono ?_; rintro e w3 ⟨rfl, g3⟩; have HG3 := Lib.hid (HG2.out.trans ((Grows.alloc _ _).trans g3)); have HM3 := Lib.hid (HM2.out.grows ((Grows.alloc _ _).trans g3)); clear g3)
      | ((with_reducible refine wpList_store_page ?_ (.tmp 5) (.tmp 17) ?_ w3.heap.size F noughts ?_ ?_ ?_ ?_ ?_); exact rfl; exact rfl; exact rfl; exact rfl; exact FL.out; exact PRow.new w3 noughts_length; intro w5 hp5 hg5; have HB5 := Lib.hid ((HG3.out.trans (Grows.alloc _ _)).grown hg5 (by have := HG3.out.size; simp; omega) (fun k e => by cases e; exact HG3.out.size)); have HM5 : Hid (Mine w.heap.size w5 (.slice A1 2 c1) [2#8, 1#8]) := World.ownsRow.kept (HM3.out.grows (Grows.alloc _ _)) hg5 (.inr (fun e => by have := (HM3.out.lt _ e).2; omega)); have hc0 : (w5.alloc (.cells #[.int .u8 2, .int .u8 1] 5)).cell? ⟨w3.heap.size, 0, none⟩ = some (.int .u8 5) := (hp5.alloc _).cell 0 5#8 F0.out; have hc1 : (w5.alloc (.cells #[.int .u8 2, .int .u8 1] 5)).cell? ⟨w3.heap.size, 1, none⟩ = some (.int .u8 0) := (hp5.alloc _).cell 1 0#8 F1.out; have HP5 := Lib.hid (hp5.alloc (.cells #[.int .u8 2, .int .u8 1] 5)); clear hp5 hg5)
      | (go_at_call 13; refine (same_any _ _ [2#8, 1#8] [2#8, 1#8] _ (by exact (HM5.out.grows (Grows.alloc _ _)).bytes) (by exact Bytes.more (Bytes.two _ 2#8 1#8) (by simp))).mono ?_; rintro e w6 ⟨rfl, rfl⟩)
      | (go_at_call 20; ((with_reducible refine (clean_any (.slice (some ⟨w3.heap.size, 1, none⟩) 255 255) (F.drop 1) _ ?_ ?_).mono ?_); exact HP5.out.tail 1 255 (by decide) rfl; (rw [List.length_drop]; have := FL.out; omega); rw [FC1.out]; rintro e w7 ⟨rfl, rfl⟩))
      | (go_at_call 20; ((with_reducible refine (clean_any (.slice (some ⟨w3.heap.size, 0, none⟩) 256 256) F _ ?_ ?_).mono ?_); exact HP5.out.bytes; (have := FL.out; omega); rw [FC2.out]; rintro e w7 ⟨rfl, rfl⟩)))
  go_ret
  exact ⟨rfl, HB5.out.trans (Below.mono (Grows.alloc _ _) HB5.out.size)⟩
end Go.Proofs.Ytohidggifcnjgaa
