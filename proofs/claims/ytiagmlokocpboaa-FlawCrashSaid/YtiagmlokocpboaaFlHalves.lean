/- FlHalves -/
import Derived.Test.YtiagmlokocpboaaBaseC
import Derived.Test.YtiagmlokocpboaaPage
import Derived.Test.YtiagmlokocpboaaBaseA
import Derived.Lib.Hide
/- Halves of pages: pack's, and the document's. -/
namespace Go.Proofs.Ytiagmlokocpboaa
open Go.RowKit
set_option linter.unusedVariables false
set_option linter.unusedSimpArgs false
attribute [local go_sem high] sliced_cut
attribute [local go_sem] cutA_zero Nat.sub_zero
theorem half_row (old now : List (BitVec 8)) (h1 : old.length = 256) (h2 : now.length = 256) :
    ((pageA old).toList.take 0 ++ ((now.take 128).map byteV ++ (pageA old).toList.drop (0 + ((now.take 128).map byteV).length))).toArray = pageA (PackM.halves old now) := by
  have e : ((now.take 128).map byteV).length = 128 := by rw [List.length_map, List.length_take]; omega
  rw [e, List.take_zero, List.nil_append, Nat.zero_add]
  unfold pageA PackM.halves
  rw [List.map_append, List.map_drop]
set_option maxHeartbeats 1000000 in
theorem halves_any (old now : List (BitVec 8)) (h1 : old.length = 256) (h2 : now.length = 256) (w : World) :
    Calls Try.prog 30 #[.agg (pageA old), .agg (pageA now)] w fun e w' => e = .returned (.agg (pageA (PackM.halves old now))) ∧ Grows w w' := by
  have hz := fun w => zero_page w
  have W0 : ∃ W0, W0 = ((w.alloc (.cells (pageA old) 40)).alloc (.cells (pageA now) 40)).alloc (.cells (pageA noughts) 40) := ⟨_, rfl⟩
  have R2 := Lib.hid (((PRow.new w h1).alloc (.cells (pageA now) 40)).alloc (.cells (pageA noughts) 40))
  have R3 := Lib.hid ((PRow.new (w.alloc (.cells (pageA old) 40)) h2).alloc (.cells (pageA noughts) 40))
  have R4 := Lib.hid (PRow.new ((w.alloc (.cells (pageA old) 40)).alloc (.cells (pageA now) 40)) noughts_length)
  have HB := Lib.hid (((Grows.alloc w (.cells (pageA old) 40)).trans (Grows.alloc _ (.cells (pageA now) 40))).trans (Grows.alloc _ (.cells (pageA noughts) 40)))
  have HL := Lib.hid (PackM.halves_length old now h1 h2)
  have HR := Lib.hid (half_row old now h1 h2)
  have H1 := Lib.hid h1; have H2 := Lib.hid h2
  clear h1 h2 W0
  go_enter Try.func30, Try.ntmps30
  go_wp2_with fail
  refine wp_region_free 2 9 (by kernel_rfl) (by kernel_rfl) rfl (by kernel_rfl) ?_; simp only [List.take_succ_cons, List.take_zero, List.drop_succ_cons, List.drop_zero]
  repeat (apply free_pure rfl; focus (intro vs w hg hd;  (try simp [Region.binds] at hd); simp only [execOp, resolve, Option.map_some, Option.map_none, List.map_toArray, List.map_cons, List.map_nil, rho_const, rho_func]; (repeat (conv in rho _ _ _ _ (Operand.tmp _) => whnf)); (try simp only [hd]); go_simp; (repeat (conv in rho _ _ _ _ (Operand.tmp _) => whnf)); (try simp only [hd]); rfl))
  intro vs w' hg hv; have h0 := hv 0 (by omega); simp at h0; have h1 := hv 1 (by omega); simp at h1; simp only [putL, dstAt, List.range, List.range.loop, if_true, List.getElem?_toArray, List.getElem?_cons_zero, List.getElem?_cons_succ, Option.bind_some, Act.put, List.setIfInBounds_toArray, List.set_cons_zero, List.set_cons_succ]
  rw [h0, h1]
  clear hv h0 h1
  generalize vs 0 = z0, vs 1 = z1 at *
  have r2 : PRow w' w.heap.size old := R2.out.drew.grows hg
  have r3 : PRow w' (w.heap.size + 1) now := by have := R3.out.drew.grows hg; rw [World.size_alloc] at this; exact this
  have r4 : PRow w' (w.heap.size + 1 + 1) noughts := by have := R4.out.drew.grows hg; rw [World.size_alloc, World.size_alloc] at this; exact this
  have hb : Grows w w' := HB.out.trans (Grows.of_drew hg)
  have R2' := Lib.hid r2; have R3' := Lib.hid r3; have R4' := Lib.hid r4; have HB' := Lib.hid hb
  clear r2 r3 r4 hb hg R2 R3 R4 HB
  have HN : Hid (((now.take 128).map byteV).length = 128) := by rw [Hid, List.length_map, List.length_take, H2.out]; rfl
  refine wpList_copy_own rfl (.tmp 5) (.tmp 6) 27 27 rfl 5 Try.underlying27 (by kernel_rfl) w.heap.size 0 128 256 ⟨w.heap.size + 1, 0, none⟩ 256 256 rfl rfl (pageA old) 40 R2'.out.2 ((now.take 128).map byteV) (by rw [HN.out]; rfl) ?src (by rw [HN.out, pageA_size, H1.out]; omega) (byteV_one _) ?_
  case src =>
    intro j u hu
    rw [add_lit, Nat.zero_add]
    obtain ⟨x, hx, rfl⟩ : ∃ x, now[j]? = some x ∧ byteV x = u := by
      rw [List.getElem?_map, Option.map_eq_some_iff] at hu
      obtain ⟨x, hx, hxu⟩ := hu
      have hj : j < 128 := by have := (List.getElem?_eq_some_iff.1 hx).1; rw [List.length_take] at this; omega
      rw [List.getElem?_take_of_lt hj] at hx
      exact ⟨x, hx, hxu⟩
    exact R3'.out.cell j x hx
  have p2 : PRow (w'.setRow w.heap.size (pageA (PackM.halves old now))) w.heap.size (PackM.halves old now) := ⟨HL.out, R2'.out.2.setRow _⟩
  have p4 : PRow (w'.setRow w.heap.size (pageA (PackM.halves old now))) (w.heap.size + 1 + 1) noughts := R4'.out.grown (setRow_grownBy _ _ _) (by simp; omega)
  have pb : Hid (Below w.heap.size w (w'.setRow w.heap.size (pageA (PackM.halves old now)))) := HB'.out.grown (setRow_grownBy _ _ _) HB'.out.size (fun k e => by cases e; exact Nat.le_refl _)
  rw [HR.out, HN.out]
  generalize w'.setRow w.heap.size (pageA (PackM.halves old now)) = w2 at *
  go_wp2_with (first
      | ((with_reducible refine wpList_load_page (o := ⟨some 8, _, _, _, _, _⟩) ?_ (.tmp 2) ?_ w.heap.size (PackM.halves old now) ?_ ?_ ?_); exact rfl; exact rfl; exact rfl; exact p2)
      | ((with_reducible refine wpList_store_page ?_ (.tmp 4) (.tmp 8) ?_ (w.heap.size + 1 + 1) (PackM.halves old now) noughts ?_ ?_ ?_ ?_ ?_); exact rfl; exact rfl; exact rfl; exact rfl; exact HL.out; exact p4; intro w1 hp1 hg1)
      | (refine bodyPost_ret (results_page (p := 4) (by exact rfl) _ (by exact rfl) hp1) rfl ?_; exact ⟨rfl, pb.out.grown hg1 pb.out.size (fun k e => by cases e; omega)⟩))
theorem halfk_get (old now : List (BitVec 8)) (k : Nat) (h1 : old.length = 256) (h2 : now.length = 256) (hk : k < 128) : (now.take k ++ old.drop k)[k]? = some (old[k]'(by omega)) := by
  have hl : (now.take k).length = k := by rw [List.length_take]; omega
  rw [List.getElem?_append_right (by omega), hl, Nat.sub_self, List.getElem?_drop, Nat.add_zero, List.getElem?_eq_getElem]
theorem halfk_set (old now : List (BitVec 8)) (k : Nat) (h1 : old.length = 256) (h2 : now.length = 256) (hk : k < 128) : (now.take k ++ old.drop k).set k (now[k]'(by omega)) = now.take (k + 1) ++ old.drop (k + 1) := by
  have hl : (now.take k).length = k := by rw [List.length_take]; omega
  rw [List.set_append_right _ _ (by omega), hl, Nat.sub_self, List.drop_eq_getElem_cons (show k < old.length by omega), List.set_cons_zero, List.take_add_one, List.getElem?_eq_getElem (show k < now.length by omega), List.append_assoc]
  rfl
set_option maxRecDepth 20000 in
set_option maxHeartbeats 2000000 in
/-- The document's Halves. -/
theorem rhalves_any (old now : List (BitVec 8)) (h1 : old.length = 256) (h2 : now.length = 256) (w : World) :
    Calls Try.prog 32 #[.agg (pageA old), .agg (pageA now)] w fun e w' => e = .returned (.agg (pageA (PackM.halves old now))) ∧ Grows w w' := by
  have hz := fun w => zero_page w
  have R2 := Lib.hid (((PRow.new w h1).alloc (.cells (pageA now) 40)).alloc (.cells (pageA noughts) 40))
  have R3 : Hid (PRow (((w.alloc (.cells (pageA old) 40)).alloc (.cells (pageA now) 40)).alloc (.cells (pageA noughts) 40)) (w.heap.size + 1) now) := by
    have := (PRow.new (w.alloc (.cells (pageA old) 40)) h2).alloc (.cells (pageA noughts) 40)
    rwa [World.size_alloc] at this
  have R4 : Hid (PRow (((w.alloc (.cells (pageA old) 40)).alloc (.cells (pageA now) 40)).alloc (.cells (pageA noughts) 40)) (w.heap.size + 1 + 1) noughts) := by
    have := PRow.new ((w.alloc (.cells (pageA old) 40)).alloc (.cells (pageA now) 40)) noughts_length
    rwa [World.size_alloc, World.size_alloc] at this
  have HG := Lib.hid (((Grows.alloc w (.cells (pageA old) 40)).trans (Grows.alloc _ (.cells (pageA now) 40))).trans (Grows.alloc _ (.cells (pageA noughts) 40)))
  have H1 := Lib.hid h1; have H2 := Lib.hid h2
  clear h1 h2
  go_enter Try.func32, Try.ntmps32
  go_wp2
  go_loopw [5] (fun i wr => ∃ k : Nat, k ≤ 128 ∧ i = .int .i64 k ∧ PRow wr w.heap.size (now.take k ++ old.drop k) ∧ PRow wr (w.heap.size + 1) now ∧ PRow wr (w.heap.size + 1 + 1) noughts ∧ Below w.heap.size w wr) (fun i _ => 128 - (intOf i).toNat)
  case atStart => exact ⟨0, Nat.zero_le _, rfl, R2.out, R3.out, R4.out, HG.out⟩
  case round =>
    obtain ⟨k, hk, rfl, hp, hp3, hp4, hb⟩ := hrel
    have HP := Lib.hid hp; have HP3 := Lib.hid hp3; have HP4 := Lib.hid hp4; have HB := Lib.hid hb
    clear hp hp3 hp4 hb
    by_cases hlt : k < 128
    · have n1 := H1.out; have n2 := H2.out
      have hlt2 : (k : Int) < 128 := by omega
      have hlt3 : (k : Int) < 256 := by omega
      have e1 : now[k]? = some (now[k]'(by omega)) := List.getElem?_eq_getElem (by omega)
      have hck := HP3.out.cell k _ e1
      have hc0 := HP.out.cell k _ (halfk_get old now k n1 n2 hlt)
      have hf0 := HP.out.frozen k
      have HS := Lib.hid (halfk_set old now k n1 n2 hlt)
      generalize now[k]'(by omega) = x at *
      generalize old[k]'(by omega) = y at *
      clear e1 n1 n2
      go_wp2
      go_roundw
      case rel => exact ⟨k + 1, by omega, by go_num, by rw [← HS.out]; exact HP.out.set k x, HP3.out.far (by simp) _, HP4.out.far (by simp; omega) _, HB.out.setCell (by simp) _⟩
      case measure => simp [intOf]; omega
    · obtain rfl : k = 128 := by omega
      have HP' : Hid (PRow wr w.heap.size (PackM.halves old now)) := HP.out
      clear HP
      obtain ⟨F, hF⟩ : ∃ F, F = PackM.halves old now := ⟨_, rfl⟩
      rw [← hF] at HP'
      have HFF := Lib.hid hF
      clear hF
      go_wp2_with (first
          | ((with_reducible refine wpList_load_page (o := ⟨some 15, _, _, _, _, _⟩) ?_ (.tmp 2) ?_ w.heap.size F ?_ ?_ ?_); exact rfl; exact rfl; exact rfl; exact HP'.out)
          | ((with_reducible refine wpList_store_page ?_ (.tmp 4) (.tmp 15) ?_ (w.heap.size + 1 + 1) F noughts ?_ ?_ ?_ ?_ ?_); exact rfl; exact rfl; exact rfl; exact rfl; exact HP'.out.1; exact HP4.out; intro w1 hp1 hg1)
          | (refine bodyPost_ret (results_page (p := 4) (by exact rfl) _ (by exact rfl) hp1) rfl ?_; exact ⟨by rw [← HFF.out], HB.out.grown hg1 HB.out.size (fun k e => by cases e; omega)⟩))
end Go.Proofs.Ytiagmlokocpboaa
