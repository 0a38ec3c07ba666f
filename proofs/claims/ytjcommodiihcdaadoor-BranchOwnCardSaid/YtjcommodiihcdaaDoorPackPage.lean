/- PackPage -/
import Derived.Test.YtjcommodiihcdaaDoorPackSmall
import Derived.Test.YtjcommodiihcdaaDoorPage
/- pack.Clean, Fill, Halves. -/
namespace Go.Proofs.YtjcommodiihcdaaDoor
open Go.RowKit
set_option linter.unusedVariables false
set_option linter.unusedSimpArgs false
attribute [local go_sem high] sliced_cut
attribute [local go_sem] cutA_zero Nat.sub_zero
theorem all_snoc (b : List (BitVec 8)) (k : Nat) (x : BitVec 8) (h : b[k]? = some x) : (b.take (k + 1)).all (· == 0#8) = ((b.take k).all (· == 0#8) && (x == 0#8)) := by
  rw [List.take_add_one, h]; simp
theorem clean_not (b : List (BitVec 8)) (k : Nat) (x : BitVec 8) (h : b[k]? = some x) (hx : x ≠ 0#8) : PackM.clean b = false := by
  unfold PackM.clean
  rw [List.all_eq_false]
  exact ⟨x, List.mem_of_getElem? h, by simpa using hx⟩
theorem nought_beq (x : BitVec 8) (h : x = 0#8) : (bI x == 0) = true ∧ (bI x != 0) = false := by subst h; exact ⟨rfl, rfl⟩
theorem nought_bne (x : BitVec 8) (h : x ≠ 0#8) : (bI x == 0) = false ∧ (bI x != 0) = true := by
  have : bI x ≠ 0 := fun e => h (bI_inj (y := 0#8) e)
  exact ⟨by simpa using this, by simpa using this⟩
theorem splice_fill (b : List (BitVec 8)) (h : b.length ≤ 256) : (splice (pageA noughts).toList 0 (b.map byteV)).toArray = pageA (PackM.fill b) := by
  unfold PackM.fill
  rw [if_neg (by omega)]
  unfold splice pageA noughts
  rw [Nat.zero_add, List.take_zero, List.nil_append, List.length_map]
  congr 1
  rw [List.map_append]
  congr 1
  show ((List.replicate 256 0#8).map byteV).drop b.length = _
  rw [← List.map_drop, List.drop_replicate]
set_option maxHeartbeats 1000000 in
theorem fill_any (v : Value) (b : List (BitVec 8)) (w : World) (hv : Bytes w.heap.size w v b) (hl : b.length ≤ 900000) :
    Calls Tryd.prog 25 #[v] w fun e w' => e = .returned (.tuple #[.agg (pageA (PackM.fill b)), .int .i64 (PackM.fillE b)]) ∧ Grows w w' := by
  have HV := Lib.hid hv
  obtain ⟨A, cap, rfl, q1, q2, q3⟩ := hv
  simp only [List.length_map] at q1 q3 HV ⊢
  unfold maxLen at q2
  have H3 := Lib.hid q3
  clear q3
  have q4 : (b.length : Int) ≤ 900000 := by omega
  have hz := fun w => zero_page w
  have R4 := Lib.hid (PRow.new (w.alloc (.cells (pageA noughts) 24)) noughts_length)
  have R2 := Lib.hid ((PRow.new w noughts_length).alloc (.cells (pageA noughts) 24))
  by_cases h : 256 < b.length
  · have h' : (256 : Int) < b.length := by omega
    have HF : Hid (PackM.fill b = noughts) := by unfold Hid PackM.fill; rw [if_pos h]; rfl
    have HE : Hid (PackM.fillE b = 21) := by unfold Hid PackM.fillE; rw [if_pos h]
    go_enter Tryd.func25, Tryd.ntmps25
    go_wp2_with (first
      | ((with_reducible refine wpList_load_page (o := ⟨some 8, _, _, _, _, _⟩) ?_ (.tmp 4) ?_ (w.heap.size + 1) noughts ?_ ?_ ?_); exact rfl; exact rfl; exact rfl; (have := R4.out; rw [World.size_alloc] at this; exact this))
      | ((with_reducible refine wpList_store_page ?_ (.tmp 2) (.tmp 8) ?_ w.heap.size noughts noughts ?_ ?_ ?_ ?_ ?_); exact rfl; exact rfl; exact rfl; exact rfl; exact noughts_length; exact R2.out; intro w1 hp1 hg1)
      | (refine bodyPost_ret (results_page_two (p := 2) (q := 3) (by exact rfl) _ (.int .i64 21) (by exact rfl) (by exact rfl) hp1) rfl ?_; exact ⟨by rw [HF.out, HE.out], ((Grows.alloc w _).trans (Grows.alloc _ _)).grown hg1 (by simp; omega) (fun k e => by cases e; exact Nat.le_refl _)⟩))
  · have h' : ¬ (256 : Int) < b.length := by omega
    have h2 : b.length ≤ 256 := by omega
    have HE : Hid (PackM.fillE b = 0) := by unfold Hid PackM.fillE; rw [if_neg h]
    go_enter Tryd.func25, Tryd.ntmps25
    have hlen : (pageA (PackM.fill b)).size = 256 := by rw [pageA_size, PackM.fill_length]
    have HSP := Lib.hid (splice_fill b h2)
    have HFL := Lib.hid (PackM.fill_length b)
    have HSZ : Hid ((pageA noughts).toList.length = 256) := by rw [Hid, Array.length_toList, pageA_size, noughts_length]
    clear hlen
    go_wp2_with (first
      | ((with_reducible refine wpList_copy_splice ?_ (.tmp 9) (.tmp 10) 40 40 ?_ 5 Tryd.underlying40 ?_ (some ⟨w.heap.size + 1, 0, none⟩) A 256 256 b.length cap ?_ ?_ (w.heap.size + 1) 0 (pageA noughts).toList 24 ?_ (b.map byteV) ?_ ?_ ?_ (byteV_one b) (w.heap.size + 1) ((w.alloc (.cells (pageA noughts) 24)).alloc (.cells (pageA noughts) 24)) ?_ (Nat.le_refl _) ?_); exact rfl; exact rfl; kernel_rfl; exact rfl; exact rfl; (have := R4.out.2; rw [World.size_alloc] at this; exact this); (rw [List.length_map]; exact (Nat.min_eq_left h2).symm); (intro hp; rw [List.length_map] at hp; obtain ⟨g1, o1, rfl, hg1, hcA⟩ := H3.out hp; exact ⟨rfl, ⟨g1, o1, none⟩, rfl, fun j u hu => by rw [add_lit]; exact Grows.cell ((Grows.alloc w _).trans (Grows.alloc _ _)) (hcA j u hu)⟩); (rw [List.length_map, HSZ.out]; omega); exact Below.refl _ _; intro w2 HG2 hB2; have hp2 : PRow w2 (w.heap.size + 1) (PackM.fill b) := ⟨HFL.out, by have := HG2.out; rw [HSP.out] at this; exact this⟩; have hr2 : PRow w2 w.heap.size noughts := R2.out.below hB2 (Nat.lt_succ_self _); have hb2 : Hid (Below w.heap.size w w2) := Below.trans ((Grows.alloc w (.cells (pageA noughts) 24)).trans (Grows.alloc _ (.cells (pageA noughts) 24))) (Below.mono hB2 (by omega)); clear HG2 hB2)
      | ((with_reducible refine wpList_load_page (o := ⟨some 12, _, _, _, _, _⟩) ?_ (.tmp 4) ?_ (w.heap.size + 1) (PackM.fill b) ?_ ?_ ?_); exact rfl; exact rfl; exact rfl; exact hp2)
      | ((with_reducible refine wpList_store_page ?_ (.tmp 2) (.tmp 12) ?_ w.heap.size (PackM.fill b) noughts ?_ ?_ ?_ ?_ ?_); exact rfl; exact rfl; exact rfl; exact rfl; exact HFL.out; exact hr2; intro w1 hp1 hg1)
      | (refine bodyPost_ret (results_page_two (p := 2) (q := 3) (by exact rfl) _ (.int .i64 0) (by exact rfl) (by exact rfl) hp1) rfl ?_; exact ⟨by rw [HE.out], hb2.out.grown hg1 hb2.out.size (fun k e => by cases e; exact Nat.le_refl _)⟩))
end Go.Proofs.YtjcommodiihcdaaDoor
