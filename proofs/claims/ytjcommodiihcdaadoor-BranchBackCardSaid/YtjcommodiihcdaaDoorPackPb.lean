/- PackPb -/
import Derived.Test.YtjcommodiihcdaaDoorPackSmall
import Derived.Laws.CopyOwn
import Derived.ProofKit
import Derived.OpenShut
/- pack.PutBytes, Clean, Fill, Halves. -/
namespace Go.Proofs.YtjcommodiihcdaaDoor
open Go.RowKit
set_option linter.unusedVariables false
set_option linter.unusedSimpArgs false
attribute [local go_sem high] sliced_cut
attribute [local go_sem] cutA_zero Nat.sub_zero
theorem ofNat_byte (n : Nat) (h : n < 256) : byteV (BitVec.ofNat 8 n) = .int .u8 n := by unfold byteV; rw [bI_ofNat n h]
set_option maxHeartbeats 1000000 in
set_option maxRecDepth 20000 in
theorem putBytes_any (v u : Value) (b s : List (BitVec 8)) (w : World) (hv : Bytes w.heap.size w v b) (hu : Bytes w.heap.size w u s) (hl : b.length ≤ 900000) :
    Calls Tryd.prog 24 #[v, u] w fun e w' => ∃ r, e = .returned r ∧ Mine w.heap.size w' r (PackM.putBytes b s) ∧ Grows w w' := by
  have HV := Lib.hid hv
  obtain ⟨A, cap, rfl, q1, q2, _⟩ := hv
  have HU := Lib.hid hu
  obtain ⟨A', cap', rfl, p1, p2, _⟩ := hu
  simp only [List.length_map] at q1 HV p1 HU ⊢
  unfold maxLen at q2 p2
  have HD := Lib.hid (show PackM.putBytes b s = b ++ BitVec.ofNat 8 (min s.length 255) :: s.take 255 from rfl)
  have q3 : (b.length : Int) ≤ 900000 := by omega
  by_cases h : s.length ≤ 255
  · rw [Nat.min_eq_left h, List.take_of_length_le h] at HD
    have HT := HU
    have h1 : (s.length : Int) ≤ 255 := by omega
    have hmn : min (s.length : Int) 255 = s.length := by omega
    have hmx : max (s.length : Int) 0 = s.length := by omega
    have HB1 : Hid (∀ W : World, Bytes (W.heap.size + 1) (W.alloc (.cells #[.int .u8 s.length] 5)) (.slice (some ⟨W.heap.size, 0, none⟩) 1 1) [BitVec.ofNat 8 s.length]) := fun W => by
      have := Bytes.one W (BitVec.ofNat 8 s.length)
      rw [bI_ofNat _ (by omega)] at this
      exact this
    go_enter Tryd.func24, Tryd.ntmps24
    go_wp2_with (first
      | ((with_reducible refine wpList_make_mine (o := ⟨some 17, _, _, _, _, _⟩) ?_ (.const (.int .i64 0)) (.tmp 16) ?_ w.heap.size (b.length + 1 + s.length) ((b.length : Int) + 1 + s.length) ?_ ?_ ?_ ?_ ?_ ?_); exact rfl; exact rfl; exact rfl; exact rfl; omega; omega; exact Nat.le_refl _; intro w1 hmk hg1 hlt1)
      | ((with_reducible refine wpList_append_mine (o := ⟨some 20, _, _, _, _, _⟩) ?_ (.tmp 18) (.tmp 19) ?_ w.heap.size w.heap.size [] b ?_ ?_ ?_ ?_ ?_); exact rfl; exact rfl; exact hmk; exact Sl.below HV.out hg1; (simp; omega); (exact hg1.size); intro v2 w2 hv2 hgr2 _ _; rw [List.nil_append] at hv2; have hb2 := Lib.hid (below_mine hg1 hmk hgr2 (Nat.le_refl _) hg1.size); obtain ⟨A2, c2, rfl, _, _⟩ := hv2.form; clear hgr2)
      | ((with_reducible refine wpList_append_mine (o := ⟨some 26, _, _, _, _, _⟩) ?_ (.tmp 21) (.tmp 25) ?_ w.heap.size (w2.heap.size + 1) b [BitVec.ofNat 8 s.length] ?_ ?_ ?_ ?_ ?_); exact rfl; exact rfl; exact hv2.grows (Grows.alloc _ _); exact HB1.out w2; (simp; omega); (have := hb2.out.size; simp; omega); intro v3 w3 hv3 hgr3 _ _; have hb3 := Lib.hid (below_mine (hb2.out.trans ((Below.refl _ _).alloc hb2.out.size _)) (hv2.grows (Grows.alloc _ _)) hgr3 (Nat.le_refl _) (by have := hb2.out.size; simp; omega)); obtain ⟨A3, c3, rfl, _, _⟩ := hv3.form; simp only [List.length_append, List.length_singleton] at hv3; clear hgr3)
      | ((with_reducible refine wpList_append_mine (o := ⟨some 29, _, _, _, _, _⟩) ?_ (.tmp 27) (.tmp 28) ?_ w.heap.size w.heap.size (b ++ [BitVec.ofNat 8 s.length]) s ?_ ?_ ?_ ?_ ?_); exact rfl; exact rfl; exact hv3; exact Sl.below HT.out hb3.out; (simp; omega); (exact hb3.out.size); intro v4 w4 hv4 hgr4 _ _; have hb4 := Lib.hid (below_mine hb3.out hv3 hgr4 (Nat.le_refl _) hb3.out.size); obtain ⟨A4, c4, rfl, _, _⟩ := hv4.form; clear hgr4))
    go_ret
    exact ⟨_, rfl, by rw [HD.out]; simpa using hv4, hb4.out⟩
  · rw [Nat.min_eq_right (by omega)] at HD
    have HT := Lib.hid (Bytes.take (n := 255) HU.out (by omega))
    have h1 : ¬ (s.length : Int) ≤ 255 := by omega
    have h2 : (255 : Int) < s.length := by omega
    have hmn : min (s.length : Int) 255 = 255 := by omega
    have h3 : (255 : Int) ≤ cap' := by omega
    have hln : (s.take 255).length = 255 := by rw [List.length_take]; omega
    generalize s.take 255 = s' at *
    have hln2 : s'.length ≤ 255 := by omega
    clear hln
    have HB1 : Hid (∀ W : World, Bytes (W.heap.size + 1) (W.alloc (.cells #[.int .u8 255] 5)) (.slice (some ⟨W.heap.size, 0, none⟩) 1 1) [BitVec.ofNat 8 255]) := fun W => by
      have := Bytes.one W (BitVec.ofNat 8 255)
      rw [bI_ofNat _ (by omega)] at this
      exact this
    go_enter Tryd.func24, Tryd.ntmps24
    go_wp2_with (first
      | ((with_reducible refine wpList_make_mine (o := ⟨some 17, _, _, _, _, _⟩) ?_ (.const (.int .i64 0)) (.tmp 16) ?_ w.heap.size (b.length + 1 + 255) ((b.length : Int) + 1 + 255) ?_ ?_ ?_ ?_ ?_ ?_); exact rfl; exact rfl; exact rfl; exact rfl; omega; omega; exact Nat.le_refl _; intro w1 hmk hg1 hlt1)
      | ((with_reducible refine wpList_append_mine (o := ⟨some 20, _, _, _, _, _⟩) ?_ (.tmp 18) (.tmp 19) ?_ w.heap.size w.heap.size [] b ?_ ?_ ?_ ?_ ?_); exact rfl; exact rfl; exact hmk; exact Sl.below HV.out hg1; (simp; omega); (exact hg1.size); intro v2 w2 hv2 hgr2 _ _; rw [List.nil_append] at hv2; have hb2 := Lib.hid (below_mine hg1 hmk hgr2 (Nat.le_refl _) hg1.size); obtain ⟨A2, c2, rfl, _, _⟩ := hv2.form; clear hgr2)
      | ((with_reducible refine wpList_append_mine (o := ⟨some 26, _, _, _, _, _⟩) ?_ (.tmp 21) (.tmp 25) ?_ w.heap.size (w2.heap.size + 1) b [BitVec.ofNat 8 255] ?_ ?_ ?_ ?_ ?_); exact rfl; exact rfl; exact hv2.grows (Grows.alloc _ _); exact HB1.out w2; (simp; omega); (have := hb2.out.size; simp; omega); intro v3 w3 hv3 hgr3 _ _; have hb3 := Lib.hid (below_mine (hb2.out.trans ((Below.refl _ _).alloc hb2.out.size _)) (hv2.grows (Grows.alloc _ _)) hgr3 (Nat.le_refl _) (by have := hb2.out.size; simp; omega)); obtain ⟨A3, c3, rfl, _, _⟩ := hv3.form; simp only [List.length_append, List.length_singleton] at hv3; clear hgr3)
      | ((with_reducible refine wpList_append_mine (o := ⟨some 29, _, _, _, _, _⟩) ?_ (.tmp 27) (.tmp 28) ?_ w.heap.size w.heap.size (b ++ [BitVec.ofNat 8 255]) s' ?_ ?_ ?_ ?_ ?_); exact rfl; exact rfl; exact hv3; exact Sl.below HT.out hb3.out; (simp; omega); (exact hb3.out.size); intro v4 w4 hv4 hgr4 _ _; have hb4 := Lib.hid (below_mine hb3.out hv3 hgr4 (Nat.le_refl _) hb3.out.size); obtain ⟨A4, c4, rfl, _, _⟩ := hv4.form; clear hgr4))
    go_ret
    exact ⟨_, rfl, by rw [HD.out]; simpa using hv4, hb4.out⟩
end Go.Proofs.YtjcommodiihcdaaDoor
