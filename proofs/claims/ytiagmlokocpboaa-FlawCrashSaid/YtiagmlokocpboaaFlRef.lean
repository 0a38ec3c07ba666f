/- FlRef -/
import Derived.Test.YtiagmlokocpboaaBaseC
import Derived.Test.YtiagmlokocpboaaVdCopy
import Derived.Test.YtiagmlokocpboaaVdRef
import Derived.Test.YtiagmlokocpboaaVdvOwn
/- The document's small answers for layer 4: a write's pick, a row without a number. -/
namespace Go.Proofs.Ytiagmlokocpboaa
open Go.RowKit
set_option linter.unusedVariables false
set_option linter.unusedSimpArgs false
theorem tmod3 (x : BitVec 8) : (bI x).tmod 3 = ((x.toNat % 3 : Nat) : Int) := by
  unfold bI
  rw [Int.tmod_eq_emod_of_nonneg (by omega)]
  omega
theorem ints_of_one (W : World) (x : Int) : Els 1 intE (W.heap.size + 1) (W.alloc (.cells #[.int .i64 x] 3)) (.slice (some ⟨W.heap.size, 0, none⟩) 1 1) [x] := by
  refine ⟨fun y hy => rfl, _, 1, rfl, Nat.le_refl _, by decide, fun _ => ⟨W.heap.size, 0, rfl, Nat.lt_succ_self _, fun j u hu => ?_⟩⟩
  rw [Nat.zero_add, (Row.new W 3 #[.int .i64 x]).cell]
  simpa [intE] using hu
theorem Own'.nothing {α : Type} (e : TypeId) (s : Nat) (f : α → List Value) (base : Nat) (w : World) : Own' e s f base w (.slice none 0 0) ([] : List α) := ⟨fun _ h => by simp at h, World.ownsRow_nil _ _ _ _⟩
set_option maxHeartbeats 1000000 in
theorem rpick_any (v : Value) (picks : List (BitVec 8)) (i : Nat) (w : World) (hv : Bytes w.heap.size w v picks) (hl : picks.length ≤ 900000) (hi : i ≤ 900000) :
    Calls Try.prog 31 #[v, .int .i64 i] w fun e w' => e = .returned (.int .u8 (FlM.fate picks i)) ∧ w' = w := by
  obtain ⟨A, cap, rfl, q1, q2, q3⟩ := hv
  simp only [List.length_map] at q1 q3 ⊢
  unfold maxLen at q2
  by_cases h : i < picks.length
  · have hi2 : (i : Int) < picks.length := by omega
    obtain ⟨g1, o1, rfl, hg1, hcA⟩ := q3 (by omega)
    have e1 : picks[i]? = some picks[i] := List.getElem?_eq_getElem h
    have hck := hcA i (byteV picks[i]) (by rw [List.getElem?_map, e1]; rfl)
    have HF := Lib.hid (FlM.fate_some e1)
    have HM := tmod3 picks[i]
    generalize picks[i] = x at *
    unfold byteV at hck
    clear e1 hcA
    go_enter Try.func31, Try.ntmps31
    go_wp2
    go_ret
    exact ⟨by rw [HF.out, ← HM]; rfl, rfl⟩
  · have hi2 : ¬ (i : Int) < picks.length := by omega
    have HF := Lib.hid (FlM.fate_none (picks := picks) (i := i) (by omega))
    clear q3
    go_enter Try.func31, Try.ntmps31
    go_wp2
    go_ret
    exact ⟨by rw [HF.out]; rfl, rfl⟩
set_option maxRecDepth 20000 in
set_option maxHeartbeats 2000000 in
theorem rwithout_any (v : Value) (l : List Int) (n : Int) (w : World) (hv : Els 1 intE w.heap.size w v l) (hl : l.length ≤ 900000) :
    Calls Try.prog 33 #[v, .int .i64 n] w fun e w' => ∃ r, e = .returned r ∧ Own' 3 1 intE w.heap.size w' r (l.filter fun b => !(b == n)) ∧ Grows w w' := by
  obtain ⟨A, cap, rfl, q1, q2, q3⟩ := hv.ints
  have HQ := Lib.hid q3
  clear q3 hv
  unfold maxLen at q2
  go_enter Try.func33, Try.ntmps33
  go_wp2
  go_loopw [5, 6] (fun o i wr => ∃ k : Nat, k ≤ l.length ∧ i = .int .i64 k ∧ Own' 3 1 intE w.heap.size wr o ((l.take k).filter fun b => !(b == n)) ∧ Grows w wr) (fun _ i _ => l.length - (intOf i).toNat)
  case atStart => exact ⟨0, Nat.zero_le _, rfl, Own'.nothing _ _ _ _ _, Grows.refl _⟩
  case round =>
    obtain ⟨k, hk, rfl, ho, hb⟩ := hrel
    have HO := Lib.hid ho; have HB := Lib.hid hb
    clear ho hb
    by_cases hlt : k < l.length
    · obtain ⟨g1, o1, rfl, hg1, hcA⟩ := HQ.out (by omega)
      have e1 : l[k]? = some l[k] := List.getElem?_eq_getElem hlt
      have hc := (Below.cell HB.out (p := ⟨g1, o1 + k, none⟩) hg1).trans (hcA k _ e1)
      have HS := Lib.hid (FlM.filter_step (fun b => !(b == n)) l k _ e1)
      generalize l[k] = x at *
      have hlen2 : ((l.take k).filter fun b => !(b == n)).length ≤ 900000 := Nat.le_trans (List.length_filter_le _ _) (by rw [List.length_take]; omega)
      generalize (l.take k).filter (fun b => !(b == n)) = L at *
      clear e1 hcA HQ
      by_cases hx : x = n
      · subst hx
        have HE : Hid ((l.take (k + 1)).filter (fun b => !(b == x)) = L) := by have := HS.out; unfold Hid; simpa using this
        clear HS
        go_wp2
        go_roundw
        case rel => exact ⟨k + 1, by omega, by go_num, by rw [HE.out]; exact HO.out, HB.out⟩
        case measure => simp [intOf]; omega
      · have HE : Hid ((l.take (k + 1)).filter (fun b => !(b == n)) = L ++ [x]) := by have := HS.out; unfold Hid; simpa [hx] using this
        clear HS
        go_wp2_with (first
          | ((with_reducible refine wpList_append_els elT_int intE_one ?_ (.tmp 19) (.tmp 24) ?_ w.heap.size (wr.heap.size + 1) L [x] ?_ ?_ ?_ ?_ ?_ ?_); exact rfl; exact rfl; exact HO.out.grows (Grows.alloc _ _); exact ints_of_one wr x; simp; unfold maxLen; omega; simp; omega; have := HB.out.size; simp; omega; intro v5 w5 h51 h52 _; have X0 := Lib.hid h51; have XB := Lib.hid (((show Grows w wr from HB.out).trans (Grows.alloc _ _)).grown h52 (by have := HB.out.size; simp; omega) (fun j e => own_low HO.out j e)); clear h51 h52))
        go_roundw
        case rel => exact ⟨k + 1, by omega, by go_num, by rw [HE.out]; exact X0.out, XB.out⟩
        case measure => simp [intOf]; omega
    · obtain rfl : k = l.length := by omega
      have HF0 := HO.out
      rw [List.take_length] at HF0
      have HF := Lib.hid HF0
      clear HO HQ HF0
      go_wp2
      go_ret
      exact ⟨_, rfl, HF.out, HB.out⟩
end Go.Proofs.Ytiagmlokocpboaa
