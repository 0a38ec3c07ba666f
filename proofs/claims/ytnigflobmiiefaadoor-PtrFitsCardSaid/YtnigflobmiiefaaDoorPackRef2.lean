/- PackRef2 -/
import Derived.Test.YtnigflobmiiefaaDoorPackRef
/- The document's Put, PutBytes, TakeBytes. -/
namespace Go.Proofs.YtnigflobmiiefaaDoor
open Go.RowKit
set_option linter.unusedVariables false
set_option linter.unusedSimpArgs false
attribute [local go_sem high] sliced_cut
attribute [local go_sem] cutA_zero Nat.sub_zero
/-- append onto an empty literal, then what it holds. -/
theorem rput_any (v : Value) (b : List (BitVec 8)) (x : BitVec 64) (width : Int) (w : World) (hv : Bytes w.heap.size w v b) (hl : b.length ≤ 900000) (b1 : -9223372036854775808 ≤ width) (b2 : width ≤ 9223372036854775807) :
    Calls Tryd.prog 40 #[v, .int .u64 (uI x), .int .i64 width] w fun e w' => ∃ r, e = .returned r ∧ Mine w.heap.size w' r (PackM.put b x width) ∧ Grows w w' := by
  have HV := Lib.hid hv
  obtain ⟨A, cap, rfl, q1, q2, _⟩ := hv
  simp only [List.length_map] at q1 HV ⊢
  unfold maxLen at q2
  have k1 := PackM.wd_lo width
  have k2 := PackM.wd_hi width
  have HI := Lib.hid (fun w => wide_any width b1 b2 w)
  have HD := Lib.hid (show PackM.put b x width = b ++ Num.bytes x (PackM.wd width) from rfl)
  generalize PackM.wd width = wd at *
  have q3 : (b.length : Int) ≤ 900000 := by omega
  have q4 : (wd : Int) ≤ 8 := by omega
  have HV0 : Hid (Bytes w.heap.size (w.alloc (.cells #[] 5)) (.slice A b.length cap) b) := Sl.below HV.out (Grows.alloc w _)
  go_enter Tryd.func40, Tryd.ntmps40
  go_wp2_with (first
    | ((with_reducible refine wpList_append_empty (o := ⟨some 11, _, _, _, _, _⟩) ?_ (.tmp 9) (.tmp 10) ?_ w.heap.size w.heap.size b ?_ ?_ ?_ ?_ ?_); exact rfl; exact rfl; exact rfl; exact Row.new w _ _; exact HV0.out; omega; intro v1 w1 hg1 hm1; obtain ⟨A1, c1, rfl, _, _⟩ := hm1.form; have HG1 := Lib.hid ((Grows.alloc w (.cells #[] 5)).trans hg1); have HM1 := Lib.hid hm1; clear hg1 hm1))
  go_loopw [7, 8] (fun o i wr => ∃ k : Nat, k ≤ wd ∧ i = .int .i64 k ∧ Mine w.heap.size wr o (b ++ Num.bytes x k) ∧ Below w.heap.size w wr) (fun _ i _ => wd - (intOf i).toNat)
  case atStart => exact ⟨0, Nat.zero_le _, rfl, by rw [Num.bytes_zero, List.append_nil]; exact HM1.out, HG1.out⟩
  case round =>
    obtain ⟨k, hk, rfl, hm, hb⟩ := hrel
    obtain ⟨A2, c2, rfl, _, _⟩ := hm.form
    have HM := Lib.hid hm; have HB := Lib.hid hb
    clear hm hb HM1 HG1
    have hln : (b ++ Num.bytes x k).length = b.length + k := by rw [List.length_append, Num.bytes_length]
    have HLN := Lib.hid hln
    have hb8 : uI x / 2 ^ (8 * k) % 256 = bI (Num.byteAt x k) := by
      rw [uI_shr]; unfold Num.byteAt uI bI; rw [BitVec.toNat_setWidth]; omega
    have HT := Lib.hid (Num.bytes_succ x k)
    by_cases hlt : k < wd
    · have hk8 : (k : Int) < 8 := by omega
      have hkw : (k : Int) < wd := by omega
      generalize Num.byteAt x k = y at *
      generalize hBs : b ++ Num.bytes x k = Bs at *
      have hbs := Lib.hid hBs
      clear hBs hln
      go_wp2_with (first
        | (go_at_call 46; refine (HI.out _).mono ?_; rintro e w' ⟨rfl, rfl⟩)
        | ((with_reducible refine wpList_append_mine (o := ⟨some 26, _, _, _, _, _⟩) ?_ (.tmp 18) (.tmp 25) ?_ w.heap.size (wr.heap.size + 1) Bs [y] ?_ ?_ ?_ ?_ ?_); exact rfl; exact rfl; exact HM.out.grows (Grows.alloc _ _); exact Bytes.one wr y; (rw [HLN.out]; simp; omega); (have := HB.out.size; simp; omega); intro v5 w5 hv5 hgr5 _ _; have HB5 := Lib.hid (below_mine (HB.out.trans ((Below.refl _ _).alloc HB.out.size _)) (HM.out.grows (Grows.alloc _ _)) hgr5 (Nat.le_refl _) (by have := HB.out.size; simp; omega)); obtain ⟨A5, c5, rfl, _, _⟩ := hv5.form; have HM5 := Lib.hid hv5; clear hv5 hgr5))
      go_roundw
      case rel => exact ⟨k + 1, by omega, by go_num, by rw [HT.out, ← List.append_assoc, hbs.out]; simpa using HM5.out, HB5.out⟩
      case measure => simp [intOf]; omega
    · obtain rfl : k = wd := by omega
      clear hb8
      go_wp2_with (first
        | (go_at_call 46; refine (HI.out _).mono ?_; rintro e w' ⟨rfl, rfl⟩))
      go_ret
      exact ⟨_, rfl, by rw [HD.out]; have h := HM.out; rw [HLN.out] at h; exact h, HB.out⟩
theorem does_append_bytes {B : Nat} {w : World} {o : Oper} {ρ : Operand → Value} {g : Nat} {m : List (BitVec 8)} (s x : Operand)
    (ho : o.op = .call { callee := .builtin .append, args := #[s, x], argTypes := #[30, 30] })
    (hs : ρ s = .slice (some ⟨g, 0, none⟩) 0 0) (hr : Row w g 5 #[]) (hx : Bytes B w (ρ x) m) (hlen : m.length ≤ 1000000) :
    Does Tryd.prog o ρ w fun v' w' => Grows w w' ∧ Bytes w'.heap.size w' v' m := by
  obtain ⟨v', w', hrun, h2, h3⟩ := run_append_empty o.type hr hx hlen
  unfold Does execOp
  simp only [ho, resolve, invoke, builtin, Sem.run_bind, Sem.run_pure, Result.andThen_ok, List.map_toArray, List.map_cons, List.map_nil, hs, hrun]
  exact ⟨h2, h3.bytes⟩
/-- An empty literal, just laid. -/
def EmptyLit (v : Value) (w : World) : Prop := ∃ g, v = .slice (some ⟨g, 0, none⟩) 0 0 ∧ Row w g 5 #[]
end Go.Proofs.YtnigflobmiiefaaDoor
