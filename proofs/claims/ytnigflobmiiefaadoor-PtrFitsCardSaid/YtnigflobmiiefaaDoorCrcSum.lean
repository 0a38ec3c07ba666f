/- CrcSum -/
import Derived.Test.YtnigflobmiiefaaDoorCrcA
import Derived.Test.YtnigflobmiiefaaDoorBaseA
import Derived.BigRegionIn
import Derived.Stop.RegionWithIn
import Derived.Shelf.Abstract
import Derived.ProofKit
import Derived.OpenShut
/- crc.Sum, for whatever parts. -/
namespace Go.Proofs.YtnigflobmiiefaaDoor
open Go.RowKit Go.Shelf
set_option linter.unusedVariables false
attribute [local go_sem] Oper.semAt_some bits_xor_u bits_and_u bits_not_u wrap_u64_bI wrap_u8_uI uI_shr1 uI_shr8
set_option maxRecDepth 100000 in
set_option maxHeartbeats 2000000 in
theorem sum_in (n : Nat) (hn : 4 ≤ n) (A : Option Addr) (len cap : Nat) (ls : List (List (BitVec 8))) (w : World) (hp : Parts w.heap.size w (.slice A len cap) ls) :
    CallsIn Fence.wide n Tryd.prog 43 #[.slice A len cap] w fun e w' => e = .returned (.int .u64 (uI (CrcM.sum ls.flatten))) ∧ Below w.heap.size w w' := by
  have h1 : 1 ≤ n := by omega
  have hz := fun w => zero_tab w
  refine callsIn_of_wp_marks Tryd.func43 rfl trivial ?_ rfl
  simp only [Tryd.ntmps43, List.size_toArray, List.length_cons, List.length_nil, Nat.reduceAdd, Nat.reduceSub, Array.replicate_succ, Array.replicate_zero, List.push_toArray, List.append_toArray, List.nil_append, List.cons_append]
  gi_wp2_with (first | (refine ⟨trivial, ?_⟩; gi_at_call 49; refine (callsIn_wide.2 (table_any _)).mono ?_; rintro e w1 ⟨rfl, hb1⟩) | (refine ⟨trivial, ?_⟩; gi_at_call 50; refine (callsIn_wide.2 (bytesOf_any _ _ _ _)).mono ?_; rintro e w' ⟨rfl, rfl⟩) | (refine wpListIn_store_row rfl 74 (.tmp 3) (.tmp 6) rfl w1.heap.size (tarr 256) (by exact rfl) (by exact rfl) 74 tz (by exact Row.new _ _ _) (by kernel_rfl) rfl (tab_one _ _ fun _ _ => rfl) ?_; rw [setRow_new]))
  have hones : Hid (Value.int .u64 18446744073709551615 = Value.int .u64 (uI (CrcM.run (BitVec.allOnes 64) []))) := rfl
  have hB0 : Below w.heap.size w (((w1.alloc (Obj.cells (tarr 256) 74)).alloc (Obj.cells #[Value.int IntKind.u64 18446744073709551615] 25)).alloc (Obj.cells #[Value.slice A len cap] 72)) :=
    ((hb1.alloc hb1.size _).alloc (by have := hb1.size; simp; omega) _).alloc (by have := hb1.size; simp; omega) _
  have hle : w.heap.size ≤ w1.heap.size := hb1.size
  have hrow : Row (((w1.alloc (Obj.cells (tarr 256) 74)).alloc (Obj.cells #[Value.int IntKind.u64 18446744073709551615] 25)).alloc (Obj.cells #[Value.slice A len cap] 72)) w1.heap.size 74 (tarr 256) := ((Row.new _ _ _).alloc _).alloc _
  have hcr : Row (((w1.alloc (Obj.cells (tarr 256) 74)).alloc (Obj.cells #[Value.int IntKind.u64 18446744073709551615] 25)).alloc (Obj.cells #[Value.slice A len cap] 72)) (w1.heap.size + 1) 25 #[Value.int IntKind.u64 18446744073709551615] := by
    have h := (Row.new (w1.alloc (Obj.cells (tarr 256) 74)) 25 #[Value.int IntKind.u64 18446744073709551615]).alloc (Obj.cells #[Value.slice A len cap] 72)
    simpa using h
  have hpr : (((w1.alloc (Obj.cells (tarr 256) 74)).alloc (Obj.cells #[Value.int IntKind.u64 18446744073709551615] 25)).alloc (Obj.cells #[Value.slice A len cap] 72)).cell? ⟨w1.heap.size + 1 + 1, 0, none⟩ = some (Value.slice A len cap) := by
    have h := (Row.new ((w1.alloc (Obj.cells (tarr 256) 74)).alloc (Obj.cells #[Value.int IntKind.u64 18446744073709551615] 25)) 72 #[Value.slice A len cap]).cell 0
    simpa using h
  have hsz : (((w1.alloc (Obj.cells (tarr 256) 74)).alloc (Obj.cells #[Value.int IntKind.u64 18446744073709551615] 25)).alloc (Obj.cells #[Value.slice A len cap] 72)).heap.size = w1.heap.size + 3 := by simp
  generalize (((w1.alloc (Obj.cells (tarr 256) 74)).alloc (Obj.cells #[Value.int IntKind.u64 18446744073709551615] 25)).alloc (Obj.cells #[Value.slice A len cap] 72)) = w3 at *
  rw [hones.out] at hcr
  have hp3 := hp.below hB0
  refine wpIn_rangeFunc_ownF rfl h1 (gf := 54) (lb := #[.pointer (some ⟨w1.heap.size + 1 + 1, 0, none⟩)]) rfl trivial (enters_of Tryd.func54 (by kernel_rfl) rfl)
    (bytesOf_stops (n - 1) (by omega) (w1.heap.size + 1 + 1) w.heap.size (.slice A len cap) ls w3 (by omega) (by omega) hpr hp3) belowK_t (belowK_b (by omega)) (Below.refl _ _) (fun _ => rfl)
    (fun pre W => (Row W w1.heap.size 74 (tarr 256) ∧ Row W (w1.heap.size + 1) 25 #[Value.int .u64 (uI (CrcM.run (BitVec.allOnes 64) pre))]) ∧ Below w.heap.size w W)
    (fun _ _ _ => False)
    ?own (fun _ _ _ _ _ hs _ _ => hs) ⟨⟨hrow, hcr⟩, hB0⟩
    (fun x => { tmps := #[Value.slice A len cap, undef, Value.int IntKind.u64 0,
          Value.pointer (some { block := w1.heap.size, off := 0 }),
          Value.pointer (some { block := w1.heap.size + 1, off := 0 }), .int .u8 (bI x), Value.agg (tarr 256),
          Value.slice A len cap,
          Value.func (Fn.func 54) #[] #[Value.pointer (some { block := w1.heap.size + 1 + 1, off := 0 })], .int .u8 (bI x), undef,
          undef, undef, undef, undef, undef, undef, undef, undef, undef, undef], defers := [] }) ?assign ?body ?done ?stop
  case own =>
    refine OwnFrom.and (fun s A B row hs hg hr => ⟨hs.1.grown hg fun e => ?_, hs.2.grown hg fun e => ?_⟩) (ownFrom_below (Nat.le_refl _) (by omega))
    · obtain ⟨h, _⟩ := hr _ e.symm; omega
    · obtain ⟨h, _⟩ := hr _ e.symm; omega
  case assign =>
    intro l x W K hK
    gi_wp2
    exact hK
  case body =>
    rintro l pre x W ⟨⟨hr, hc⟩, hB⟩ _
    have hcc : W.cell? ⟨w1.heap.size + 1, 0, none⟩ = some (.int .u64 (uI (CrcM.run (BitVec.allOnes 64) pre))) := hc.cell 0
    have hcf := hc.frozen 0
    generalize hcg : CrcM.run (BitVec.allOnes 64) pre = c at *
    have HC := Lib.hid hcg; clear hcg
    obtain ⟨j, hj, hjx, hjT⟩ : ∃ j : Nat, j < 256 ∧ bits .xor .u8 (bI (c.setWidth 8)) (bI x) = (j : Int) ∧ W.cell? ⟨w1.heap.size, j, none⟩ = some (.int .u64 (uI (CrcM.T (c.setWidth 8 ^^^ x)))) := by
      refine ⟨(c.setWidth 8 ^^^ x).toNat, (c.setWidth 8 ^^^ x).isLt, by rw [bits_xor_b]; rfl, ?_⟩
      rw [hr.cell, tarr_get _ _ (c.setWidth 8 ^^^ x).isLt]
      generalize c.setWidth 8 ^^^ x = y
      have hy : y.toNat < 256 := y.isLt
      simp [tv, hy]
    have hjI : (j : Int) < 256 := by omega
    gi_wp2
    refine wpIn_region_still_tail 9 (by kernel_rfl) (by kernel_rfl) (by kernel_rfl) ?_
    simp only [List.take_succ_cons, List.take_zero, List.drop_succ_cons, List.drop_zero]
    repeat still_step
    try refine wpStill_nil ?_
    go_wp2
    refine ⟨by simp, ?_⟩
    gi_wp2
    refine ⟨(KeepsOthers.setCell _ _ _).trans (KeepsOthers.drew _), ((Below.refl _ W).setCell (by simp; omega) _).drew, ⟨(hr.far (by simp) _).drew, ?_⟩, (hB.setCell (by simp; omega) _).drew⟩
    have h2 := (hc.set 0 (Value.int .u64 (uI (CrcM.T (BitVec.setWidth 8 c ^^^ x) ^^^ c >>> 8)))).drew
    rw [CrcM.run_snoc, HC.out, CrcM.step_table]
    simpa using h2
  case done =>
    rintro D ys W hD rfl ⟨⟨_, hc⟩, hB⟩ hK
    have hcc : W.cell? ⟨w1.heap.size + 1, 0, none⟩ = some (.int .u64 (uI (CrcM.run (BitVec.allOnes 64) ls.flatten))) := hc.cell 0
    have HS : Hid (CrcM.sum ls.flatten = ~~~CrcM.run (BitVec.allOnes 64) ls.flatten) := rfl
    generalize CrcM.run (BitVec.allOnes 64) ls.flatten = c at *
    gi_wp2
    refine ⟨by simp, .inl ⟨_, _, rfl, run_takeDeferred hK, ?_⟩⟩
    exact ⟨_, results_tmp rfl _ _ _, by rw [HS.out]; rfl, hB.trans (belowK_b (w := w) (Nat.le_refl _) W D _ _ (by omega) hK rfl rfl)⟩
  case stop =>
    rintro D c pre W _ _ h _
    exact h.elim
/-- 'Sum': the sum of all parts' bytes; whatever lay before lies as it lay. -/
theorem sum_any (v : Value) (ls : List (List (BitVec 8))) (w : World) (hp : Parts w.heap.size w v ls) :
    Calls Tryd.prog 43 #[v] w fun e w' => e = .returned (.int .u64 (uI (CrcM.sum ls.flatten))) ∧ Below w.heap.size w w' := by
  have hp' := hp
  obtain ⟨vs, _, ⟨A, cap, rfl, _⟩, _⟩ := hp
  exact callsIn_wide.1 (sum_in 4 (Nat.le_refl _) A _ cap ls w hp')
end Go.Proofs.YtnigflobmiiefaaDoor
