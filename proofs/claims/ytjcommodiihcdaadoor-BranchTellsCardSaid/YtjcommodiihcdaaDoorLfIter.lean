/- LfIter -/
import Derived.Test.YtjcommodiihcdaaDoorLfTake
import Derived.Test.YtjcommodiihcdaaDoorLfItem
import Derived.Test.YtjcommodiihcdaaDoorTells
import Derived.Test.YtjcommodiihcdaaDoorPage
import Derived.TacticsInMore
import Derived.LoopNIn
import Derived.LoopIn
import Derived.BigFrameIn
/- The items that a page tells, as far as they can be taken: the iterator. -/
namespace Go.Proofs.YtjcommodiihcdaaDoor
open Go.RowKit Go.Shelf
set_option linter.unusedVariables false
set_option linter.unusedSimpArgs false
attribute [local go_sem] Oper.semAt_some
attribute [local go_sem high] sliced_cut
namespace LeafM
theorem item_err {b : List (BitVec 8)} (h : ¬ tkE b = 0) : item b = none := by
  unfold item
  refine if_neg (fun h2 => h ?_)
  unfold tkE
  rw [if_pos h2.1]
  exact h2.2.1
theorem tk_zero {b : List (BitVec 8)} (h : tkE b = 0) : PackM.tbE b 8 = 0 ∧ PackM.takeE (PackM.tbR b 8) 1 = 0 ∧ tkN b = PackM.takeN (PackM.tbR b 8) 1 ∧ tkR b = PackM.takeR (PackM.tbR b 8) 1 := by
  unfold tkE at h
  by_cases h8 : PackM.tbE b 8 = 0
  · rw [if_pos h8] at h
    exact ⟨h8, h, if_pos h8, if_pos h8⟩
  · rw [if_neg h8] at h
    exact absurd h h8
theorem item_val {b : List (BitVec 8)} (h : tkE b = 0) (hn : tkN b = 0#64) : item b = if PackM.tbE (tkR b) 16 = 0 then some (⟨PackM.tbS b 8, PackM.tbS (tkR b) 16, PtM.none, 0#16⟩, PackM.tbR (tkR b) 16) else none := by
  obtain ⟨h1, h2, h3, h4⟩ := tk_zero h
  unfold item
  rw [if_pos ⟨h1, h2, by rw [← h3, hn]; decide⟩, ← h3, if_pos hn, ← h4]
theorem item_over {b : List (BitVec 8)} (h : tkE b = 0) (hn : tkN b = 1#64) : item b = if toE (tkR b) = 0 then some (⟨PackM.tbS b 8, [], toP (tkR b), (PackM.takeN (tkR b) 2).setWidth 16⟩, toR (tkR b)) else none := by
  obtain ⟨h1, h2, h3, h4⟩ := tk_zero h
  unfold item
  rw [if_pos ⟨h1, h2, by rw [← h3, hn]; decide⟩, ← h3, if_neg (by rw [hn]; decide), ← h4]
  unfold toE toP toR
  by_cases h5 : PackM.takeE (tkR b) 2 = 0
  · rw [if_pos h5, if_pos h5, if_pos h5]
    by_cases h6 : PtM.takeE (PackM.takeR (tkR b) 2) = 0
    · rw [if_pos h6, if_pos ⟨h5, h6⟩]
    · rw [if_neg h6, if_neg (fun h => h6 h.2)]
  · rw [if_neg h5, if_neg h5, if_neg (fun h => h5 h.1)]
theorem item_else {b : List (BitVec 8)} (h0 : ¬ tkN b = 0#64) (h1 : ¬ tkN b = 1#64) : item b = none := by
  unfold item
  refine if_neg (fun h2 => ?_)
  have h3 : tkN b = PackM.takeN (PackM.tbR b 8) 1 := if_pos h2.1
  have h4 := h2.2.2
  rw [← h3] at h4
  have : (tkN b).toNat = 0 ∨ (tkN b).toNat = 1 := by omega
  rcases this with h5 | h5
  · exact h0 (BitVec.eq_of_toNat_eq h5)
  · exact h1 (BitVec.eq_of_toNat_eq h5)
theorem tkR_len (b : List (BitVec 8)) : (tkR b).length ≤ b.length := by
  unfold tkR; split
  · exact Nat.le_trans (takeR_len' _ _) (tbR_len' _ _)
  · exact tbR_len' _ _
theorem toR_len (b : List (BitVec 8)) : (toR b).length ≤ b.length := by
  unfold toR; split
  · refine Nat.le_trans ?_ (takeR_len' b 2)
    unfold PtM.takeR
    split
    · exact Nat.le_refl _
    · rw [List.length_drop]; omega
  · exact takeR_len' _ _
end LeafM
/-- What a round keeps: all below B, and rows of bytes in memory from B on. -/
structure Leaves (B : Nat) (W W' : World) : Prop where
  below : Below B W W'
  mine : ∀ v l, Mine B W v l → Mine B W' v l
theorem Leaves.t {B : Nat} {X Y Z : World} (h : Leaves B X Y) (k : Leaves B Y Z) : Leaves B X Z := ⟨h.below.trans k.below, fun v l hm => k.mine v l (h.mine v l hm)⟩
/-- Bytes below B, or in memory of one's own from B on. -/
def Held (B : Nat) (W : World) (v : Value) (l : List (BitVec 8)) : Prop := Bytes B W v l ∨ Mine B W v l
theorem Held.bytes {B : Nat} {W : World} {v : Value} {l : List (BitVec 8)} (h : Held B W v l) (hB : B ≤ W.heap.size) : Bytes W.heap.size W v l := h.elim (fun h => h.more hB) (fun h => h.bytes)
theorem Held.grows {B : Nat} {W W' : World} {v : Value} {l : List (BitVec 8)} (h : Held B W v l) (hB : B ≤ W.heap.size) (hg : Grows W W') : Held B W' v l := h.elim (fun h => .inl (h.below (Below.mono hg hB))) (fun h => .inr (h.grows hg))
theorem Held.kept {B : Nat} {W W' : World} {v : Value} {l : List (BitVec 8)} (h : Held B W v l) (hk : Leaves B W W') : Held B W' v l := h.elim (fun h => .inl (h.below hk.below)) (fun h => .inr (hk.mine _ _ h))
theorem Glob.below {B : Nat} {w w' : World} (h : Glob w) (hg : Below B w w') (hB : 0 < B) : Glob w' := fun j v hv => (hg.cell (p := ⟨0, 0 + j, none⟩) hB).trans (h j v hv)
theorem wpListIn_doesG {F : Fence} {nn : Nat} {P : Program} {w : World} {ops : Array Oper} {rest : List Oper} {o : Oper} {a : Act} {Q : Exit → Act → World → Prop} {R : Value → World → Prop} (hF : WideF F) (hw : Region.wanted o (yielded ops a.tmps) = true) (hnd : ∀ c, o.op ≠ .defer c) (h : Does P o a.eval w R)
    (hK : ∀ v w', R v w' → wpListIn F nn P ops Q rest (a.put o.dst v) w') : wpListIn F nn P ops Q (o :: rest) a w :=
  BigFrame.wpListIn_want hw fun K hK' => Does.wpIn hF hnd h (fun v w' hR => hK' _ _ (hK v w' hR))
theorem skip_fence : ∀ f : FuncId, none = some f → Fence.wide.fn f := fun _ _ => trivial
theorem own_raw {B : Nat} {W : World} {r : Raw} {x : It} (h : RawOwn B W r x) : RawIs W.heap.size W r x := h.is
end Go.Proofs.YtjcommodiihcdaaDoor
