/- PackTb -/
import Derived.Test.YtnigflobmiiefaaDoorPackTake
/- pack.TakeBytes. -/
namespace Go.Proofs.YtnigflobmiiefaaDoor
open Go.RowKit Go.Shelf
set_option linter.unusedVariables false
set_option linter.unusedSimpArgs false
attribute [local go_sem] Oper.semAt_some
attribute [local go_sem high] sliced_cut
/-- How many bytes the rounds so far have been told; the bytes that they have taken; that none of them has left. -/
def mvT (b : List (BitVec 8)) (pre : List (Fin b.length)) : Nat := pre.foldl (fun (m : Nat) (i : Fin b.length) => if i.val = 0 then (b[i.val]).toNat else m) 0
def svT (b : List (BitVec 8)) (pre : List (Fin b.length)) : List (BitVec 8) := pre.foldl (fun (s : List (BitVec 8)) (i : Fin b.length) => if i.val = 0 then s else s ++ [b[i.val]]) []
def okT (b : List (BitVec 8)) (pre : List (Fin b.length)) : Prop := ∀ (p : List (Fin b.length)) (i : Fin b.length), p ++ [i] <+: pre → i.val ≠ 0 → i.val ≤ mvT b p
theorem mvT_snoc (b : List (BitVec 8)) (pre : List (Fin b.length)) (i : Fin b.length) : mvT b (pre ++ [i]) = if i.val = 0 then (b[i.val]).toNat else mvT b pre := by
  unfold mvT; rw [List.foldl_append]; rfl
theorem svT_snoc (b : List (BitVec 8)) (pre : List (Fin b.length)) (i : Fin b.length) : svT b (pre ++ [i]) = if i.val = 0 then svT b pre else svT b pre ++ [b[i.val]] := by
  unfold svT; rw [List.foldl_append]; rfl
theorem okT_snoc {b : List (BitVec 8)} {pre : List (Fin b.length)} {i : Fin b.length} (h : okT b pre) (hi : i.val ≠ 0 → i.val ≤ mvT b pre) : okT b (pre ++ [i]) := by
  intro p j hp hj
  rcases List.prefix_concat_iff.1 hp with e | e
  · obtain ⟨rfl, e2⟩ := List.append_inj' e rfl
    obtain rfl : j = i := by simpa using e2
    exact hi hj
  · exact h p j e hj
theorem mvT_lt (b : List (BitVec 8)) (pre : List (Fin b.length)) : mvT b pre < 256 := by
  have : ∀ (l : List (Fin b.length)) (m : Nat), m < 256 → l.foldl (fun (m : Nat) (i : Fin b.length) => if i.val = 0 then (b[i.val]).toNat else m) m < 256 := by
    intro l
    induction l with
    | nil => exact fun m h => h
    | cons i l ih =>
      intro m h
      refine ih _ ?_
      dsimp only
      split
      · exact (b[i.val]).isLt
      · exact h
  exact this pre 0 (by omega)
theorem svT_len (b : List (BitVec 8)) (pre : List (Fin b.length)) : (svT b pre).length ≤ pre.length := by
  have : ∀ (l : List (Fin b.length)) (s : List (BitVec 8)), (l.foldl (fun (s : List (BitVec 8)) (i : Fin b.length) => if i.val = 0 then s else s ++ [b[i.val]]) s).length ≤ s.length + l.length := by
    intro l
    induction l with
    | nil => intro s; simp
    | cons i l ih =>
      intro s
      refine Nat.le_trans (ih _) ?_
      dsimp only
      split <;> simp <;> omega
  simpa [svT] using this pre []
theorem mvT_take (b : List (BitVec 8)) : ∀ k, k ≤ b.length → mvT b ((List.finRange b.length).take k) = if k = 0 then 0 else PackM.many b
  | 0, _ => rfl
  | k + 1, h => by
    rw [fins_take k (by omega), mvT_snoc, mvT_take b k (by omega)]
    by_cases hk : k = 0
    · subst hk
      cases b with
      | nil => simp at h
      | cons x l => simp [PackM.many]
    · simp [hk]
theorem svT_take (b : List (BitVec 8)) : ∀ k, k ≤ b.length → svT b ((List.finRange b.length).take k) = (b.take k).drop 1
  | 0, _ => by simp [svT]
  | k + 1, h => by
    have e : b.take (k + 1) = b.take k ++ [b[k]] := by rw [List.take_add_one, List.getElem?_eq_getElem (by omega)]; rfl
    rw [fins_take k (by omega), svT_snoc, svT_take b k (by omega), e]
    by_cases hk : k = 0
    · subst hk; simp
    · rw [if_neg hk, List.drop_append_of_le_length (by rw [List.length_take]; omega)]
theorem okT_take {b : List (BitVec 8)} {k : Nat} (hk : k ≤ b.length) (h : okT b ((List.finRange b.length).take k)) (h2 : 2 ≤ k) : k - 1 ≤ PackM.many b := by
  have h1 := h ((List.finRange b.length).take (k - 1)) ⟨k - 1, by omega⟩ (by rw [← fins_take (k - 1) (by omega), show k - 1 + 1 = k by omega]; exact List.prefix_refl _) (by simp; omega)
  rw [mvT_take b _ (by omega), if_neg (by omega)] at h1
  exact h1
/-- Where all have come. -/
theorem tb_done (b : List (BitVec 8)) (h : okT b (List.finRange b.length)) : mvT b (List.finRange b.length) = PackM.many b ∧ svT b (List.finRange b.length) = (b.drop 1).take (PackM.many b) := by
  have e1 := mvT_take b b.length (Nat.le_refl _)
  have e2 := svT_take b b.length (Nat.le_refl _)
  rw [← fins_all] at h
  have e3 := okT_take (Nat.le_refl _) h
  rw [fins_all] at e1 e2
  rw [List.take_length] at e2
  refine ⟨?_, ?_⟩
  · rw [e1]
    split
    · next h0 => rw [List.length_eq_zero_iff.1 h0]; rfl
    · rfl
  · rw [e2, List.take_of_length_le]
    rw [List.length_drop]
    by_cases h2 : 2 ≤ b.length
    · exact e3 h2
    · omega
/-- Where a round has left. -/
theorem tb_stop (b : List (BitVec 8)) (ini : List (Fin b.length)) (last : Fin b.length) (hp : ini ++ [last] <+: List.finRange b.length) (h0 : last.val ≠ 0) (hm : mvT b ini < last.val) (h : okT b ini) :
    mvT b ini = PackM.many b ∧ svT b ini = (b.drop 1).take (PackM.many b) := by
  have e := prefix_fins hp
  have hl := last.isLt
  rw [e] at h hm ⊢
  have e1 := mvT_take b last.val (by omega)
  have e2 := svT_take b last.val (by omega)
  have e3 := okT_take (by omega) h
  rw [if_neg h0] at e1
  refine ⟨e1, ?_⟩
  rw [e1] at hm
  have hk : last.val = PackM.many b + 1 := by
    by_cases h2 : 2 ≤ last.val
    · have := e3 h2; omega
    · omega
  rw [e2, hk, List.drop_take]
  rfl
def InvT (w : World) (b : List (BitVec 8)) (pre : List (Fin b.length)) (W : World) : Prop :=
  (∃ v, Boxed W w.heap.size 30 v ∧ W.ownsRow w.heap.size 5 1 v (svT b pre).length ((svT b pre).map byteV) ∧ True) ∧ okT b pre ∧ Boxed W (w.heap.size + 1) 3 (.int .i64 (mvT b pre)) ∧ Below w.heap.size w W
def LeftT (w : World) (b : List (BitVec 8)) (c : Code) (pre : List (Fin b.length)) (W : World) : Prop :=
  ∃ ini last, (c = .exit 0 ∧ pre = ini ++ [last] ∧ last.val ≠ 0 ∧ mvT b ini < last.val ∧ okT b ini) ∧ (∃ v, Boxed W w.heap.size 30 v ∧ W.ownsRow w.heap.size 5 1 v (svT b ini).length ((svT b ini).map byteV) ∧ True) ∧ Boxed W (w.heap.size + 1) 3 (.int .i64 (mvT b ini)) ∧ Below w.heap.size w W
end Go.Proofs.YtnigflobmiiefaaDoor
