/- PackTb -/
import Derived.Test.YtjcommodiihcdaaDoorPackTake
/- pack.TakeBytes. -/
namespace Go.Proofs.YtjcommodiihcdaaDoor
open Go.RowKit Go.Shelf
set_option linter.unusedVariables false
set_option linter.unusedSimpArgs false
attribute [local go_sem] Oper.semAt_some
attribute [local go_sem high] sliced_cut
/-- How many bytes the rounds so far have been told; the bytes that they have taken; that none of them has left. -/
def mvT (b : List (BitVec 8)) (pre : List (Fin b.length)) : Nat := pre.foldl (fun (m : Nat) (i : Fin b.length) => if i.val = 0 then (b[i.val]).toNat else m) 0
def svT (b : List (BitVec 8)) (pre : List (Fin b.length)) : List (BitVec 8) := pre.foldl (fun (s : List (BitVec 8)) (i : Fin b.length) => if i.val = 0 then s else s ++ [b[i.val]]) []
def okT (b : List (BitVec 8)) (pre : List (Fin b.length)) : Prop := ∀ (p : List (Fin b.length)) (i : Fin b.length), p ++ [i] <+: pre → i.val ≠ 0 → i.val ≤ mvT b p
theorem mvT_snoc (b : List (BitVec 8)) (pre : List (Fin b.length)) (i : Fin b.length) : mvT b (pre ++ [i]) = if i.val = 0 then (b[i.val]).toNat else mvT b pre := by
  unfold mvT; rw [List.foldl_append]; rfl
theorem svT_snoc (b : List (BitVec 8)) (pre : List (Fin b.length)) (i : Fin b.length) : svT b (pre ++ [i]) = if i.val = 0 then svT b pre else svT b pre ++ [b[i.val]] := by
  unfold svT; rw [List.foldl_append]; rfl
theorem okT_snoc {b : List (BitVec 8)} {pre : List (Fin b.length)} {i : Fin b.length} (h : okT b pre) (hi : i.val ≠ 0 → i.val ≤ mvT b pre) : okT b (pre ++ [i]) := by
  intro p j hp hj
  rcases List.prefix_concat_iff.1 hp with e | e
  · obtain ⟨rfl, e2⟩ := List.append_inj' e rfl
    obtain rfl : j = i := by simpa using e2
    exact hi hj
  · exact h p j e hj
theorem mvT_lt (b : List (BitVec 8)) (pre : List (Fin b.length)) : mvT b pre < 256 := by
  have : ∀ (l : List (Fin b.length)) (m : Nat), m < 256 → l.foldl (fun (m : Nat) (i : Fin b.length) => if i.val = 0 then (b[i.val]).toNat else m) m < 256 := by
    intro l
    induction l with
    | nil => exact fun m h => h
    | cons i l ih =>
      intro m h
      refine ih _ ?_
      dsimp only
      split
      · exact (b[i.val]).isLt
      · exact h
  exact this pre 0 (by omega)
theorem svT_len (b : List (BitVec 8)) (pre : List (Fin b.length)) : (svT b pre).length ≤ pre.length := by
  have : ∀ (l : List (Fin b.length)) (s : List (BitVec 8)), (l.foldl (fun (s : List (BitVec 8)) (i : Fin b.length) => if i.val = 0 then s else s ++ [b[i.val]]) s).length ≤ s.length + l.length := by
    intro l
    induction l with
    | nil => intro s; simp
    | cons i l ih =>
      intro s
      refine Nat.le_trans (ih _) ?_
      dsimp only
      split <;> simp <;> omega
  simpa [svT] using this pre []
theorem mvT_take (b : List (BitVec 8)) : ∀ k, k ≤ b.length → mvT b ((List.finRange b.length).take k) = if k = 0 then 0 else PackM.many b
  | 0, _ => rfl
  | k + 1, h => by
    rw [fins_take k (by omega), mvT_snoc, mvT_take b k (by omega)]
    by_cases hk : k = 0
    · subst hk
      cases b with
      | nil => simp at h
      | cons x l => simp [PackM.many]
    · simp [hk]
theorem svT_take (b : List (BitVec 8)) : ∀ k, k ≤ b.length → svT b ((List.finRange b.length).take k) = (b.take k).drop 1
  | 0, _ => by simp [svT]
  | k + 1, h => by
    have e : b.take (k + 1) = b.take k ++ [b[k]] := by rw [List.take_add_one, List.getElem?_eq_getElem (by omega)]; rfl
    rw [fins_take k (by omega), svT_snoc, svT_take b k (by omega), e]
    by_cases hk : k = 0
    · subst hk; simp
    · rw [if_neg hk, List.drop_append_of_le_length (by rw [List.length_take]; omega)]
theorem okT_take {b : List (BitVec 8)} {k : Nat} (hk : k ≤ b.length) (h : okT b ((List.finRange b.length).take k)) (h2 : 2 ≤ k) : k - 1 ≤ PackM.many b := by
  have h1 := h ((List.finRange b.length).take (k - 1)) ⟨k - 1, by omega⟩ (by rw [← fins_take (k - 1) (by omega), show k - 1 + 1 = k by omega]; exact List.prefix_refl _) (by simp; omega)
  rw [mvT_take b _ (by omega), if_neg (by omega)] at h1
  exact h1
/-- Where all have come. -/
theorem tb_done (b : List (BitVec 8)) (h : okT b (List.finRange b.length)) : mvT b (List.finRange b.length) = PackM.many b ∧ svT b (List.finRange b.length) = (b.drop 1).take (PackM.many b) := by
  have e1 := mvT_take b b.length (Nat.le_refl _)
  have e2 := svT_take b b.length (Nat.le_refl _)
  rw [← fins_all] at h
  have e3 := okT_take (Nat.le_refl _) h
  rw [fins_all] at e1 e2
  rw [List.take_length] at e2
  refine ⟨?_, ?_⟩
  · rw [e1]
    split
    · next h0 => rw [List.length_eq_zero_iff.1 h0]; rfl
    · rfl
  · rw [e2, List.take_of_length_le]
    rw [List.length_drop]
    by_cases h2 : 2 ≤ b.length
    · exact e3 h2
    · omega
/-- Where a round has left. -/
theorem tb_stop (b : List (BitVec 8)) (ini : List (Fin b.length)) (last : Fin b.length) (hp : ini ++ [last] <+: List.finRange b.length) (h0 : last.val ≠ 0) (hm : mvT b ini < last.val) (h : okT b ini) :
    mvT b ini = PackM.many b ∧ svT b ini = (b.drop 1).take (PackM.many b) := by
  have e := prefix_fins hp
  have hl := last.isLt
  rw [e] at h hm ⊢
  have e1 := mvT_take b last.val (by omega)
  have e2 := svT_take b last.val (by omega)
  have e3 := okT_take (by omega) h
  rw [if_neg h0] at e1
  refine ⟨e1, ?_⟩
  rw [e1] at hm
  have hk : last.val = PackM.many b + 1 := by
    by_cases h2 : 2 ≤ last.val
    · have := e3 h2; omega
    · omega
  rw [e2, hk, List.drop_take]
  rfl
def InvT (w : World) (b : List (BitVec 8)) (pre : List (Fin b.length)) (W : World) : Prop :=
  (∃ v, Boxed W w.heap.size 40 v ∧ W.ownsRow w.heap.size 5 1 v (svT b pre).length ((svT b pre).map byteV) ∧ True) ∧ okT b pre ∧ Boxed W (w.heap.size + 1) 3 (.int .i64 (mvT b pre)) ∧ Below w.heap.size w W
def LeftT (w : World) (b : List (BitVec 8)) (c : Code) (pre : List (Fin b.length)) (W : World) : Prop :=
  ∃ ini last, (c = .exit 0 ∧ pre = ini ++ [last] ∧ last.val ≠ 0 ∧ mvT b ini < last.val ∧ okT b ini) ∧ (∃ v, Boxed W w.heap.size 40 v ∧ W.ownsRow w.heap.size 5 1 v (svT b ini).length ((svT b ini).map byteV) ∧ True) ∧ Boxed W (w.heap.size + 1) 3 (.int .i64 (mvT b ini)) ∧ Below w.heap.size w W
set_option maxRecDepth 100000 in
set_option maxHeartbeats 4000000 in
theorem takeBytes_in (n : Nat) (hn : 4 ≤ n) (v : Value) (b : List (BitVec 8)) (most : Int) (w : World) (hv : Bytes w.heap.size w v b) (hl : b.length ≤ 900000) (b1 : -9223372036854775808 ≤ most) (b2 : most ≤ 9223372036854775807) :
    CallsIn Fence.wide n Tryd.prog 56 #[v, .int .i64 most] w fun e w' => ∃ s r, e = .returned (.tuple #[s, r, .int .i64 (PackM.tbE b most)]) ∧ Mine w.heap.size w' s (PackM.tbS b most) ∧ Mine w.heap.size w' r (PackM.tbR b most) ∧ Grows w w' := by
  have h1 : 1 ≤ n := by omega
  have HV := Lib.hid hv
  obtain ⟨A, cap, rfl, q1, q2, _⟩ := hv
  simp only [List.length_map] at q1 HV ⊢
  unfold maxLen at q2
  have q3 : (b.length : Int) ≤ 900000 := by omega
  refine callsIn_of_wp_marks Tryd.func56 rfl trivial ?_ rfl
  simp only [Tryd.ntmps56, List.size_toArray, List.length_cons, List.length_nil, Nat.reduceAdd, Nat.reduceSub, Array.replicate_succ, Array.replicate_zero, List.push_toArray, List.append_toArray, List.nil_append, List.cons_append]
  gi_wp2
  refine wpIn_wide.2 (wp_scope_straight ((wpIn_wide (n := n)).1 ?_))
  gi_wp2
  refine wpIn_label ?_
  gi_wp2_with (first
      | (refine ⟨trivial, ?_⟩; gi_at_call 63; refine (callsIn_wide.2 (all_any _ _ _ _ _ rfl)).mono ?_; rintro e w1 ⟨rfl, rfl⟩))
  rename_i Q1 K aK
  have aK := Lib.hid aK
  have bx := ((Boxed.new w 40 (.slice none 0 0)).alloc (.cells #[.int .i64 0] 3)).alloc (.cells #[.slice A b.length cap] 40)
  have bm := (Boxed.new (w.alloc (.cells #[.slice none 0 0] 40)) 3 (.int .i64 0)).alloc (.cells #[.slice A b.length cap] 40)
  have bs := Boxed.new ((w.alloc (.cells #[.slice none 0 0] 40)).alloc (.cells #[.int .i64 0] 3)) 40 (.slice A b.length cap)
  have bel := ((Grows.alloc w (.cells #[.slice none 0 0] 40)).trans (Grows.alloc _ (.cells #[.int .i64 0] 3))).trans (Grows.alloc _ (.cells #[.slice A b.length cap] 40))
  have hsz : (((w.alloc (.cells #[.slice none 0 0] 40)).alloc (.cells #[.int .i64 0] 3)).alloc (.cells #[.slice A b.length cap] 40)).heap.size = w.heap.size + 3 := by simp
  rw [World.size_alloc] at bm
  rw [World.size_alloc, World.size_alloc] at bs
  generalize (((w.alloc (.cells #[.slice none 0 0] 40)).alloc (.cells #[.int .i64 0] 3)).alloc (.cells #[.slice A b.length cap] 40)) = w3 at *
  have HS := Lib.hid hsz
  clear hsz
  have HV3 := Lib.hid (Sl.below HV.out bel)
  have fin : Hid (∀ (D : Nat) (W : World) (v : Value), Boxed W w.heap.size 40 v → Mine w.heap.size W v ((b.drop 1).take (PackM.many b)) → Boxed W (w.heap.size + 1) 3 (.int .i64 (PackM.many b)) → Below w.heap.size w W → W.heap[D]? = some (.deferred (some [])) → w.heap.size + 3 ≤ D →
      K { tmps := #[Value.slice A b.length cap, Value.int IntKind.i64 most, undef, undef,
          Value.pointer (some { block := w.heap.size, off := 0 }), Value.slice none 0 0, Value.int IntKind.i64 0,
          Value.pointer (some { block := w.heap.size + 1, off := 0 }), undef, undef, Value.slice A b.length cap,
          Value.func (Fn.func 67) #[] #[Value.pointer (some { block := w.heap.size + 1 + 1, off := 0 })], undef, undef,
          undef, undef, undef, undef, undef, undef, undef, undef, undef, undef, undef, undef, undef, undef, undef,
          undef, undef, undef, undef, undef, undef, undef, undef, undef, undef, undef, undef, undef, undef, undef,
          undef, undef, undef, undef, undef], defers := [{ target := .collected D, args := #[] }] } W) := by
    intro D W v hx hm hmm hB hK hD
    refine aK.out _ _ ?_
    have hM := PackM.many_lt b
    have hS : ((b.drop 1).take (PackM.many b)).length = min (PackM.many b) (b.length - 1) := by rw [List.length_take, List.length_drop]
    have HSd := Lib.hid (show PackM.tbS b most = if PackM.tbE b most = 0 then (b.drop 1).take (PackM.many b) else [] from rfl)
    have HRd := Lib.hid (show PackM.tbR b most = if PackM.tbE b most = 0 then b.drop (1 + PackM.many b) else b from rfl)
    have HEd := Lib.hid (show PackM.tbE b most = if b.length = 0 ∨ b.length - 1 < PackM.many b then 20 else if most < PackM.many b then 21 else 0 from rfl)
    generalize (b.drop 1).take (PackM.many b) = S at *
    generalize PackM.many b = M at *
    obtain ⟨A1, c1, rfl, hc1, hc2⟩ := hm.form
    have hcx := hx.cell
    have hcf := hx.frozen
    have hcm := hmm.cell
    have hS1 : S.length ≤ M := by omega
    have hS2 : S.length ≤ b.length - 1 := by omega
    have hS3 : S.length = M ∨ S.length = b.length - 1 := by omega
    have HM := Lib.hid hm
    clear hm hS
    by_cases hE : b.length = 0 ∨ b.length - 1 < M
    · rw [if_pos hE] at HEd
      have HTS : Hid (PackM.tbS b most = []) := by rw [HSd.out, HEd.out]; rfl
      have HTR : Hid (PackM.tbR b most = b) := by rw [HRd.out, HEd.out]; rfl
      by_cases hb0 : b.length = 0
      · have hbb : ((b.length : Int) == 0) = true := by rw [beq_iff_eq]; omega
        have hbi : Hid (b.length = 0) := hb0
        clear hE hb0 hS3 HSd HRd
        gi_wp2_with (first
        | (refine ⟨trivial, ?_⟩; gi_at_call 40; refine (callsIn_wide.2 (clone_any _ b _ (by exact Bytes.more (Sl.below HV.out hB) hB.size) (by omega))).mono ?_; rintro e W1 ⟨r, rfl, hm1, hg1⟩; obtain ⟨A2, c2, rfl, hc2, hc3⟩ := hm1.form; have hx3 : Boxed W1 w.heap.size 40 (.slice A1 S.length c1) := Row.grows hx hg1; have hK3 : W1.heap[D]? = some (.deferred (some [])) := (hg1.block D (Array.getElem?_eq_some_iff.1 hK).1).trans hK; have hcx3 := hx3.cell; have hcf3 := hx3.frozen; have HMR := Lib.hid (hm1.more hB.size); have HG1 := Lib.hid (hB.trans (Below.mono hg1 hB.size)); clear hm1 hg1))
        have hK4 := (KeepsOthers.setCell W1 ⟨w.heap.size, 0, none⟩ (.slice none 0 0)).same D _ hK3 rfl
        have hset := cell_kept (World.cell?_setCell_same' W1 ⟨w.heap.size, 0, none⟩ (.slice none 0 0) (by rw [hcx3]; rfl)) (grownBy_putObj' _ D (.deferred none)) (fun r e => by cases e; exact ⟨_, hK4, rfl⟩)
        refine ⟨by simp, .inl ⟨_, _, rfl, run_takeDeferred hK4, ?_⟩⟩
        refine ⟨.tuple #[.slice none 0 0, .slice A2 b.length c2, .int .i64 20], ?_, .slice none 0 0, .slice A2 b.length c2, ?_, ?_, ?_, ?_⟩
        · simp [results, Tryd.f56, go_sem, hset]
        · rw [HEd.out]
        · exact (by rw [HTS.out]; exact ownsRow_putObj (World.ownsRow_nil _ _ _ _) _ hK4 rfl)
        · exact (by rw [HTR.out]; exact ownsRow_putObj (World.ownsRow.kept HMR.out (grownBy_setCell' _ _ _) (.inr (hx3.not_row (by decide) HMR.out).symm)) _ hK4 rfl)
        · exact (HG1.out.setCell (p := ⟨w.heap.size, 0, none⟩) (by simp) _).trans (belowK_b (w := w) (Nat.le_refl _) _ D _ _ (by omega) hK4 rfl rfl)
      · have hbb : ((b.length : Int) == 0) = false := by rw [beq_eq_false_iff_ne]; omega
        have hlt : (S.length : Int) < M := by omega
        have hlt2 : S.length < M := by omega
        clear hE hS3 HSd HRd
        gi_wp2_with (first
        | (refine ⟨trivial, ?_⟩; gi_at_call 40; refine (callsIn_wide.2 (clone_any _ b _ (by exact Bytes.more (Sl.below HV.out hB) hB.size) (by omega))).mono ?_; rintro e W1 ⟨r, rfl, hm1, hg1⟩; obtain ⟨A2, c2, rfl, hc2, hc3⟩ := hm1.form; have hx3 : Boxed W1 w.heap.size 40 (.slice A1 S.length c1) := Row.grows hx hg1; have hK3 : W1.heap[D]? = some (.deferred (some [])) := (hg1.block D (Array.getElem?_eq_some_iff.1 hK).1).trans hK; have hcx3 := hx3.cell; have hcf3 := hx3.frozen; have HMR := Lib.hid (hm1.more hB.size); have HG1 := Lib.hid (hB.trans (Below.mono hg1 hB.size)); clear hm1 hg1))
        have hK4 := (KeepsOthers.setCell W1 ⟨w.heap.size, 0, none⟩ (.slice none 0 0)).same D _ hK3 rfl
        have hset := cell_kept (World.cell?_setCell_same' W1 ⟨w.heap.size, 0, none⟩ (.slice none 0 0) (by rw [hcx3]; rfl)) (grownBy_putObj' _ D (.deferred none)) (fun r e => by cases e; exact ⟨_, hK4, rfl⟩)
        refine ⟨by simp, .inl ⟨_, _, rfl, run_takeDeferred hK4, ?_⟩⟩
        refine ⟨.tuple #[.slice none 0 0, .slice A2 b.length c2, .int .i64 20], ?_, .slice none 0 0, .slice A2 b.length c2, ?_, ?_, ?_, ?_⟩
        · simp [results, Tryd.f56, go_sem, hset]
        · rw [HEd.out]
        · exact (by rw [HTS.out]; exact ownsRow_putObj (World.ownsRow_nil _ _ _ _) _ hK4 rfl)
        · exact (by rw [HTR.out]; exact ownsRow_putObj (World.ownsRow.kept HMR.out (grownBy_setCell' _ _ _) (.inr (hx3.not_row (by decide) HMR.out).symm)) _ hK4 rfl)
        · exact (HG1.out.setCell (p := ⟨w.heap.size, 0, none⟩) (by simp) _).trans (belowK_b (w := w) (Nat.le_refl _) _ D _ _ (by omega) hK4 rfl rfl)
    · have hb0 : ¬ b.length = 0 := fun h => hE (.inl h)
      have hSM : S.length = M := by omega
      have hbM : 1 + M ≤ b.length := by omega
      have hbb : ((b.length : Int) == 0) = false := by rw [beq_eq_false_iff_ne]; omega
      have hlt : ¬ (S.length : Int) < M := by omega
      have hlt2 : ¬ S.length < M := by omega
      rw [if_neg hE] at HEd
      have HSM := Lib.hid hSM
      by_cases hmo : most < M
      · rw [if_pos hmo] at HEd
        have HTS : Hid (PackM.tbS b most = []) := by rw [HSd.out, HEd.out]; rfl
        have HTR : Hid (PackM.tbR b most = b) := by rw [HRd.out, HEd.out]; rfl
        clear hE hS3 HSd HRd hSM
        gi_wp2_with (first
        | (refine ⟨trivial, ?_⟩; gi_at_call 40; refine (callsIn_wide.2 (clone_any _ b _ (by exact Bytes.more (Sl.below HV.out hB) hB.size) (by omega))).mono ?_; rintro e W1 ⟨r, rfl, hm1, hg1⟩; obtain ⟨A2, c2, rfl, hc2, hc3⟩ := hm1.form; have hx3 : Boxed W1 w.heap.size 40 (.slice A1 S.length c1) := Row.grows hx hg1; have hK3 : W1.heap[D]? = some (.deferred (some [])) := (hg1.block D (Array.getElem?_eq_some_iff.1 hK).1).trans hK; have hcx3 := hx3.cell; have hcf3 := hx3.frozen; have HMR := Lib.hid (hm1.more hB.size); have HG1 := Lib.hid (hB.trans (Below.mono hg1 hB.size)); clear hm1 hg1))
        have hK4 := (KeepsOthers.setCell W1 ⟨w.heap.size, 0, none⟩ (.slice none 0 0)).same D _ hK3 rfl
        have hset := cell_kept (World.cell?_setCell_same' W1 ⟨w.heap.size, 0, none⟩ (.slice none 0 0) (by rw [hcx3]; rfl)) (grownBy_putObj' _ D (.deferred none)) (fun r e => by cases e; exact ⟨_, hK4, rfl⟩)
        refine ⟨by simp, .inl ⟨_, _, rfl, run_takeDeferred hK4, ?_⟩⟩
        refine ⟨.tuple #[.slice none 0 0, .slice A2 b.length c2, .int .i64 21], ?_, .slice none 0 0, .slice A2 b.length c2, ?_, ?_, ?_, ?_⟩
        · simp [results, Tryd.f56, go_sem, hset]
        · rw [HEd.out]
        · exact (by rw [HTS.out]; exact ownsRow_putObj (World.ownsRow_nil _ _ _ _) _ hK4 rfl)
        · exact (by rw [HTR.out]; exact ownsRow_putObj (World.ownsRow.kept HMR.out (grownBy_setCell' _ _ _) (.inr (hx3.not_row (by decide) HMR.out).symm)) _ hK4 rfl)
        · exact (HG1.out.setCell (p := ⟨w.heap.size, 0, none⟩) (by simp) _).trans (belowK_b (w := w) (Nat.le_refl _) _ D _ _ (by omega) hK4 rfl rfl)
      · rw [if_neg hmo] at HEd
        have HTS : Hid (PackM.tbS b most = S) := by rw [HSd.out, HEd.out]; rfl
        have HTR : Hid (PackM.tbR b most = b.drop (1 + M)) := by rw [HRd.out, HEd.out]; rfl
        clear hE hS3 HSd HRd hSM
        have u1 : IntKind.i64.wrap (1 + (M : Int)) = 1 + (M : Int) := IntWalk.i64_in _ (by omega)
        have u2 : (1 + (M : Int)).toNat = 1 + M := by omega
        have u3 : (1 : Int) + M ≤ b.length := by omega
        have u4 : (1 : Int) + M ≤ cap := by omega
        have u5 : (0 : Int) ≤ 1 + M := by omega
        gi_wp2
        refine wpIn_region_free WideF.wide 6 49 (by kernel_rfl) (by kernel_rfl) (by kernel_rfl) rfl (by kernel_rfl) ?_; simp only [List.take_succ_cons, List.take_zero, List.drop_succ_cons, List.drop_zero]
        repeat (apply free_pure rfl; focus (intro vs w hg hd; have q0 := hg.cell hcx; have q1 := hg.cell hcm; (try simp [Region.binds] at hd); simp only [execOp, resolve, Option.map_some, Option.map_none, List.map_toArray, List.map_cons, List.map_nil, rho_const, rho_func]; (repeat (conv in rho _ _ _ _ (Operand.tmp _) => whnf)); (try simp only [hd]); go_simp; (repeat (conv in rho _ _ _ _ (Operand.tmp _) => whnf)); (try simp only [hd]);  rfl))
        refine free_op (fun v w' => Mine w.heap.size w' v (b.drop (1 + M))) rfl (fun _ _ _ h hg => h.grows hg) (fun vs w hg hd => by
          (try simp [Region.binds] at hd); simp only [Does]; simp only [execOp, resolve, Option.map_some, Option.map_none, List.map_toArray, List.map_cons, List.map_nil, rho_const, rho_func]; (repeat (conv in rho _ _ _ _ (Operand.tmp _) => whnf)); (try simp only [hd]); go_simp; (repeat (conv in rho _ _ _ _ (Operand.tmp _) => whnf))
          have hcut := Bytes.cut (l := 1 + M) (h := b.length) (Sl.below HV.out (hB.trans (Below.mono (Grows.of_drew hg) hB.size))) hbM (Nat.le_refl _)
          rw [List.take_length] at hcut
          refine (clone_any _ (b.drop (1 + M)) _ (Bytes.more hcut (Nat.le_trans hB.size hg.size)) (by rw [List.length_drop]; omega)).mono ?_
          rintro e w'' ⟨r, rfl, hm, hg2⟩
          exact ⟨r, rfl, hg2, hm.more (Nat.le_trans hB.size hg.size)⟩) ?_
        intro vs w' hg hv; have h0 := hv 0 (by omega); simp at h0; have h5 := hv 5 (by omega); simp at h5; simp only [putL, dstAt, List.range, List.range.loop, if_true, List.getElem?_toArray, List.getElem?_cons_zero, List.getElem?_cons_succ, Option.bind_some, Act.put, List.setIfInBounds_toArray, List.set_cons_zero, List.set_cons_succ]
        rw [h0]
        have hgW : Grows W w' := Grows.of_drew hg
        have hx3 : Boxed w' w.heap.size 40 (.slice A1 S.length c1) := Row.grows (w := W.drew) hx hg
        have hK3 : w'.heap[D]? = some (.deferred (some [])) := (hg.block D (Array.getElem?_eq_some_iff.1 hK).1).trans hK
        have HMS := Lib.hid (HM.out.grows hgW)
        have HG1 := Lib.hid (hB.trans (Below.mono hgW hB.size))
        have hcx3 := hx3.cell
        have hcf3 := hx3.frozen
        clear hv h0 hcx hcf hcm
        generalize vs 0 = z0, vs 1 = z1, vs 2 = z2, vs 3 = z3, vs 4 = z4, vs 5 = z5 at *
        obtain ⟨A4, c4, rfl, _, _⟩ := h5.form
        have HMR := Lib.hid h5
        clear h5
        gi_wp2
        have hK4 := (KeepsOthers.setCell w' ⟨w.heap.size, 0, none⟩ (.slice A1 S.length c1)).same D _ hK3 rfl
        have hset := cell_kept (World.cell?_setCell_same' w' ⟨w.heap.size, 0, none⟩ (.slice A1 S.length c1) (by rw [hcx3]; rfl)) (grownBy_putObj' _ D (.deferred none)) (fun r e => by cases e; exact ⟨_, hK4, rfl⟩)
        refine ⟨by simp, .inl ⟨_, _, rfl, run_takeDeferred hK4, ?_⟩⟩
        refine ⟨.tuple #[.slice A1 S.length c1, .slice A4 (b.drop (1 + M)).length c4, .int .i64 0], ?_, .slice A1 S.length c1, .slice A4 (b.drop (1 + M)).length c4, ?_, ?_, ?_, ?_⟩
        · simp [results, Tryd.f56, go_sem, hset]
        · rw [HEd.out]
        · exact (by rw [HTS.out]; exact ownsRow_putObj (World.ownsRow.kept HMS.out (grownBy_setCell' _ _ _) (.inr (hx3.not_row (by decide) HMS.out).symm)) _ hK4 rfl)
        · exact (by rw [HTR.out]; exact ownsRow_putObj (World.ownsRow.kept HMR.out (grownBy_setCell' _ _ _) (.inr (hx3.not_row (by decide) HMR.out).symm)) _ hK4 rfl)
        · exact (HG1.out.setCell (p := ⟨w.heap.size, 0, none⟩) (by simp) _).trans (belowK_b (w := w) (Nat.le_refl _) _ D _ _ (by omega) hK4 rfl rfl)
  refine wpIn_rangeFunc_ownG rfl h1 (gf := 67) (lb := #[.pointer (some ⟨w.heap.size + 1 + 1, 0, none⟩)]) rfl trivial (enters_of Tryd.func67 (by kernel_rfl) rfl)
      (all_stops (n - 1) (by omega) (w.heap.size + 1 + 1) w.heap.size (.slice A b.length cap) b w3 (by rw [HS.out]; omega) (by rw [HS.out]; omega) bs.cell HV3.out) belowK_t (belowK_b (by rw [HS.out]; omega)) (Below.refl _ _) (fun _ => rfl)
      (InvT w b) (LeftT w b)
      ?own ?ownx ?start
      (fun y => { tmps :=
        #[Value.slice A b.length cap, Value.int IntKind.i64 most, undef, undef,
          Value.pointer (some { block := w.heap.size, off := 0 }), Value.slice none 0 0, Value.int IntKind.i64 0,
          Value.pointer (some { block := w.heap.size + 1, off := 0 }), .int .i64 (y.val : Int), .int .u8 (bI b[y.val]), Value.slice A b.length cap,
          Value.func (Fn.func 67) #[] #[Value.pointer (some { block := w.heap.size + 1 + 1, off := 0 })], .int .i64 (y.val : Int), .int .u8 (bI b[y.val]),
          undef, undef, undef, undef, undef, undef, undef, undef, undef, undef, undef, undef, undef, undef, undef,
          undef, undef, undef, undef, undef, undef, undef, undef, undef, undef, undef, undef, undef, undef, undef,
          undef, undef, undef, undef, undef], defers := [] }) ?assign ?body ?done ?stop
  case own => exact OwnFrom.and (Own.from (holdsRow_own w.heap.size w.heap.size 40 5 1 (fun pre => (svT b pre).length) (fun pre => (svT b pre).map byteV) (fun _ _ => True)) _) (OwnFrom.and (ownFrom_pure _ _) (OwnFrom.and (Own.from (boxed_own (w.heap.size + 1) 3 (fun pre => .int .i64 (mvT b pre))) _) (ownFrom_below (Nat.le_refl _) (by rw [HS.out]; omega))))
  case ownx =>
    intro c s X Y row hs hg hr
    obtain ⟨ini, last, h1, h2, h3, h4⟩ := hs
    exact ⟨ini, last, h1, holdsRow_own w.heap.size w.heap.size 40 5 1 (fun pre => (svT b pre).length) (fun pre => (svT b pre).map byteV) (fun _ _ => True) ini X Y row h2 hg (fun r e => (hr r e).2), boxed_own (w.heap.size + 1) 3 (fun pre => .int .i64 (mvT b pre)) ini X Y row h3 hg (fun r e => (hr r e).2), ownFrom_below (n₀ := w.heap.size) (B := w3.heap.size) (Nat.le_refl _) (by rw [HS.out]; omega) () X Y row h4 hg hr⟩
  case start => exact ⟨⟨_, bx, World.ownsRow_nil _ _ _ _, trivial⟩, fun p i hp => absurd hp (by simp), bm, bel⟩
  case assign =>
    intro l y W K hK
    gi_wp2
    exact hK
  case body =>
    rintro l pre y W ⟨⟨v, hv, hrow, _⟩, hok, hbm, hB⟩ hlt2
    have hcx := hv.cell
    have hcm := hbm.cell
    have hcf := hbm.frozen
    have hyl : (y.val : Int) < 900000 := by have := y.isLt; omega
    have hle := hB.size
    have hmn := Lib.hid (mvT_snoc b pre y)
    have hsn := Lib.hid (svT_snoc b pre y)
    have hpl := svT_len b pre
    by_cases hy0 : y.val = 0
    · have hyb : ((y.val : Int) == 0) = true := by rw [beq_iff_eq]; omega
      have hok2 : okT b (pre ++ [y]) := okT_snoc hok (fun h => absurd hy0 h)
      rw [if_pos hy0] at hmn hsn
      have HM : Hid (mvT b (pre ++ [y]) = (b[y.val]).toNat) := hmn.out
      have hx1 := bI_nonneg (b[y.val])
      have hx2 := bI_lt (b[y.val])
      have HXI : Hid (bI b[y.val] = (b[y.val].toNat : Int)) := rfl
      generalize mvT b pre = m0 at *
      generalize b[y.val] = x at *
      clear hok hlt2 hmn
      gi_wp2
      refine ⟨(KeepsOthers.setCell _ _ _).from _, (Below.refl _ W).setCell (by simp) _, ⟨⟨v, Boxed.kept hv (grownBy_setCell' _ _ _) (by simp), ?_, trivial⟩, hok2, ?_, hB.setCell (by simp) _⟩⟩
      · rw [hsn.out]
        exact World.ownsRow.kept hrow (grownBy_setCell' _ _ _) (.inr (hbm.not_row (by decide) hrow).symm)
      · rw [HM.out, ← HXI.out]
        exact hbm.set _
    · have hyb : ((y.val : Int) == 0) = false := by rw [beq_eq_false_iff_ne]; omega
      rw [if_neg hy0] at hmn hsn
      by_cases hgt : mvT b pre < y.val
      · have HL : Hid (LeftT w b (.exit 0) (pre ++ [y]) W) := ⟨pre, y, ⟨rfl, rfl, hy0, hgt, hok⟩, ⟨v, hv, hrow, trivial⟩, hbm, hB⟩
        generalize mvT b pre = m0 at *
        generalize b[y.val] = x at *
        gi_wp2
        exact ⟨KeepsFrom.refl _ _, HL.out⟩
      · have hok2 : okT b (pre ++ [y]) := okT_snoc hok (fun h => by omega)
        generalize mvT b pre = m0 at *
        generalize svT b pre = s0 at *
        generalize b[y.val] = x at *
        have hl5 : s0.length + [x].length ≤ 1000000 := by simp; omega
        clear hok hpl hlt2
        gi_wp2_with (gi_at_builtin; refine wpListIn_append_mine rfl (.tmp 14) (.tmp 16) rfl w.heap.size (W.heap.size + 1) s0 [x] (by exact World.ownsRow.alloc hrow _) (by exact Bytes.one W x) hl5 (by simp; omega) ?_; intro v' w5 hown' hgrow _ hf; obtain ⟨g', cap', rfl⟩ := hf (by simp); obtain ⟨hv1, hv2, hr2, hk2, hb2⟩ := hv.appended (by decide) hrow hle (Nat.le_refl _) hown' hgrow; have hbm2 := boxed_aside hbm (B := w.heap.size) (v' := Value.slice (some ⟨g', 0, none⟩) (s0.length + [x].length) cap') (by decide) hrow hgrow (by omega); have hc1 := hv1.cell; have hf1 := hv1.frozen)
        simp only [List.length_append, List.length_cons, List.length_nil, Nat.zero_add] at hk2 hbm2 hv2 hr2 hb2
        refine ⟨hk2.from _, hb2, ⟨⟨_, hv2, ?_, trivial⟩, hok2, ?_, hB.trans hb2⟩⟩
        · rw [hsn.out, List.length_append]
          exact hr2
        · rw [hmn.out]
          exact hbm2
  case done =>
    rintro D ys W hD rfl ⟨⟨v, hv, hrow, _⟩, hok, hbm, hB⟩ hK
    obtain ⟨e1, e2⟩ := tb_done b hok
    rw [e1] at hbm
    rw [e2] at hrow
    exact fin.out D W v hv hrow hbm hB hK (by have := HS.out; omega)
  case stop =>
    rintro D c pre W hD hpre ⟨ini, last, ⟨rfl, rfl, h0, hm, hok⟩, ⟨v, hv, hrow, _⟩, hbm, hB⟩ hK
    obtain ⟨e1, e2⟩ := tb_stop b ini last hpre h0 hm hok
    rw [e1] at hbm
    rw [e2] at hrow
    refine wpIn_exit ?_
    exact fin.out D W v hv hrow hbm hB hK (by have := HS.out; omega)
theorem takeBytes_any (v : Value) (b : List (BitVec 8)) (most : Int) (w : World) (hv : Bytes w.heap.size w v b) (hl : b.length ≤ 900000) (b1 : -9223372036854775808 ≤ most) (b2 : most ≤ 9223372036854775807) :
    Calls Tryd.prog 56 #[v, .int .i64 most] w fun e w' => ∃ s r, e = .returned (.tuple #[s, r, .int .i64 (PackM.tbE b most)]) ∧ Mine w.heap.size w' s (PackM.tbS b most) ∧ Mine w.heap.size w' r (PackM.tbR b most) ∧ Grows w w' :=
  callsIn_wide.1 (takeBytes_in 4 (Nat.le_refl _) v b most w hv hl b1 b2)
end Go.Proofs.YtjcommodiihcdaaDoor
