/- CrcBurstMath -/
import Derived.Test.YtnigflobmiiefaaDoorCrcA
/- Plain mathematics: what is changed within eight bytes changes the sum. No program. -/
namespace Go.Proofs.YtnigflobmiiefaaDoor.CrcM
def pack : List (BitVec 8) → U
  | [] => 0#64
  | b :: l => b.setWidth 64 ^^^ (pack l <<< 8)
theorem pack_high : ∀ (l : List (BitVec 8)) (i : Nat), 8 * l.length ≤ i → (pack l).getLsbD i = false
  | [], i, _ => by simp [pack]
  | b :: l, i, h => by
    simp only [List.length_cons] at h
    have ih := pack_high l (i - 8) (by omega)
    simp only [pack, BitVec.getLsbD_xor, BitVec.getLsbD_setWidth, BitVec.getLsbD_shiftLeft, ih, Bool.and_false]
    have : b.getLsbD i = false := BitVec.getLsbD_of_ge b i (by omega)
    simp [this]
theorem pack_back (l : List (BitVec 8)) (h : l.length ≤ 7) : (pack l <<< 8) >>> 8 = pack l := by
  ext i hi
  by_cases h8 : i + 8 < 64
  · simp [BitVec.getElem_shiftLeft, show 8 + i < 64 by omega]
  · have h1 := pack_high l i (by omega)
    rw [BitVec.getLsbD_eq_getElem hi] at h1
    rw [h1]
    simp [show ¬ 8 + i < 64 by omega]
theorem S_pack (l : List (BitVec 8)) (h : l.length ≤ 7) : S (pack l <<< 8) = pack l := by
  have := S_shl (pack l <<< 8)
  rwa [pack_back l h] at this
def Sn : Nat → U → U
  | 0, c => c
  | k + 1, c => Sn k (S c)
theorem run_pack : ∀ (l : List (BitVec 8)) (c : U), l.length ≤ 8 → run c l = Sn l.length (c ^^^ pack l)
  | [], c, _ => by simp [run, Sn, pack]
  | b :: l, c, h => by
    simp only [List.length_cons] at h
    rw [run_cons, run_pack l _ (by omega)]
    simp only [List.length_cons, Sn, pack]
    unfold step
    rw [← BitVec.xor_assoc, S_xor (c ^^^ b.setWidth 64), S_pack l (by omega)]
theorem Sn_zero : ∀ (k : Nat) (c : U), Sn k c = 0#64 → c = 0#64
  | 0, _, h => h
  | k + 1, c, h => S_inj0 c (Sn_zero k _ h)
theorem pack_zero : ∀ (l : List (BitVec 8)), l.length ≤ 8 → pack l = 0#64 → ∀ b ∈ l, b = 0#8
  | [], _, _, b, hb => by cases hb
  | x :: l, h, hp, b, hb => by
    simp only [List.length_cons] at h
    have hx : x = 0#8 := by
      ext i hi
      have := congrArg (fun u : U => u.getLsbD i) hp
      simp [pack, show i < 64 by omega, BitVec.getLsbD_eq_getElem hi] at this
      simpa [hi] using this
    have hl : pack l = 0#64 := by
      rw [← pack_back l (by omega)]
      have h2 : pack l <<< 8 = 0#64 := by
        have h3 := hp
        rw [pack, hx] at h3
        simpa using h3
      rw [h2]
      rfl
    rcases List.mem_cons.1 hb with rfl | hb
    · exact hx
    · exact pack_zero l (by omega) hl b hb
theorem run_zeros : ∀ (n : Nat) (c : U), run c (List.replicate n 0#8) = 0#64 ↔ c = 0#64
  | 0, c => Iff.rfl
  | n + 1, c => by
    rw [List.replicate_succ, run_cons, run_zeros n]
    unfold step
    constructor
    · intro h; have := S_inj0 _ h; simpa using this
    · rintro rfl; simp [S_zero]
/-- Eight bytes at the most, between noughts: no sum of nought unless all are. -/
theorem run_delta (p q : Nat) (l : List (BitVec 8)) (h : l.length ≤ 8) : run 0#64 (List.replicate p 0#8 ++ (l ++ List.replicate q 0#8)) = 0#64 ↔ ∀ b ∈ l, b = 0#8 := by
  rw [run_append, (run_zeros p 0#64).2 rfl, run_append, run_zeros]
  constructor
  · intro h0
    rw [run_pack l _ h] at h0
    have := Sn_zero _ _ h0
    exact pack_zero l h (by simpa using this)
  · intro h0
    have : l = List.replicate l.length 0#8 := List.eq_replicate_iff.2 ⟨rfl, h0⟩
    rw [this]
    exact (run_zeros _ _).2 rfl
theorem sum_delta (s d : List (BitVec 8)) (h : s.length = d.length) : sum (List.zipWith (· ^^^ ·) s d) = sum s ↔ run 0#64 d = 0#64 := by
  have h1 := run_xor s d (BitVec.allOnes 64) 0#64 h
  rw [BitVec.xor_zero] at h1
  unfold sum
  rw [h1]
  constructor
  · intro h2
    have h3 : run (BitVec.allOnes 64) s ^^^ run 0#64 d = run (BitVec.allOnes 64) s := by
      have := congrArg (fun x : U => ~~~x) h2
      simpa using this
    exact xor_cancel (run (BitVec.allOnes 64) s) _ _ (by rw [h3]; simp)
  · intro h2; rw [h2]; simp
/-- Noughts, the first k of the bytes from place p on, noughts. -/
def delta (p n k : Nat) (l : List (BitVec 8)) : List (BitVec 8) := List.replicate p 0#8 ++ (l.take k ++ List.replicate (n - p - k) 0#8)
def burst (s : List (BitVec 8)) (p k : Nat) (l : List (BitVec 8)) : List (BitVec 8) := List.zipWith (· ^^^ ·) s (delta p s.length k l)
theorem delta_length (p n k : Nat) (l : List (BitVec 8)) (h : p + k ≤ n) (hl : k ≤ l.length) : (delta p n k l).length = n := by
  simp [delta]; omega
theorem zip_set : ∀ (s d : List (BitVec 8)) (i : Nat) (x b : BitVec 8), s[i]? = some x → (List.zipWith (· ^^^ ·) s d).set i (x ^^^ b) = List.zipWith (· ^^^ ·) s (d.set i b)
  | [], _, _, _, _, h => by simp at h
  | y :: s, [], i, _, _, _ => by simp
  | y :: s, e :: d, 0, x, b, h => by simp at h; subst h; simp
  | y :: s, e :: d, i + 1, x, b, h => by simp at h; simpa using zip_set s d i x b h
theorem delta_set (p n k : Nat) (l : List (BitVec 8)) (b : BitVec 8) (h : p + k < n) (hb : l[k]? = some b) : (delta p n k l).set (p + k) b = delta p n (k + 1) l := by
  have hk : k < l.length := (List.getElem?_eq_some_iff.1 hb).1
  unfold delta
  rw [List.set_append_right _ _ (by simp), List.length_replicate, Nat.add_sub_cancel_left, List.set_append_right _ _ (by simp; omega), List.length_take, Nat.min_eq_left (by omega), Nat.sub_self,
    show n - p - k = (n - p - (k + 1)) + 1 by omega, List.replicate_succ, List.set_cons_zero, List.take_add_one, hb]
  simp
theorem burst_set (s : List (BitVec 8)) (p k : Nat) (l : List (BitVec 8)) (x b : BitVec 8) (hx : s[p + k]? = some x) (hb : l[k]? = some b) : (burst s p k l).set (p + k) (x ^^^ b) = burst s p (k + 1) l := by
  have h := (List.getElem?_eq_some_iff.1 hx).1
  unfold burst
  rw [zip_set _ _ _ _ _ hx, delta_set _ _ _ _ _ h hb]
theorem burst_get (s : List (BitVec 8)) (p k : Nat) (l : List (BitVec 8)) (x : BitVec 8) (hx : s[p + k]? = some x) (hl : k ≤ l.length) : (burst s p k l)[p + k]? = some x := by
  have h := (List.getElem?_eq_some_iff.1 hx).1
  have hd : (delta p s.length k l)[p + k]? = some 0#8 := by
    unfold delta
    rw [List.getElem?_append_right (by simp), List.length_replicate, Nat.add_sub_cancel_left, List.getElem?_append_right (by simp; omega), List.length_take, Nat.min_eq_left hl, Nat.sub_self]
    rw [List.getElem?_replicate, if_pos (by omega)]
  unfold burst
  rw [List.getElem?_zipWith, hx, hd]
  simp
theorem burst_length (s : List (BitVec 8)) (p k : Nat) (l : List (BitVec 8)) (h : p + k ≤ s.length) (hl : k ≤ l.length) : (burst s p k l).length = s.length := by
  unfold burst
  rw [List.length_zipWith, delta_length _ _ _ _ h hl, Nat.min_self]
theorem burst_zero (s : List (BitVec 8)) (p : Nat) (l : List (BitVec 8)) (h : p ≤ s.length) : burst s p 0 l = s := by
  have hd : delta p s.length 0 l = List.replicate s.length 0#8 := by
    unfold delta
    simp [List.replicate_append_replicate]
    omega
  unfold burst
  rw [hd]
  apply List.ext_getElem?
  intro i
  rw [List.getElem?_zipWith]
  by_cases hi : i < s.length
  · simp [hi]
  · simp [List.getElem?_eq_none (show s.length ≤ i by omega)]
/-- Whether one of the first k is not nought. -/
def chg (k : Nat) (l : List (BitVec 8)) : Bool := (l.take k).any fun b => !(b == 0#8)
theorem chg_snoc (k : Nat) (l : List (BitVec 8)) (b : BitVec 8) (hb : l[k]? = some b) : chg (k + 1) l = (chg k l || !(b == 0#8)) := by
  unfold chg
  rw [List.take_add_one, hb]
  simp
theorem burst_sum (s : List (BitVec 8)) (p k : Nat) (l : List (BitVec 8)) (h : p + k ≤ s.length) (hl : k ≤ l.length) (h8 : k ≤ 8) : (!(sum (burst s p k l) == sum s)) = chg k l := by
  have h1 := sum_delta s (delta p s.length k l) (by rw [delta_length _ _ _ _ h hl])
  have h2 := run_delta p (s.length - p - k) (l.take k) (by simp; omega)
  rw [show List.replicate p 0#8 ++ (l.take k ++ List.replicate (s.length - p - k) 0#8) = delta p s.length k l from rfl] at h2
  have h3 : sum (burst s p k l) = sum s ↔ ∀ b ∈ l.take k, b = 0#8 := h1.trans h2
  unfold chg
  by_cases hall : ∀ b ∈ l.take k, b = 0#8
  · rw [h3.2 hall]
    have : ((l.take k).any fun b => !(b == 0#8)) = false := by
      rw [List.any_eq_false]
      intro b hb
      simp [hall b hb]
    rw [this]; simp
  · have h4 : ¬ sum (burst s p k l) = sum s := fun e => hall (h3.1 e)
    have h5 : (sum (burst s p k l) == sum s) = false := by rw [beq_eq_false_iff_ne]; exact h4
    rw [h5]
    have : ((l.take k).any fun b => !(b == 0#8)) = true := by
      rw [List.any_eq_true]
      refine Classical.byContradiction fun hn => hall fun b hb => Classical.byContradiction fun hb0 => hn ⟨b, hb, by simpa using hb0⟩
    rw [this]; rfl
end Go.Proofs.YtnigflobmiiefaaDoor.CrcM
