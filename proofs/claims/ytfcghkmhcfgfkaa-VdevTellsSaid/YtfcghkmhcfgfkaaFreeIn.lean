/- The rule for regions of open order (XFree), inside a wide fence: in a round of a range over a function, and in an iterator's body. No function of the program. -/
import Derived.Test.YtfcghkmhcfgfkaaFree
namespace Go.Proofs.Ytfcghkmhcfgfkaa
open Go.RowKit
/-- A fence that keeps nothing out. -/
structure WideF (F : Fence) : Prop where
  fn : ∀ f, F.fn f
  depth : F.depth = none
  call : ∀ {n : Nat} {P : Program} {f : FuncId} {args : Array Value} {w : World} {R : Ending → World → Prop}, Calls P f args w R → CallsIn F n P f args w R
theorem WideF.wide : WideF Fence.wide := ⟨fun _ => trivial, rfl, fun h => callsIn_wide.2 h⟩
theorem WideF.round (l : Nat) : WideF (Fence.wide.inRound l) := ⟨fun _ => trivial, rfl, fun h => CallsIn.inRound l (callsIn_wide.2 h)⟩
def noDefer (l : List Oper) : Bool := l.all fun o => match o.op with | .defer _ => false | _ => true
theorem noDefer_at {l : List Oper} (h : noDefer l = true) : ∀ (i : Nat) o, l.toArray[i]? = some o → ∀ c, o.op ≠ .defer c := fun i o ho c e => by
  have h1 : l[i]? = some o := by simpa using ho
  have h2 := List.all_eq_true.1 h o (List.mem_of_getElem? h1)
  rw [e] at h2
  cases h2
section
variable {P : Program} {F : Fence} {nn : Nat}
theorem Does.wpIn {o : Oper} {a : Act} {w : World} {R : Value → World → Prop} {K : Act → World → Prop} {Q : Exit → Act → World → Prop} (hF : WideF F) (hnd : ∀ c, o.op ≠ .defer c) (h : Does P o a.eval w R) (hK : ∀ v w', R v w' → K (a.put o.dst v) w') : o.wpIn F nn P a w K Q := by
  refine ⟨fun f _ => hF.fn f, ?_⟩
  rw [Oper.semAt_eq F.round a.eval o hnd]
  unfold Does at h
  generalize (execOp a.eval o).run P w = r at h ⊢
  cases r with
  | ok x w' =>
    cases x <;> simp only at h <;> simp only [Oper.uponIn]
    case value v => exact hK _ _ h
    case skip => exact hK _ _ h
    case enter f args =>
      refine ⟨fun hs => (by rw [hF.depth] at hs; cases hs), (hF.call h).mono ?_⟩
      rintro e w'' ⟨v, rfl, hv⟩
      exact hK _ _ hv
  | halt x w' => exact h.elim
theorem wpAnyIn_of_seq {md : Region.Mode} {ops : Array Oper} {Q' : Exit → Act → World → Prop} (hF : WideF F) : ∀ (l : List Oper) (k : Nat) (listed : Array Bool) (a : Act) (w : World), (∀ j, l[j]? = ops[k + j]?) →
    Region.seqB md ops l.length k listed = true → wpListIn F nn P ops Q' l a w → wpAnyIn F nn P md ops Q' l.length listed a w
  | [], _, _, _, _, _, hB, h => ⟨by simpa [Region.seqB] using hB, h⟩
  | o :: l, k, listed, a, w, hl, hB, h => by
    have h0 : ops[k]? = some o := by simpa using (hl 0).symm
    simp only [List.length_cons, Region.seqB, Bool.and_eq_true, decide_eq_true_eq] at hB
    refine ⟨fun h1 => (by rw [hB.1] at h1; cases h1), fun i hi => ?_⟩
    rw [hB.1] at hi
    have hik : i = k := by simpa using hi
    subst hik
    have hw : wpOpIn F nn P ops Q' i (wpListIn F nn P ops Q' l) a w := by unfold wpOpIn; simp only [h0]; exact h
    exact wpOpIn_mono (fun a' w' h' => wpAnyIn_of_seq hF l (i + 1) _ a' w' (fun j => by have := hl (j + 1); simpa [Nat.add_assoc, Nat.add_comm 1 j] using this) hB.2 h') hw
section
variable {ops : Array Oper} {k : Nat} {w0 : World} {a0 : Act} {Vs : Nat → Value → World → Prop} {Q : Exit → Act → World → Prop}
theorem wpAnyIn_free (hF : WideF F) (hnd : ∀ (i : Nat) o, ops[i]? = some o → ∀ c, o.op ≠ .defer c) (ok : FreeOk ops k) (l : List Oper) (hl : ∀ j, l[j]? = ops[k + j]?) (hll : l.length = ops.size - k)
    (hmono : ∀ i, i < k → ∀ v w w', Vs i v w → Grows w w' → Vs i v w')
    (hdo : ∀ (i : Nat) (o : Oper), i < k → ops[i]? = some o → ∀ (vs : Nat → Value) w, Grows w0 w → (∀ e ∈ o.after, Region.binds .any e = true → Vs e.on (vs e.on) w) →
      OpDoes P ops o (putL ops (fun _ => true) vs (List.range i) a0) w (fun v w' => Grows w w' ∧ Vs i v w'))
    (hend : ∀ vs w, Grows w0 w → (∀ j, j < k → Vs j (vs j) w) → wpListIn F nn P ops Q l (putL ops (fun _ => true) vs (List.range k) a0) w) :
    ∀ (f : Nat) (listed : Array Bool) (vs : Nat → Value) (w : World), left listed k = f → HeadInv .any ops k listed → Grows w0 w → (∀ i, i < k → listed.getD i false = true → Vs i (vs i) w) →
      wpAnyIn F nn P .any ops Q (f + (ops.size - k)) listed (putL ops (fun j => listed.getD j false) vs (List.range k) a0) w
  | 0, listed, vs, w, hf, inv, hg, hv => by
    have hall := left_zero hf
    have hL : listed = ((List.range ops.size).map fun i => decide (i < k)).toArray := by
      apply Array.ext
      · simp [inv.size]
      · intro i h1 h2
        simp only [List.getElem_toArray, List.getElem_map, List.getElem_range]
        by_cases hik : i < k
        · have := hall i hik
          simp [h1] at this
          simp [hik, this]
        · have := inv.tail i (by omega) (by rw [inv.size] at h1; exact h1)
          simp [h1] at this
          simp [hik, this]
    rw [putL_same (L' := fun _ => true) (vs' := vs) _ _ fun j hj => ⟨hall j (List.mem_range.1 hj), fun _ => rfl⟩, Nat.zero_add, ← hll]
    have hs := ok.seq
    rw [← hL, ← hll] at hs
    exact wpAnyIn_of_seq hF l k listed _ w hl hs (hend vs w hg fun j hj => hv j hj (hall j hj))
  | f + 1, listed, vs, w, hf, inv, hg, hv => by
    rw [show f + 1 + (ops.size - k) = (f + (ops.size - k)) + 1 by omega]
    obtain ⟨i0, hi0, hu0, hb0⟩ := left_some (listed := listed) (k := k) (by omega)
    have hle := ok.le
    refine ⟨fun h0 => ?_, fun i hi => ?_⟩
    · exfalso
      have hr : i0 ∈ Region.ready .any ops listed := by
        rw [mem_ready]
        have ho : ops[i0]? = some (ops[i0]'(by omega)) := Array.getElem?_eq_getElem (by omega)
        refine ⟨getD_in (by rw [inv.size]; omega) hu0, _, ho, fun e he hb => hb0 _ (ok.before i0 _ hi0 ho e he hb)⟩
      rw [h0] at hr
      cases hr
    · have hik : i < k := by
        rcases Nat.lt_or_ge i k with h | h
        · exact h
        · exfalso
          rcases ok.tail with ht | ⟨hs, hc⟩
          · obtain ⟨_, o, ho, _⟩ := mem_ready.1 hi
            have := (Array.getElem?_eq_some_iff.1 ho).1
            omega
          · obtain ⟨_, o, ho, _⟩ := mem_ready.1 hi
            have := (Array.getElem?_eq_some_iff.1 ho).1
            exact tail_waits hs hc (by omega) inv _ i0 rfl hi0 (getD_in (by rw [inv.size]; omega) hu0) i h hi
      obtain ⟨hun, oi, hoi, hall⟩ := mem_ready.1 hi
      have hun' : listed.getD i false = false := getD_both hun
      have hsz : i < listed.size := by rw [inv.size]; omega
      -- what it looks at is as it is in the text's order
      have hal : Alike (oi.looksAt ops) (putL ops (fun j => decide (j < i)) vs (List.range k) a0) (putL ops (fun j => listed.getD j false) vs (List.range k) a0) := by
        refine alike_putL _ _ _ ⟨rfl, fun _ _ => rfl⟩ fun j hj hne x hx => ?_
        have hjk := List.mem_range.1 hj
        cases hoj : ops[j]? with
        | none => simp [dstAt, hoj] at hx
        | some oj =>
          simp only [dstAt, hoj, Option.bind_some] at hx
          by_cases hji : j < i
          · have hlj : listed.getD j false = false := by simpa [hji] using hne
            rcases (ok.pair i j oi oj hik hji hoi hoj).1 with hw | hap
            · obtain ⟨o', ho', e, he, hbi, hon⟩ := Region.waitsFor_spec hw
              rw [hoi] at ho'
              cases ho'
              have := hall e he hbi
              rw [hon, hlj] at this
              cases this
            · exact (Oper.apart_spec hap).1 x hx
          · have hlj : listed.getD j false = true := by simpa [hji] using hne
            have hij : i < j := by
              rcases Nat.lt_trichotomy i j with h | h | h
              · exact h
              · subst h; rw [hun'] at hlj; cases hlj
              · exact absurd h hji
            rcases (ok.pair j i oj oi hjk hij hoj hoi).1 with hw | hap
            · obtain ⟨o', ho', e, he, hbi, hon⟩ := Region.waitsFor_spec hw
              rw [hoj] at ho'
              cases ho'
              have := inv.closed j oj hoj hlj e he hbi
              rw [hon, hun'] at this
              cases this
            · exact (Oper.apart_spec hap).2.2 x hx
      rw [putL_upto (Nat.le_of_lt hik)] at hal
      have hd := hdo i oi hik hoi vs w hg fun e he hb => hv _ (by have := ok.before i oi hik hoi e he hb; omega) (hall e he hb)
      have next : ∀ v w', Grows w w' ∧ Vs i v w' → wpAnyIn F nn P .any ops Q (f + (ops.size - k)) (listed.setIfInBounds i true) ((putL ops (fun j => listed.getD j false) vs (List.range k) a0).put oi.dst v) w' := by
        rintro v w' ⟨hg', hV⟩
        have hdst : dstAt ops i = oi.dst := by simp [dstAt, hoi]
        have hadd := putL_add (ops := ops) (L := fun j => listed.getD j false) (vs := vs) (i := i) (v := v) hun' (List.range k) a0 List.nodup_range (List.mem_range.2 hik) (fun j hj hne x hx hx' => by
          have hjk := List.mem_range.1 hj
          cases hoj : ops[j]? with
          | none => simp [dstAt, hoj] at hx'
          | some oj =>
            rw [hdst] at hx
            simp only [dstAt, hoj, Option.bind_some] at hx'
            rcases Nat.lt_or_gt_of_ne hne with h | h
            · exact (ok.pair i j oi oj hik h hoi hoj).2 x hx hx'
            · exact (ok.pair j i oj oi hjk h hoj hoi).2 x hx' hx)
        rw [hdst] at hadd
        rw [← hadd]
        have hsame : (fun j => (listed.setIfInBounds i true).getD j false) = (fun j => listed.getD j false || j == i) := by
          funext j
          by_cases hji : i = j
          · subst hji
            have : (listed.setIfInBounds i true).getD i false = true := by simp [hsz]
            rw [this]; simp
          · rw [getD_set_ne false hji]
            have : (j == i) = false := by simpa using fun e => hji e.symm
            simp [this]
        rw [← hsame]
        refine wpAnyIn_free hF hnd ok l hl hll hmono hdo hend f _ _ w' ?_ (inv.set hi hik) (hg.trans hg') fun j hj hlj => ?_
        · have := left_set hsz hun' hik
          omega
        · by_cases hji : j = i
          · subst hji; simpa using hV
          · simp only [hji, if_false]
            rw [getD_set_ne false (fun e => hji e.symm)] at hlj
            exact hmono j hj _ _ _ (hv j hj hlj) hg'
      unfold wpOpIn
      simp only [hoi]
      unfold OpDoes at hd
      rw [alike_wanted hal] at hd
      by_cases hw : Region.wanted oi (yielded ops (putL ops (fun j => listed.getD j false) vs (List.range k) a0).tmps) = true
      · rw [if_pos hw] at hd
        rw [if_pos hw]
        exact (hd.congr (alike_exec (ok.sel i oi · · hoi) hal)).wpIn hF (hnd i oi hoi) next
      · rw [if_neg hw] at hd
        rw [if_neg hw]
        exact ⟨fun f _ => hF.fn f, next _ _ hd⟩
end

/-- A region whose order is open: each of its first k operations by itself, what is behind in the text's order. -/
theorem wpIn_region_free {id : Nat} {Q : Exit → Act → World → Prop} {a : Act} {w : World} {l : List Oper} (hF : WideF F) (k n : Nat) (hm : P.follows .mixedOrders = true) (hnd : noDefer l = true) (hB : freeB l.toArray k = true) (hn : a.tmps.size = n) (hd : (l.take k).all (fun o => match o.dst with | some d => decide (d < n) | none => true) = true)
    (h : wpFree P l.toArray w.drew a (fun a' w' => wpListIn F nn P l.toArray Q (l.drop k) a' w') (l.take k) 0 (fun _ _ _ => True)) : (Code.region id l.toArray true).wpIn F nn P Q a w := by
  have ok := freeOk hB
  have hle : k ≤ l.length := by simpa using ok.le
  have hlt : (l.take k).length = k := by simp; omega
  have hget : ∀ (j : Nat) (o : Oper), (l.take k)[j]? = some o → l.toArray[j]? = some o ∧ j < k := fun j o ho => by
    have hj := (List.getElem?_eq_some_iff.1 ho).1
    rw [hlt] at hj
    rw [List.getElem?_take_of_lt hj] at ho
    exact ⟨by simpa using ho, hj⟩
  obtain ⟨Vs, _, h2, h3⟩ := free_words (P := P) (l.take k) 0 _ (fun j o ho e he hb => by
    obtain ⟨ho', hj⟩ := hget j o ho
    have := ok.before j o hj ho' e he hb
    omega) h
  simp only [Nat.zero_add, hlt] at h2 h3
  have each : ∀ (i : Nat) (o : Oper), i < k → l.toArray[i]? = some o → (l.take k)[i]? = some o := fun i o hi ho => by
    rw [List.getElem?_take_of_lt hi]; simpa using ho
  have inv0 : HeadInv .any l.toArray k (Array.replicate l.toArray.size false) :=
    ⟨by simp, fun j oj _ hl => (by rw [getD_replicate_false] at hl; cases hl), fun t _ ht => getD_in (by simpa using ht) (getD_replicate_false _ _)⟩
  refine wpIn_region_any hm ?_
  have hleft : ∀ n, left (Array.replicate l.toArray.size false) n = n := by
    intro n
    induction n with
    | zero => rfl
    | succ n ih => unfold left; rw [ih, getD_replicate_false]; simp
  have H := wpAnyIn_free (P := P) (F := F) (nn := nn) (Q := Q) (a0 := a) (w0 := w.drew) hF (noDefer_at hnd) ok (l.drop k) (fun j => by simp [List.getElem?_drop]) (by simp)
    (fun i hi v w w' => by
      have ho : l.toArray[i]? = some (l[i]'(by omega)) := by simp [show i < l.length by omega]
      exact (h2 i _ (each i _ hi ho)).1 v w w')
    (fun i o hi ho vs w' hg hv => by
      have hin : ∀ j, j < i → ∀ d, dstAt l.toArray j = some d → d < a.tmps.size := fun j hj d hdj => by
        have hlj : j < l.length := by omega
        have hoj : (l.take k)[j]? = some (l[j]) := by rw [List.getElem?_take_of_lt (by omega)]; exact List.getElem?_eq_getElem hlj
        have h4 := List.all_eq_true.1 hd _ (List.mem_of_getElem? hoj)
        have h5 : l[j].dst = some d := by simpa [dstAt, hlj] using hdj
        rw [h5] at h4
        rw [hn]
        simpa using h4
      rw [opDoes_eq, rho_eq i hin]
      exact (h2 i o (each i o hi ho)).2 vs w' hg hv) h3 k _ (fun _ => undef) w.drew (hleft k) inv0 (Grows.refl _) (fun i _ hl => (by rw [getD_replicate_false] at hl; cases hl))
  rw [putL_off _ _ (fun j _ => getD_replicate_false _ _), show k + (l.toArray.size - k) = l.toArray.size by simp; omega] at H
  exact H
end
end Go.Proofs.Ytfcghkmhcfgfkaa
