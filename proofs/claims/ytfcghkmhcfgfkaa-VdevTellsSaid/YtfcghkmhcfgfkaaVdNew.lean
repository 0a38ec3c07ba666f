/- The document's New. -/
import Derived.Test.YtfcghkmhcfgfkaaVdWrite
namespace Go.Proofs.Ytfcghkmhcfgfkaa
open Go.RowKit
set_option linter.unusedVariables false
set_option linter.unusedSimpArgs false
theorem pageE_blank : pageE VdM.blank = List.replicate 256 (.int .u8 0) := by
  unfold pageE VdM.blank
  rw [List.map_replicate]; rfl
theorem madeCells_pages (m : Nat) : (madeCells (pgA VdM.blank) (m * 256)).toList = (List.replicate m VdM.blank).flatMap pageE := by
  have hb : (pgA VdM.blank) = Array.replicate 256 (.int .u8 0) := by unfold pgA; rw [pageE_blank, List.toArray_replicate]
  have h2 : ∀ m, (List.replicate m VdM.blank).flatMap pageE = List.replicate (m * 256) (.int .u8 0) := by
    intro m
    induction m with
    | zero => rw [Nat.zero_mul]; rfl
    | succ m ih => rw [List.replicate_succ, List.flatMap_cons, ih, Nat.add_mul, Nat.one_mul, Nat.add_comm (m * 256) 256, ← List.replicate_append_replicate, pageE_blank]
  rw [h2, hb]
  apply List.ext_getElem
  · rw [Array.length_toList, size_madeCells, List.length_replicate]
  · intro i h1 h2
    have : i % 256 < 256 := Nat.mod_lt _ (by omega)
    simp [madeCells, this]
theorem Own'.nil {α : Type} (e : TypeId) (s : Nat) (f : α → List Value) (base : Nat) (w : World) : Own' e s f base w (.slice none 0 0) ([] : List α) := ⟨fun _ h => by simp at h, by simp, .inl ⟨rfl, rfl⟩⟩
theorem wpList_make_pages {w : World} {ops : Array Oper} {rest : List Oper} {o : Oper} {a : Act} {Q : Exit → Act → World → Prop} (hgd : o.guard = none) (l c : Operand) (ho : o.op = Op.makeSlice 22 l c) (base m : Nat) (C : Int)
    (hl : a.eval l = .int .i64 C) (hc : a.eval c = .int .i64 C) (hC : C = (m : Int)) (hm : m ≤ 1000000) (hb : base ≤ w.heap.size)
    (h : ∀ w', Own' 28 256 pageE base w' (.slice (some ⟨w.heap.size, 0, none⟩) m m) (List.replicate m VdM.blank) → Grows w w' → wpList Try.prog ops Q rest (a.put o.dst (.slice (some ⟨w.heap.size, 0, none⟩) m m)) w') :
    wpList Try.prog ops Q (o :: rest) a w := by
  have hi : (Try.prog.info? 28).bind (fun i => if i.size = 256 ∧ i.bytes = 256 then i.zero.map (·.cells) else none) = some (pgA VdM.blank) := by kernel_rfl
  obtain ⟨i0, hi0, hz⟩ := Option.bind_eq_some_iff.1 hi
  split at hz
  · rename_i hs
    obtain ⟨z, hz, hzc⟩ := Option.map_eq_some_iff.1 hz
    refine wpList_make_full w hgd l c 22 ho base 28 i0 z 256 Try.underlying22 hi0 hz hs.1 .i64 .i64 C C m hl hc hC hC (by rw [hs.2]; omega) (by unfold maxLen; omega) hb fun w' h1 h2 => ?_
    refine h w' ⟨fun x hx => by rw [List.eq_of_mem_replicate hx, pageE_len, blank_len], ?_⟩ ((Below.refl _ w).grown h2 (Nat.le_refl _) (fun k e => by cases e))
    rw [hzc, madeCells_pages] at h1
    rwa [List.length_replicate]
  · cases hz
def newD (n : Int) : Dk := if n < 32 ∨ 256 < n then ⟨[], [], [], false⟩ else ⟨List.replicate n.toNat VdM.blank, [], [], false⟩
def newE (n : Int) : Int := if n < 32 ∨ 256 < n then 2 else 0
set_option maxRecDepth 20000 in
set_option maxHeartbeats 1000000 in
theorem rnew_any (n : Int) (w : World) (b1 : -9223372036854775808 ≤ n) (b2 : n ≤ 9223372036854775807) :
    Calls Try.prog 11 #[.int .i64 n] w fun e w' => ∃ r, e = .returned (.tuple #[r, .int .i64 (newE n)]) ∧ OwnDisk w.heap.size w' r (newD n) ∧ Grows w w' := by
  have R0 := Lib.hid (Row.new w 26 #[.slice none 0 0, .slice none 0 0, .slice none 0 0, .bool false])
  have HG := Lib.hid (Grows.alloc w (.cells #[.slice none 0 0, .slice none 0 0, .slice none 0 0, .bool false] 26))
  by_cases h : n < 32 ∨ 256 < n
  · have HE : Hid (newE n = 2) := if_pos h
    have HD : Hid (newD n = ⟨[], [], [], false⟩) := if_pos h
    rw [HE.out, HD.out]
    rcases h with h | h
    · go_enter Try.func11, Try.ntmps11
      go_wp2
      refine bodyPost_ret (results_dk_two (p := 2) (q := 3) (by exact rfl) _ (.int .i64 2) (by exact rfl) (by exact rfl) (by exact rfl) R0.out) rfl ?_
      exact ⟨_, rfl, ⟨_, _, _, rfl, Own'.nil _ _ _ _ _, Own'.nil _ _ _ _ _, Own'.nil _ _ _ _ _⟩, HG.out⟩
    · have h' : ¬ n < 32 := by omega
      go_enter Try.func11, Try.ntmps11
      go_wp2
      refine bodyPost_ret (results_dk_two (p := 2) (q := 3) (by exact rfl) _ (.int .i64 2) (by exact rfl) (by exact rfl) (by exact rfl) R0.out) rfl ?_
      exact ⟨_, rfl, ⟨_, _, _, rfl, Own'.nil _ _ _ _ _, Own'.nil _ _ _ _ _, Own'.nil _ _ _ _ _⟩, HG.out⟩
  · have HE : Hid (newE n = 0) := if_neg h
    have HD : Hid (newD n = ⟨List.replicate n.toNat VdM.blank, [], [], false⟩) := if_neg h
    rw [HE.out, HD.out]
    clear HE HD
    have h1 : ¬ n < 32 := by omega
    have h2 : ¬ 256 < n := by omega
    obtain ⟨m, rfl⟩ : ∃ m : Nat, n = m := ⟨n.toNat, by omega⟩
    rw [Int.toNat_natCast]
    clear h
    have hm : Hid (m ≤ 1000000) := by unfold Hid; omega
    have hone : Hid ((#[Value.slice (some ⟨w.heap.size + 1, 0, none⟩) m m, .slice none 0 0, .slice none 0 0, .bool false] : Array Value).all (·.oneCell') = true) := by unfold Hid; simp [Value.oneCell']
    go_enter Try.func11, Try.ntmps11
    go_wp2_with (first
      | ((with_reducible refine wpList_make_pages (o := ⟨some 12, _, _, _, _, _⟩) ?_ (.tmp 11) (.tmp 11) ?_ w.heap.size m m ?_ ?_ ?_ ?_ ?_ ?_); exact rfl; exact rfl; exact rfl; exact rfl; exact rfl; exact hm.out; exact HG.out.size; intro w1 h1 g1; rw [World.size_alloc] at h1; have HO := Lib.hid h1; have HR := Lib.hid (Row.grows R0.out g1); have HG1 := Lib.hid (HG.out.trans g1); clear h1 g1)
      | ((with_reducible refine wpList_store_dk ?_ (.tmp 2) (.tmp 13) ?_ w.heap.size #[.slice (some ⟨w.heap.size + 1, 0, none⟩) m m, .slice none 0 0, .slice none 0 0, .bool false] #[.slice none 0 0, .slice none 0 0, .slice none 0 0, .bool false] ?_ ?_ ?_ ?_ ?_ ?_ ?_); exact rfl; exact rfl; exact rfl; exact rfl; exact rfl; exact rfl; exact hone.out; exact HR.out; intro w6 hw6 hg6))
    refine bodyPost_ret (results_dk_two (p := 2) (q := 3) (by exact rfl) _ (.int .i64 0) (by exact rfl) (by exact rfl) (by exact rfl) hw6) rfl ?_
    exact ⟨_, rfl, ⟨_, _, _, rfl, HO.out.aside hg6 HR.out (by decide), Own'.nil _ _ _ _ _, Own'.nil _ _ _ _ _⟩, HG1.out.grown hg6 HG1.out.size (fun k e => by cases e; exact Nat.le_refl _)⟩
end Go.Proofs.Ytfcghkmhcfgfkaa
