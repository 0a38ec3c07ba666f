/- The law on pages, as a call. -/
import Derived.Test.YtohidggifcnjgaaPackBackAny
namespace Go.Proofs.Ytohidggifcnjgaa
open Go.RowKit
set_option linter.unusedVariables false
set_option linter.unusedSimpArgs false
attribute [local go_sem high] sliced_cut
attribute [local go_sem] cutA_zero Nat.sub_zero
theorem does_load {P : Program} {ρ : Operand → Value} {o : Oper} {w : World} {R : Value → World → Prop} (ty : TypeId) (x : Operand) (a : Addr) (v : Value) (ho : o.op = .load ty x) (hx : ρ x = .pointer (some a)) (hl : (loadVar ty a).run P w = .ok v w) (hR : R v w) : Does P o ρ w R := by
  unfold Does execOp
  simp only [ho, hx, Instr.loadAt, Instr.sureAddr, Sem.run_bind, Sem.run_pure, Result.andThen_ok, hl]
  exact hR
theorem page_eql (l : List (BitVec 8)) (hl : l.length = 256) (w : World) : (binOp .eql 25 (.agg (pageA l)) (.agg (pageA l))).run Try.prog w = .ok (.bool true) w := by
  obtain ⟨i0, hi, _⟩ := info_u8
  exact run_eql_arr_self (P := Try.prog) (e := 5) (n := 256) (k := .u8) Try.underlying25 Try.underlying5 hi (by kernel_rfl) (pageA l) (fun j hj => ⟨_, pageA_get l j _ (List.getElem?_eq_getElem (by omega))⟩) w
theorem page_equalIn (l : List (BitVec 8)) (hl : l.length = 256) (w : World) : (Op.equalIn 10000 25 (.agg (pageA l)) (.agg (pageA l))).run Try.prog w = .ok true w := by
  obtain ⟨i0, hi, _⟩ := info_u8
  have hc : Try.prog.cellsOf 5 = 1 := by kernel_rfl
  rw [show (10000 : Nat) = 9999 + 1 from rfl, run_equalIn_array w 9999 (pageA l) (pageA l) Try.underlying25 hi, hc, eqItems_self 9998 Try.underlying5 (pageA l) w _ fun j hj => ⟨_, pageA_get l j _ (List.getElem?_eq_getElem (by have := List.mem_range.1 hj; omega))⟩]
section
variable {w : World} {o : Oper} {a : Act} {K : Act → World → Prop} {Q : Exit → Act → World → Prop}
theorem wp_load_page (x : Operand) (ho : o.op = .load 25 x) (g : Nat) (l : List (BitVec 8)) (hx : a.eval x = .pointer (some ⟨g, 0, none⟩)) (hr : PRow w g l) (h : K (a.put o.dst (.agg (pageA l))) w) : o.wp Try.prog a w K Q :=
  wp_load_row 25 x ho g hx 25 (pageA l) (0, 0) _ hr.2 Try.underlying25 rfl (by rw [pageA_size, hr.1]; exact page_info) h
theorem built_page : Try.prog.built 25 [] = some (pageA noughts) := by kernel_rfl
theorem wp_build_page (ho : o.op = .build 25 #[]) (h : K (a.put o.dst (.agg (pageA noughts))) w) : o.wp Try.prog a w K Q := by
  have e : Try.prog.built 25 ((#[] : Array (Nat × Operand)).map fun (i, x) => (i, a.eval x)).toList = some (pageA noughts) := by simpa using built_page
  refine wp_build 25 #[] ho (by rw [e]; rfl) ?_
  rw [e]
  exact h
end
theorem bytes_mono (l : List (BitVec 8)) : ∀ v w w', Bytes (World.heap w).size w v l → Grows w w' → Bytes (World.heap w').size w' v l := fun _ _ _ h hg => Bytes.more (Sl.below h hg) (Below.size hg)
theorem same1 {w : World} {u v : Value} (a : List (BitVec 8)) (hu : Bytes w.heap.size w u a) (hv : Bytes w.heap.size w v a) : Calls Try.prog 13 #[u, v] w fun e w' => e = .returned (.bool true) ∧ Grows w w' :=
  (same_any u v a a w hu hv).mono fun e w' ⟨he, hw⟩ => ⟨by rw [he]; simp, hw ▸ Grows.refl _⟩
theorem clean1 {w : World} {u : Value} (a : List (BitVec 8)) (hu : Bytes w.heap.size w u a) (hl : a.length ≤ 900000) (hc : PackM.clean a = true) : Calls Try.prog 20 #[u] w fun e w' => e = .returned (.bool true) ∧ Grows w w' :=
  (clean_any u a w hu hl).mono fun e w' ⟨he, hw⟩ => ⟨by rw [he, hc], hw ▸ Grows.refl _⟩
theorem halves_self (old : List (BitVec 8)) : PackM.halves old old = old := List.take_append_drop 128 old
theorem halves_again (old now : List (BitVec 8)) (h : now.length = 256) (h' : old.length = 256) : PackM.halves (PackM.halves old now) now = PackM.halves old now := by
  unfold PackM.halves
  congr 1
  rw [List.drop_append_of_le_length (by rw [List.length_take]; omega), List.drop_eq_nil_of_le (by rw [List.length_take]; omega), List.nil_append]
/-- What a page has from a place on, as the language cuts it: at its end nothing, from its head on. -/
theorem PRow.cutAt {w : World} {g : Nat} {l : List (BitVec 8)} (h : PRow w g l) (k : Nat) (hk : k ≤ 256) : Bytes w.heap.size w (.slice (some (if 256 = k then ⟨g, 0, none⟩ else ⟨g, k, none⟩)) (256 - k) (256 - k)) (l.drop k) := by
  by_cases hk' : k = 256
  · subst hk'
    rw [if_pos rfl, List.drop_of_length_le (by rw [h.1]; exact Nat.le_refl _)]
    exact ⟨_, 0, rfl, Nat.le_refl _, Nat.zero_le _, fun hp => absurd hp (by simp)⟩
  · rw [if_neg (by omega)]
    exact h.tail k (256 - k) (by omega) rfl
set_option maxHeartbeats 8000000 in
set_option maxRecDepth 100000 in
theorem packPages_any (v : Value) (b : List (BitVec 8)) (old now : List (BitVec 8)) (w : World) (hb : Bytes w.heap.size w v b) (ho : old.length = 256) (hn : now.length = 256) :
    Calls Try.prog 6 #[v, .agg (old.map byteV).toArray, .agg (now.map byteV).toArray] w fun e w' => e = .returned (.bool true) ∧ Below w.heap.size w w' := by
  show Calls Try.prog 6 #[v, .agg (pageA old), .agg (pageA now)] w _
  have HB := Lib.hid hb
  obtain ⟨A, cap, rfl, q1, q2, _⟩ := hb
  simp only [List.length_map] at q1 HB ⊢
  unfold maxLen at q2
  have hz := fun w => zero_page w
  have R4 := Lib.hid ((PRow.new w ho).alloc (.cells (pageA now) 25))
  have R5 := Lib.hid (PRow.new (w.alloc (.cells (pageA old) 25)) hn)
  have G0 := Lib.hid ((Grows.alloc w (.cells (pageA old) 25)).trans (Grows.alloc _ (.cells (pageA now) 25)))
  have HO := Lib.hid ho; have HN := Lib.hid hn
  clear ho hn
  by_cases g1 : 300 < b.length
  · have g1' : (300 : Int) < b.length := by omega
    go_enter Try.func6, Try.ntmps6
    go_wp2_with (go_at_call 8; refine (wakes_any _).mono ?_; rintro e w2 ⟨rfl, hb2⟩)
    go_ret
    exact ⟨rfl, G0.out.trans hb2⟩
  · have g1' : (b.length : Int) ≤ 300 := by omega
    have HF := Lib.hid (fun W (h : Bytes (World.heap W).size W (.slice A b.length cap) b) => fill_any (.slice A b.length cap) b W h (by omega))
    by_cases g2 : 256 < b.length
    · have g2' : (256 : Int) < b.length := by omega
      have e1 : PackM.fill b = noughts := by unfold PackM.fill; rw [if_pos g2]; rfl
      have e2 : PackM.fillE b = 21 := by unfold PackM.fillE; rw [if_pos g2]
      rw [e1, e2] at HF
      have heq := fun w => page_equalIn noughts noughts_length w
      clear e1 e2
      go_enter Try.func6, Try.ntmps6
      go_wp2_with (first
        | (go_at_call 14; refine (HF.out _ (by exact Bytes.more (Sl.below HB.out G0.out) G0.out.size)).mono ?_; rintro e w3 ⟨rfl, g3⟩; have HG3 := Lib.hid (G0.out.trans g3); clear g3)
        | ((with_reducible refine wpList_store_page ?_ (.tmp 7) (.tmp 18) ?_ w3.heap.size noughts noughts ?_ ?_ ?_ ?_ ?_); exact rfl; exact rfl; exact rfl; exact rfl; exact noughts_length; exact PRow.new w3 noughts_length; intro w5 hp5 hg5; have HB5 := Lib.hid ((HG3.out.trans (Grows.alloc _ _)).grown hg5 (by have := HG3.out.size; simp; omega) (fun k e => by cases e; exact HG3.out.size)); have HP5 := Lib.hid hp5; clear hp5 hg5)
        | ((with_reducible refine wp_load_page (o := ⟨some 26, _, _, _, _, _⟩) (.tmp 7) ?_ w3.heap.size noughts ?_ ?_ ?_); exact rfl; exact rfl; exact HP5.out)
        | ((with_reducible refine wp_build_page (o := ⟨some 27, _, _, _, _, _⟩) ?_ ?_); exact rfl)
        | (go_at_call 8; refine (wakes_any _).mono ?_; rintro e w7 ⟨rfl, hb7⟩; have HB7 := Lib.hid hb7; clear hb7))
      rename_i aK
      refine wp_load_page (.tmp 7) rfl w3.heap.size noughts rfl HP5.out ?_
      refine aK _ _ ?_
      clear aK
      go_wp2_with (go_at_call 8; refine (wakes_any _).mono ?_; rintro e w7 ⟨rfl, hb7⟩; have HB7 := Lib.hid hb7; clear hb7)
      go_ret
      exact ⟨rfl, HB5.out.trans (Below.mono HB7.out HB5.out.size)⟩
    · have g2' : (b.length : Int) ≤ 256 := by omega
      have g5 : b.length ≤ 256 := by omega
      have e2 : PackM.fillE b = 0 := by unfold PackM.fillE; rw [if_neg g2]
      rw [e2] at HF
      clear e2
      have HFL := Lib.hid (PackM.fill_length b)
      have HFH : Hid ((PackM.fill b).take b.length = b) := by unfold Hid PackM.fill; rw [if_neg g2]; exact List.take_left
      have HFT : Hid (PackM.clean ((PackM.fill b).drop b.length) = true) := by
        unfold Hid PackM.fill PackM.clean; rw [if_neg g2, List.drop_left, List.all_eq_true]
        intro x hx
        rw [List.eq_of_mem_replicate hx]; rfl
      generalize PackM.fill b = F at *
      have HH := Lib.hid (fun W => halves_any old now HO.out HN.out W)
      have HHL := Lib.hid (PackM.halves_length old now HO.out HN.out)
      have HHT : Hid ((PackM.halves old now).take 128 = now.take 128) := by unfold Hid PackM.halves; exact List.take_left' (by rw [List.length_take, HN.out]; rfl)
      have HHD : Hid ((PackM.halves old now).drop 128 = old.drop 128) := by unfold Hid PackM.halves; exact List.drop_left' (by rw [List.length_take, HN.out]; rfl)
      have HH2 := Lib.hid (fun W => halves_any old old HO.out HO.out W)
      rw [halves_self] at HH2
      have HH3 := Lib.hid (fun W => halves_any (PackM.halves old now) now HHL.out HN.out W)
      rw [halves_again old now HN.out HO.out] at HH3
      generalize PackM.halves old now = H at *
      go_enter Try.func6, Try.ntmps6
      go_wp2_with (first
        | (go_at_call 14; refine (HF.out _ (by exact Bytes.more (Sl.below HB.out G0.out) G0.out.size)).mono ?_; rintro e w3 ⟨rfl, g3⟩; have HG3 := Lib.hid (G0.out.trans g3); have r4 := Lib.hid (R4.out.grows g3); have r5 := Lib.hid (R5.out.grows g3); clear g3)
        | ((with_reducible refine wpList_store_page ?_ (.tmp 7) (.tmp 18) ?_ w3.heap.size F noughts ?_ ?_ ?_ ?_ ?_); exact rfl; exact rfl; exact rfl; exact rfl; exact HFL.out; exact PRow.new w3 noughts_length; intro w5 hp5 hg5; have HB5 := Lib.hid ((HG3.out.trans (Grows.alloc _ _)).grown hg5 (by have := HG3.out.size; simp; omega) (fun k e => by cases e; exact HG3.out.size)); have s4 := Lib.hid ((r4.out.alloc (.cells (pageA noughts) 25)).grown hg5 (by have := r4.out.lt; simp; omega)); have s5 := Lib.hid ((r5.out.alloc (.cells (pageA noughts) 25)).grown hg5 (by have := r5.out.lt; simp at this ⊢; omega)); have s7 := Lib.hid hp5; clear hp5 hg5)
        | ((with_reducible refine wpList_load_page (o := ⟨some 33, _, _, _, _, _⟩) ?_ (.tmp 4) ?_ w.heap.size old ?_ ?_ ?_); exact rfl; exact rfl; exact rfl; exact s4.out)
        | ((with_reducible refine wpList_load_page (o := ⟨some 34, _, _, _, _, _⟩) ?_ (.tmp 5) ?_ (w.heap.size + 1) now ?_ ?_ ?_); exact rfl; exact rfl; exact rfl; (have := s5.out; rw [World.size_alloc] at this; exact this))
        | (go_at_call 22; refine (HH.out _).mono ?_; rintro e w6 ⟨rfl, g6⟩; have HG6 := Lib.hid (HB5.out.trans (Below.mono g6 HB5.out.size)); have t4 := Lib.hid (s4.out.grows g6); have t5 := Lib.hid (s5.out.grows g6); have t7 := Lib.hid (s7.out.grows g6); clear g6)
        | ((with_reducible refine wpList_store_page ?_ (.tmp 9) (.tmp 35) ?_ w6.heap.size H noughts ?_ ?_ ?_ ?_ ?_); exact rfl; exact rfl; exact rfl; exact rfl; exact HHL.out; exact PRow.new w6 noughts_length; intro w8 hp8 hg8; have HB8 := Lib.hid ((HG6.out.trans ((Below.refl _ _).alloc HG6.out.size _)).grown hg8 (by have := HG6.out.size; simp; omega) (fun k e => by cases e; exact HG6.out.size)); have u4 := Lib.hid ((t4.out.alloc (.cells (pageA noughts) 25)).grown hg8 (by have := t4.out.lt; simp; omega)); have u5 := Lib.hid ((t5.out.alloc (.cells (pageA noughts) 25)).grown hg8 (by have := t5.out.lt; simp at this ⊢; omega)); have u7 := Lib.hid ((t7.out.alloc (.cells (pageA noughts) 25)).grown hg8 (by have := t7.out.lt; simp; omega)); have u9 := Lib.hid hp8; clear hp8 hg8))
      -- REGION 8
      have v4 := Lib.hid u4.out.drew; have v5 := Lib.hid u5.out.drew; have v7 := Lib.hid u7.out.drew; have v9 := Lib.hid u9.out.drew
      have hhd := HB8.out.size
      have hbw : Hid (Bytes w8.drew.heap.size w8.drew (.slice A b.length cap) b) := Bytes.more (Sl.below HB.out HB8.out.drew) hhd
      refine wp_region_free 47 82 (by kernel_rfl) (by kernel_rfl) rfl (by kernel_rfl) ?_; simp only [List.take_succ_cons, List.take_zero, List.drop_succ_cons, List.drop_zero]
      repeat (apply free_pure rfl; focus (intro vs w hg hd;  (try simp [Region.binds] at hd); simp only [execOp, resolve, Option.map_some, Option.map_none, List.map_toArray, List.map_cons, List.map_nil, rho_const, rho_func]; (repeat (conv in rho _ _ _ _ (Operand.tmp _) => whnf)); (try simp only [hd]); go_simp; (repeat (conv in rho _ _ _ _ (Operand.tmp _) => whnf)); (try simp only [hd]); rfl))
      refine free_guarded (fun v_ _ => v_ = .slice A b.length cap) (val_mono _) (fun vs wq hg hd => by
        simp [Region.binds] at hd
        refine ⟨?_, ?_⟩
        · simp [Region.wanted, yieldR]
          (repeat (conv in rho _ _ _ _ (Operand.tmp _) => whnf))
          simp [hd]
        · simp only [Does]
          simp only [execOp, resolve, Option.map_some, Option.map_none, List.map_toArray, List.map_cons, List.map_nil, rho_const, rho_func]
          (repeat (conv in rho _ _ _ _ (Operand.tmp _) => whnf))
          (try simp only [hd])
          go_simp
          (repeat (conv in rho _ _ _ _ (Operand.tmp _) => whnf))
          exact Grows.refl _) ?_
      refine free_guarded (fun v_ _ => v_ = .int .i64 b.length) (val_mono _) (fun vs wq hg hd => by
        simp [Region.binds] at hd
        refine ⟨?_, ?_⟩
        · simp [Region.wanted, yieldR]
          (repeat (conv in rho _ _ _ _ (Operand.tmp _) => whnf))
          simp [hd]
        · simp only [Does]
          simp only [execOp, resolve, Option.map_some, Option.map_none, List.map_toArray, List.map_cons, List.map_nil, rho_const, rho_func]
          (repeat (conv in rho _ _ _ _ (Operand.tmp _) => whnf))
          (try simp only [hd])
          go_simp
          (repeat (conv in rho _ _ _ _ (Operand.tmp _) => whnf))
          exact Grows.refl _) ?_
      refine free_guarded (fun v_ w_ => Bytes w_.heap.size w_ v_ b) (bytes_mono _) (fun vs wq hg hd => by
        simp [Region.binds] at hd
        refine ⟨?_, ?_⟩
        · simp [Region.wanted, yieldR]
          (repeat (conv in rho _ _ _ _ (Operand.tmp _) => whnf))
          simp [hd]
        · simp only [Does]
          simp only [execOp, resolve, Option.map_some, Option.map_none, List.map_toArray, List.map_cons, List.map_nil, rho_const, rho_func]
          (repeat (conv in rho _ _ _ _ (Operand.tmp _) => whnf))
          (try simp only [hd])
          go_simp
          (repeat (conv in rho _ _ _ _ (Operand.tmp _) => whnf))
          exact ⟨Grows.refl _, by have h := (v7.out.grows hg).head b.length g5; rw [HFH.out] at h; exact h⟩) ?_
      refine free_guarded (fun v_ w_ => Bytes w_.heap.size w_ v_ b) (bytes_mono _) (fun vs wq hg hd => by
        simp [Region.binds] at hd
        refine ⟨?_, ?_⟩
        · simp [Region.wanted, yieldR]
          (repeat (conv in rho _ _ _ _ (Operand.tmp _) => whnf))
          simp [hd]
        · simp only [Does]
          simp only [execOp, resolve, Option.map_some, Option.map_none, List.map_toArray, List.map_cons, List.map_nil, rho_const, rho_func]
          (repeat (conv in rho _ _ _ _ (Operand.tmp _) => whnf))
          (try simp only [hd])
          go_simp
          (repeat (conv in rho _ _ _ _ (Operand.tmp _) => whnf))
          exact ⟨Grows.refl _, bytes_mono _ _ _ _ hbw.out hg⟩) ?_
      refine free_guarded (fun v_ _ => v_ = .bool true) (val_mono _) (fun vs wq hg hd => by
        simp [Region.binds] at hd
        refine ⟨?_, ?_⟩
        · simp [Region.wanted, yieldR]
          (repeat (conv in rho _ _ _ _ (Operand.tmp _) => whnf))
          simp [hd]
        · simp only [Does]
          simp only [execOp, resolve, Option.map_some, Option.map_none, List.map_toArray, List.map_cons, List.map_nil, rho_const, rho_func]
          (repeat (conv in rho _ _ _ _ (Operand.tmp _) => whnf))
          (try simp only [hd])
          go_simp
          (repeat (conv in rho _ _ _ _ (Operand.tmp _) => whnf))
          exact same1 b hd.1 hd.2.1) ?_
      repeat (apply free_pure rfl; focus (intro vs w hg hd;  (try simp [Region.binds] at hd); simp only [execOp, resolve, Option.map_some, Option.map_none, List.map_toArray, List.map_cons, List.map_nil, rho_const, rho_func]; (repeat (conv in rho _ _ _ _ (Operand.tmp _) => whnf)); (try simp only [hd]); go_simp; (repeat (conv in rho _ _ _ _ (Operand.tmp _) => whnf)); (try simp only [hd]); rfl))
      refine free_guarded (fun v_ _ => v_ = .slice A b.length cap) (val_mono _) (fun vs wq hg hd => by
        simp [Region.binds] at hd
        refine ⟨?_, ?_⟩
        · simp [Region.wanted, yieldR]
          (repeat (conv in rho _ _ _ _ (Operand.tmp _) => whnf))
          simp [hd]
        · simp only [Does]
          simp only [execOp, resolve, Option.map_some, Option.map_none, List.map_toArray, List.map_cons, List.map_nil, rho_const, rho_func]
          (repeat (conv in rho _ _ _ _ (Operand.tmp _) => whnf))
          (try simp only [hd])
          go_simp
          (repeat (conv in rho _ _ _ _ (Operand.tmp _) => whnf))
          exact Grows.refl _) ?_
      refine free_guarded (fun v_ _ => v_ = .int .i64 b.length) (val_mono _) (fun vs wq hg hd => by
        simp [Region.binds] at hd
        refine ⟨?_, ?_⟩
        · simp [Region.wanted, yieldR]
          (repeat (conv in rho _ _ _ _ (Operand.tmp _) => whnf))
          simp [hd]
        · simp only [Does]
          simp only [execOp, resolve, Option.map_some, Option.map_none, List.map_toArray, List.map_cons, List.map_nil, rho_const, rho_func]
          (repeat (conv in rho _ _ _ _ (Operand.tmp _) => whnf))
          (try simp only [hd])
          go_simp
          (repeat (conv in rho _ _ _ _ (Operand.tmp _) => whnf))
          exact Grows.refl _) ?_
      refine free_guarded (fun v_ w_ => Bytes w_.heap.size w_ v_ (F.drop b.length)) (bytes_mono _) (fun vs wq hg hd => by
        simp [Region.binds] at hd
        refine ⟨?_, ?_⟩
        · simp [Region.wanted, yieldR]
          (repeat (conv in rho _ _ _ _ (Operand.tmp _) => whnf))
          simp [hd]
        · simp only [Does]
          simp only [execOp, resolve, Option.map_some, Option.map_none, List.map_toArray, List.map_cons, List.map_nil, rho_const, rho_func]
          (repeat (conv in rho _ _ _ _ (Operand.tmp _) => whnf))
          (try simp only [hd])
          go_simp
          (repeat (conv in rho _ _ _ _ (Operand.tmp _) => whnf))
          exact ⟨Grows.refl _, (v7.out.grows hg).cutAt b.length g5⟩) ?_
      refine free_guarded (fun v_ _ => v_ = .bool true) (val_mono _) (fun vs wq hg hd => by
        simp [Region.binds] at hd
        refine ⟨?_, ?_⟩
        · simp [Region.wanted, yieldR]
          (repeat (conv in rho _ _ _ _ (Operand.tmp _) => whnf))
          simp [hd]
        · simp only [Does]
          simp only [execOp, resolve, Option.map_some, Option.map_none, List.map_toArray, List.map_cons, List.map_nil, rho_const, rho_func]
          (repeat (conv in rho _ _ _ _ (Operand.tmp _) => whnf))
          (try simp only [hd])
          go_simp
          (repeat (conv in rho _ _ _ _ (Operand.tmp _) => whnf))
          exact clean1 _ hd.1 (by rw [List.length_drop, HFL.out]; omega) HFT.out) ?_
      repeat (apply free_pure rfl; focus (intro vs w hg hd;  (try simp [Region.binds] at hd); simp only [execOp, resolve, Option.map_some, Option.map_none, List.map_toArray, List.map_cons, List.map_nil, rho_const, rho_func]; (repeat (conv in rho _ _ _ _ (Operand.tmp _) => whnf)); (try simp only [hd]); go_simp; (repeat (conv in rho _ _ _ _ (Operand.tmp _) => whnf)); (try simp only [hd]); rfl))
      refine free_guarded (fun v_ _ => v_ = .int .i64 128) (val_mono _) (fun vs wq hg hd => by
        simp [Region.binds] at hd
        refine ⟨?_, ?_⟩
        · simp [Region.wanted, yieldR]
          (repeat (conv in rho _ _ _ _ (Operand.tmp _) => whnf))
          simp [hd]
        · simp only [Does]
          simp only [execOp, resolve, Option.map_some, Option.map_none, List.map_toArray, List.map_cons, List.map_nil, rho_const, rho_func]
          (repeat (conv in rho _ _ _ _ (Operand.tmp _) => whnf))
          (try simp only [hd])
          go_simp
          (repeat (conv in rho _ _ _ _ (Operand.tmp _) => whnf))
          exact Grows.refl _) ?_
      refine free_guarded (fun v_ w_ => Bytes w_.heap.size w_ v_ (now.take 128)) (bytes_mono _) (fun vs wq hg hd => by
        simp [Region.binds] at hd
        refine ⟨?_, ?_⟩
        · simp [Region.wanted, yieldR]
          (repeat (conv in rho _ _ _ _ (Operand.tmp _) => whnf))
          simp [hd]
        · simp only [Does]
          simp only [execOp, resolve, Option.map_some, Option.map_none, List.map_toArray, List.map_cons, List.map_nil, rho_const, rho_func]
          (repeat (conv in rho _ _ _ _ (Operand.tmp _) => whnf))
          (try simp only [hd])
          go_simp
          (repeat (conv in rho _ _ _ _ (Operand.tmp _) => whnf))
          exact ⟨Grows.refl _, by have h := (v9.out.grows hg).head 128 (by decide); rw [HHT.out] at h; exact h⟩) ?_
      refine free_guarded (fun v_ _ => v_ = .int .i64 128) (val_mono _) (fun vs wq hg hd => by
        simp [Region.binds] at hd
        refine ⟨?_, ?_⟩
        · simp [Region.wanted, yieldR]
          (repeat (conv in rho _ _ _ _ (Operand.tmp _) => whnf))
          simp [hd]
        · simp only [Does]
          simp only [execOp, resolve, Option.map_some, Option.map_none, List.map_toArray, List.map_cons, List.map_nil, rho_const, rho_func]
          (repeat (conv in rho _ _ _ _ (Operand.tmp _) => whnf))
          (try simp only [hd])
          go_simp
          (repeat (conv in rho _ _ _ _ (Operand.tmp _) => whnf))
          exact Grows.refl _) ?_
      refine free_guarded (fun v_ w_ => Bytes w_.heap.size w_ v_ (now.take 128)) (bytes_mono _) (fun vs wq hg hd => by
        simp [Region.binds] at hd
        refine ⟨?_, ?_⟩
        · simp [Region.wanted, yieldR]
          (repeat (conv in rho _ _ _ _ (Operand.tmp _) => whnf))
          simp [hd]
        · simp only [Does]
          simp only [execOp, resolve, Option.map_some, Option.map_none, List.map_toArray, List.map_cons, List.map_nil, rho_const, rho_func]
          (repeat (conv in rho _ _ _ _ (Operand.tmp _) => whnf))
          (try simp only [hd])
          go_simp
          (repeat (conv in rho _ _ _ _ (Operand.tmp _) => whnf))
          exact ⟨Grows.refl _, by have h := (v5.out.grows hg).head 128 (by decide); rw [World.size_alloc] at h; exact h⟩) ?_
      refine free_guarded (fun v_ _ => v_ = .bool true) (val_mono _) (fun vs wq hg hd => by
        simp [Region.binds] at hd
        refine ⟨?_, ?_⟩
        · simp [Region.wanted, yieldR]
          (repeat (conv in rho _ _ _ _ (Operand.tmp _) => whnf))
          simp [hd]
        · simp only [Does]
          simp only [execOp, resolve, Option.map_some, Option.map_none, List.map_toArray, List.map_cons, List.map_nil, rho_const, rho_func]
          (repeat (conv in rho _ _ _ _ (Operand.tmp _) => whnf))
          (try simp only [hd])
          go_simp
          (repeat (conv in rho _ _ _ _ (Operand.tmp _) => whnf))
          exact same1 _ hd.1 hd.2.1) ?_
      repeat (apply free_pure rfl; focus (intro vs w hg hd;  (try simp [Region.binds] at hd); simp only [execOp, resolve, Option.map_some, Option.map_none, List.map_toArray, List.map_cons, List.map_nil, rho_const, rho_func]; (repeat (conv in rho _ _ _ _ (Operand.tmp _) => whnf)); (try simp only [hd]); go_simp; (repeat (conv in rho _ _ _ _ (Operand.tmp _) => whnf)); (try simp only [hd]); rfl))
      refine free_guarded (fun v_ _ => v_ = .int .i64 128) (val_mono _) (fun vs wq hg hd => by
        simp [Region.binds] at hd
        refine ⟨?_, ?_⟩
        · simp [Region.wanted, yieldR]
          (repeat (conv in rho _ _ _ _ (Operand.tmp _) => whnf))
          simp [hd]
        · simp only [Does]
          simp only [execOp, resolve, Option.map_some, Option.map_none, List.map_toArray, List.map_cons, List.map_nil, rho_const, rho_func]
          (repeat (conv in rho _ _ _ _ (Operand.tmp _) => whnf))
          (try simp only [hd])
          go_simp
          (repeat (conv in rho _ _ _ _ (Operand.tmp _) => whnf))
          exact Grows.refl _) ?_
      refine free_guarded (fun v_ w_ => Bytes w_.heap.size w_ v_ (old.drop 128)) (bytes_mono _) (fun vs wq hg hd => by
        simp [Region.binds] at hd
        refine ⟨?_, ?_⟩
        · simp [Region.wanted, yieldR]
          (repeat (conv in rho _ _ _ _ (Operand.tmp _) => whnf))
          simp [hd]
        · simp only [Does]
          simp only [execOp, resolve, Option.map_some, Option.map_none, List.map_toArray, List.map_cons, List.map_nil, rho_const, rho_func]
          (repeat (conv in rho _ _ _ _ (Operand.tmp _) => whnf))
          (try simp only [hd])
          go_simp
          (repeat (conv in rho _ _ _ _ (Operand.tmp _) => whnf))
          exact ⟨Grows.refl _, by have h := (v9.out.grows hg).tail 128 128 (by decide) rfl; rw [HHD.out] at h; exact h⟩) ?_
      refine free_guarded (fun v_ _ => v_ = .int .i64 128) (val_mono _) (fun vs wq hg hd => by
        simp [Region.binds] at hd
        refine ⟨?_, ?_⟩
        · simp [Region.wanted, yieldR]
          (repeat (conv in rho _ _ _ _ (Operand.tmp _) => whnf))
          simp [hd]
        · simp only [Does]
          simp only [execOp, resolve, Option.map_some, Option.map_none, List.map_toArray, List.map_cons, List.map_nil, rho_const, rho_func]
          (repeat (conv in rho _ _ _ _ (Operand.tmp _) => whnf))
          (try simp only [hd])
          go_simp
          (repeat (conv in rho _ _ _ _ (Operand.tmp _) => whnf))
          exact Grows.refl _) ?_
      refine free_guarded (fun v_ w_ => Bytes w_.heap.size w_ v_ (old.drop 128)) (bytes_mono _) (fun vs wq hg hd => by
        simp [Region.binds] at hd
        refine ⟨?_, ?_⟩
        · simp [Region.wanted, yieldR]
          (repeat (conv in rho _ _ _ _ (Operand.tmp _) => whnf))
          simp [hd]
        · simp only [Does]
          simp only [execOp, resolve, Option.map_some, Option.map_none, List.map_toArray, List.map_cons, List.map_nil, rho_const, rho_func]
          (repeat (conv in rho _ _ _ _ (Operand.tmp _) => whnf))
          (try simp only [hd])
          go_simp
          (repeat (conv in rho _ _ _ _ (Operand.tmp _) => whnf))
          exact ⟨Grows.refl _, (v4.out.grows hg).tail 128 128 (by decide) rfl⟩) ?_
      refine free_guarded (fun v_ _ => v_ = .bool true) (val_mono _) (fun vs wq hg hd => by
        simp [Region.binds] at hd
        refine ⟨?_, ?_⟩
        · simp [Region.wanted, yieldR]
          (repeat (conv in rho _ _ _ _ (Operand.tmp _) => whnf))
          simp [hd]
        · simp only [Does]
          simp only [execOp, resolve, Option.map_some, Option.map_none, List.map_toArray, List.map_cons, List.map_nil, rho_const, rho_func]
          (repeat (conv in rho _ _ _ _ (Operand.tmp _) => whnf))
          (try simp only [hd])
          go_simp
          (repeat (conv in rho _ _ _ _ (Operand.tmp _) => whnf))
          exact same1 _ hd.1 hd.2.1) ?_
      repeat (apply free_pure rfl; focus (intro vs w hg hd;  (try simp [Region.binds] at hd); simp only [execOp, resolve, Option.map_some, Option.map_none, List.map_toArray, List.map_cons, List.map_nil, rho_const, rho_func]; (repeat (conv in rho _ _ _ _ (Operand.tmp _) => whnf)); (try simp only [hd]); go_simp; (repeat (conv in rho _ _ _ _ (Operand.tmp _) => whnf)); (try simp only [hd]); rfl))
      refine free_guarded (fun v_ _ => v_ = .agg (pageA old)) (val_mono _) (fun vs wq hg hd => by
        simp [Region.binds] at hd
        refine ⟨?_, ?_⟩
        · simp [Region.wanted, yieldR]
          (repeat (conv in rho _ _ _ _ (Operand.tmp _) => whnf))
          simp [hd]
        · exact does_load 25 (.tmp 4) ⟨w.heap.size, 0, none⟩ _ rfl (by first | rfl | (conv => lhs; whnf)) (run_load_page (v4.out.grows hg)) ⟨Grows.refl _, rfl⟩) ?_
      refine free_guarded (fun v_ _ => v_ = .agg (pageA old)) (val_mono _) (fun vs wq hg hd => by
        simp [Region.binds] at hd
        refine ⟨?_, ?_⟩
        · simp [Region.wanted, yieldR]
          (repeat (conv in rho _ _ _ _ (Operand.tmp _) => whnf))
          simp [hd]
        · exact does_load 25 (.tmp 4) ⟨w.heap.size, 0, none⟩ _ rfl (by first | rfl | (conv => lhs; whnf)) (run_load_page (v4.out.grows hg)) ⟨Grows.refl _, rfl⟩) ?_
      refine free_guarded (fun v_ _ => v_ = .agg (pageA old)) (val_mono _) (fun vs wq hg hd => by
        simp [Region.binds] at hd
        refine ⟨?_, ?_⟩
        · simp [Region.wanted, yieldR]
          (repeat (conv in rho _ _ _ _ (Operand.tmp _) => whnf))
          simp [hd]
        · simp only [Does]
          simp only [execOp, resolve, Option.map_some, Option.map_none, List.map_toArray, List.map_cons, List.map_nil, rho_const, rho_func]
          (repeat (conv in rho _ _ _ _ (Operand.tmp _) => whnf))
          (try simp only [hd])
          go_simp
          (repeat (conv in rho _ _ _ _ (Operand.tmp _) => whnf))
          exact HH2.out _) ?_
      refine free_guarded (fun v_ _ => v_ = .agg (pageA old)) (val_mono _) (fun vs wq hg hd => by
        simp [Region.binds] at hd
        refine ⟨?_, ?_⟩
        · simp [Region.wanted, yieldR]
          (repeat (conv in rho _ _ _ _ (Operand.tmp _) => whnf))
          simp [hd]
        · exact does_load 25 (.tmp 4) ⟨w.heap.size, 0, none⟩ _ rfl (by first | rfl | (conv => lhs; whnf)) (run_load_page (v4.out.grows hg)) ⟨Grows.refl _, rfl⟩) ?_
      refine free_guarded (fun v_ _ => v_ = .bool true) (val_mono _) (fun vs wq hg hd => by
        simp [Region.binds] at hd
        refine ⟨?_, ?_⟩
        · simp [Region.wanted, yieldR]
          (repeat (conv in rho _ _ _ _ (Operand.tmp _) => whnf))
          simp [hd]
        · simp only [Does]
          simp only [execOp, resolve, Option.map_some, Option.map_none, List.map_toArray, List.map_cons, List.map_nil, rho_const, rho_func]
          (repeat (conv in rho _ _ _ _ (Operand.tmp _) => whnf))
          (try simp only [hd])
          have heq := page_equalIn old HO.out wq
          go_simp
          (repeat (conv in rho _ _ _ _ (Operand.tmp _) => whnf))
          exact Grows.refl _) ?_
      repeat (apply free_pure rfl; focus (intro vs w hg hd;  (try simp [Region.binds] at hd); simp only [execOp, resolve, Option.map_some, Option.map_none, List.map_toArray, List.map_cons, List.map_nil, rho_const, rho_func]; (repeat (conv in rho _ _ _ _ (Operand.tmp _) => whnf)); (try simp only [hd]); go_simp; (repeat (conv in rho _ _ _ _ (Operand.tmp _) => whnf)); (try simp only [hd]); rfl))
      refine free_guarded (fun v_ _ => v_ = .agg (pageA H)) (val_mono _) (fun vs wq hg hd => by
        simp [Region.binds] at hd
        refine ⟨?_, ?_⟩
        · simp [Region.wanted, yieldR]
          (repeat (conv in rho _ _ _ _ (Operand.tmp _) => whnf))
          simp [hd]
        · exact does_load 25 (.tmp 9) ⟨w6.heap.size, 0, none⟩ _ rfl (by first | rfl | (conv => lhs; whnf)) (run_load_page (v9.out.grows hg)) ⟨Grows.refl _, rfl⟩) ?_
      refine free_guarded (fun v_ _ => v_ = .agg (pageA now)) (val_mono _) (fun vs wq hg hd => by
        simp [Region.binds] at hd
        refine ⟨?_, ?_⟩
        · simp [Region.wanted, yieldR]
          (repeat (conv in rho _ _ _ _ (Operand.tmp _) => whnf))
          simp [hd]
        · exact does_load 25 (.tmp 5) ⟨w.heap.size + 1, 0, none⟩ _ rfl (by first | rfl | (conv => lhs; whnf)) (run_load_page (by have h := v5.out.grows hg; rw [World.size_alloc] at h; exact h)) ⟨Grows.refl _, rfl⟩) ?_
      refine free_guarded (fun v_ _ => v_ = .agg (pageA H)) (val_mono _) (fun vs wq hg hd => by
        simp [Region.binds] at hd
        refine ⟨?_, ?_⟩
        · simp [Region.wanted, yieldR]
          (repeat (conv in rho _ _ _ _ (Operand.tmp _) => whnf))
          simp [hd]
        · simp only [Does]
          simp only [execOp, resolve, Option.map_some, Option.map_none, List.map_toArray, List.map_cons, List.map_nil, rho_const, rho_func]
          (repeat (conv in rho _ _ _ _ (Operand.tmp _) => whnf))
          (try simp only [hd])
          go_simp
          (repeat (conv in rho _ _ _ _ (Operand.tmp _) => whnf))
          exact HH3.out _) ?_
      refine free_guarded (fun v_ _ => v_ = .agg (pageA H)) (val_mono _) (fun vs wq hg hd => by
        simp [Region.binds] at hd
        refine ⟨?_, ?_⟩
        · simp [Region.wanted, yieldR]
          (repeat (conv in rho _ _ _ _ (Operand.tmp _) => whnf))
          simp [hd]
        · exact does_load 25 (.tmp 9) ⟨w6.heap.size, 0, none⟩ _ rfl (by first | rfl | (conv => lhs; whnf)) (run_load_page (v9.out.grows hg)) ⟨Grows.refl _, rfl⟩) ?_
      refine free_guarded (fun v_ _ => v_ = .bool true) (val_mono _) (fun vs wq hg hd => by
        simp [Region.binds] at hd
        refine ⟨?_, ?_⟩
        · simp [Region.wanted, yieldR]
          (repeat (conv in rho _ _ _ _ (Operand.tmp _) => whnf))
          simp [hd]
        · simp only [Does]
          simp only [execOp, resolve, Option.map_some, Option.map_none, List.map_toArray, List.map_cons, List.map_nil, rho_const, rho_func]
          (repeat (conv in rho _ _ _ _ (Operand.tmp _) => whnf))
          (try simp only [hd])
          have heq := page_equalIn H HHL.out wq
          go_simp
          (repeat (conv in rho _ _ _ _ (Operand.tmp _) => whnf))
          exact Grows.refl _) ?_
      repeat (apply free_pure rfl; focus (intro vs w hg hd;  (try simp [Region.binds] at hd); simp only [execOp, resolve, Option.map_some, Option.map_none, List.map_toArray, List.map_cons, List.map_nil, rho_const, rho_func]; (repeat (conv in rho _ _ _ _ (Operand.tmp _) => whnf)); (try simp only [hd]); go_simp; (repeat (conv in rho _ _ _ _ (Operand.tmp _) => whnf)); (try simp only [hd]); rfl))
      refine free_guarded (fun v_ _ => v_ = .bool true) (val_mono _) (fun vs wq hg hd => by
        simp [Region.binds] at hd
        refine ⟨?_, ?_⟩
        · simp [Region.wanted, yieldR]
          (repeat (conv in rho _ _ _ _ (Operand.tmp _) => whnf))
          simp [hd]
        · simp only [Does]
          simp only [execOp, resolve, Option.map_some, Option.map_none, List.map_toArray, List.map_cons, List.map_nil, rho_const, rho_func]
          (repeat (conv in rho _ _ _ _ (Operand.tmp _) => whnf))
          (try simp only [hd])
          go_simp
          (repeat (conv in rho _ _ _ _ (Operand.tmp _) => whnf))
          exact wakes_any _) ?_
      repeat (apply free_pure rfl; focus (intro vs w hg hd;  (try simp [Region.binds] at hd); simp only [execOp, resolve, Option.map_some, Option.map_none, List.map_toArray, List.map_cons, List.map_nil, rho_const, rho_func]; (repeat (conv in rho _ _ _ _ (Operand.tmp _) => whnf)); (try simp only [hd]); go_simp; (repeat (conv in rho _ _ _ _ (Operand.tmp _) => whnf)); (try simp only [hd]); rfl))
      intro vs w' hg hv; have h46 := hv 46 (by omega); simp at h46; simp only [putL, dstAt, List.range, List.range.loop, if_true, List.getElem?_toArray, List.getElem?_cons_zero, List.getElem?_cons_succ, Option.bind_some, Act.put, List.setIfInBounds_toArray, List.set_cons_zero, List.set_cons_succ]
      rw [h46]
      have hgF := Lib.hid (HB8.out.trans (Below.mono (Grows.of_drew hg) HB8.out.size))
      clear hv h46
      generalize vs 0 = z0, vs 1 = z1, vs 2 = z2, vs 3 = z3, vs 4 = z4, vs 5 = z5, vs 6 = z6, vs 7 = z7, vs 8 = z8, vs 9 = z9, vs 10 = z10, vs 11 = z11, vs 12 = z12, vs 13 = z13, vs 14 = z14, vs 15 = z15, vs 16 = z16, vs 17 = z17, vs 18 = z18, vs 19 = z19, vs 20 = z20, vs 21 = z21, vs 22 = z22, vs 23 = z23, vs 24 = z24, vs 25 = z25, vs 26 = z26, vs 27 = z27, vs 28 = z28, vs 29 = z29, vs 30 = z30, vs 31 = z31, vs 32 = z32, vs 33 = z33, vs 34 = z34, vs 35 = z35, vs 36 = z36, vs 37 = z37, vs 38 = z38, vs 39 = z39, vs 40 = z40, vs 41 = z41, vs 42 = z42, vs 43 = z43, vs 44 = z44, vs 45 = z45 at *
      go_wp2
      go_ret
      exact ⟨rfl, hgF.out⟩
end Go.Proofs.Ytohidggifcnjgaa
