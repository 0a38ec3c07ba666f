/- The law that tells all of layer 2, as a call. -/
import Derived.Test.YtohidggifcnjgaaPackRef2
namespace Go.Proofs.Ytohidggifcnjgaa
open Go.RowKit
set_option linter.unusedVariables false
set_option linter.unusedSimpArgs false
attribute [local go_sem high] sliced_cut
attribute [local go_sem] cutA_zero Nat.sub_zero uI_beq uI_bne
def YieldsB (w : World) (l : List (BitVec 8)) (e : Ending) (w' : World) : Prop := ∃ r, e = .returned r ∧ Grows w w' ∧ Bytes w'.heap.size w' r l
theorem yieldsB {w : World} {l : List (BitVec 8)} {e : Ending} {w' : World} (h : ∃ r, e = .returned r ∧ Mine w.heap.size w' r l ∧ Grows w w') : ∃ r, e = .returned r ∧ Grows w w' ∧ Bytes w'.heap.size w' r l := by
  obtain ⟨r, h1, h2, h3⟩ := h
  exact ⟨r, h1, h3, h2.bytes⟩
set_option maxHeartbeats 8000000 in
set_option maxRecDepth 100000 in
theorem packTells_any (v : Value) (b : List (BitVec 8)) (u : Value) (s : List (BitVec 8)) (n : BitVec 64) (width most : Int) (old now : List (BitVec 8)) (w : World) (hb : Bytes w.heap.size w v b) (hs : Bytes w.heap.size w u s)
    (t1 : -9223372036854775808 ≤ width) (t2 : width ≤ 9223372036854775807) (m1 : -9223372036854775808 ≤ most) (m2 : most ≤ 9223372036854775807) (ho : old.length = 256) (hn : now.length = 256) :
    Calls Try.prog 3 #[v, u, .int .u64 (uI n), .int .i64 width, .int .i64 most, .agg (old.map byteV).toArray, .agg (now.map byteV).toArray] w fun e w' => e = .returned (.bool true) ∧ Below w.heap.size w w' := by
  show Calls Try.prog 3 #[v, u, .int .u64 (uI n), .int .i64 width, .int .i64 most, .agg (pageA old), .agg (pageA now)] w _
  have HB := Lib.hid hb
  obtain ⟨A, cap, rfl, q1, q2, _⟩ := hb
  have HS := Lib.hid hs
  obtain ⟨A', cap', rfl, p1, p2, _⟩ := hs
  simp only [List.length_map] at q1 HB p1 HS ⊢
  unfold maxLen at q2 p2
  have hz := fun w => zero_page w
  have R12 := Lib.hid ((PRow.new w ho).alloc (.cells (pageA now) 25))
  have R13 : Hid (PRow ((w.alloc (.cells (pageA old) 25)).alloc (.cells (pageA now) 25)) (w.heap.size + 1) now) := by
    have := PRow.new (w.alloc (.cells (pageA old) 25)) hn
    rwa [World.size_alloc] at this
  have G0 := Lib.hid ((Grows.alloc w (.cells (pageA old) 25)).trans (Grows.alloc _ (.cells (pageA now) 25)))
  have HO := Lib.hid ho; have HN := Lib.hid hn
  clear ho hn
  by_cases hG : 600 < b.length ∨ 600 < s.length
  · by_cases g1 : 600 < b.length
    · have g1' : (600 : Int) < b.length := by omega
      clear hG
      go_enter Try.func3, Try.ntmps3
      go_wp2_with (go_at_call 8; refine (wakes_any _).mono ?_; rintro e w2 ⟨rfl, hb2⟩)
      go_ret
      exact ⟨rfl, G0.out.trans hb2⟩
    · have g1' : (b.length : Int) ≤ 600 := by omega
      have g2 : 600 < s.length := by omega
      have g2' : (600 : Int) < s.length := by omega
      clear hG
      go_enter Try.func3, Try.ntmps3
      go_wp2_with (go_at_call 8; refine (wakes_any _).mono ?_; rintro e w2 ⟨rfl, hb2⟩)
      go_ret
      exact ⟨rfl, G0.out.trans hb2⟩
  · have g1 : b.length ≤ 600 := by omega
    have g2 : s.length ≤ 600 := by omega
    have g1' : (b.length : Int) ≤ 600 := by omega
    have g2' : (s.length : Int) ≤ 600 := by omega
    clear hG
    have C1 := Lib.hid (fun W (h : Bytes (World.heap W).size W (.slice A b.length cap) b) => take_any (.slice A b.length cap) b width W h (by omega) t1 t2)
    have C2 := Lib.hid (fun W (h : Bytes (World.heap W).size W (.slice A b.length cap) b) => rtake_any (.slice A b.length cap) b width W h (by omega) t1 t2)
    have C3 := Lib.hid (fun W (h : Bytes (World.heap W).size W (.slice A b.length cap) b) => takeBytes_any (.slice A b.length cap) b most W h (by omega) m1 m2)
    have C4 := Lib.hid (fun W (h : Bytes (World.heap W).size W (.slice A b.length cap) b) => rtakeBytes_any (.slice A b.length cap) b most W h (by omega) m1 m2)
    have C5 := Lib.hid (fun W (h : Bytes (World.heap W).size W (.slice A b.length cap) b) => fill_any (.slice A b.length cap) b W h (by omega))
    have C6 := Lib.hid (fun W (h : Bytes (World.heap W).size W (.slice A b.length cap) b) => rfill_any (.slice A b.length cap) b W h (by omega))
    have C7 := Lib.hid (fun W (h : Bytes (World.heap W).size W (.slice A b.length cap) b) => put_any (.slice A b.length cap) b n width W h (by omega) t1 t2)
    have C8 := Lib.hid (fun W (h : Bytes (World.heap W).size W (.slice A b.length cap) b) => rput_any (.slice A b.length cap) b n width W h (by omega) t1 t2)
    have C9 := Lib.hid (fun W (h : Bytes (World.heap W).size W (.slice A b.length cap) b) (h' : Bytes (World.heap W).size W (.slice A' s.length cap') s) => putBytes_any (.slice A b.length cap) (.slice A' s.length cap') b s W h h' (by omega))
    have C10 := Lib.hid (fun W (h : Bytes (World.heap W).size W (.slice A b.length cap) b) (h' : Bytes (World.heap W).size W (.slice A' s.length cap') s) => rputBytes_any (.slice A b.length cap) (.slice A' s.length cap') b s W h h' (by omega))
    have C11 := Lib.hid (fun W (h : Bytes (World.heap W).size W (.slice A b.length cap) b) => clean_any (.slice A b.length cap) b W h (by omega))
    have C12 := Lib.hid (fun W (h : Bytes (World.heap W).size W (.slice A b.length cap) b) => rclean_any (.slice A b.length cap) b W h (by omega))
    have C13 := Lib.hid (fun W => halves_any old now HO.out HN.out W)
    have C14 := Lib.hid (fun W => rhalves_any old now HO.out HN.out W)
    have FL := Lib.hid (PackM.fill_length b)
    have HL := Lib.hid (PackM.halves_length old now HO.out HN.out)
    have HEQ : Hid (∀ l : List (BitVec 8), (l == l) = true) := fun l => by simp
    generalize PackM.fill b = F at *
    generalize PackM.halves old now = H at *
    generalize PackM.fillE b = fe at *
    generalize PackM.takeN b width = tn at *
    generalize PackM.takeR b width = tr at *
    generalize PackM.takeE b width = te at *
    generalize PackM.tbS b most = bs at *
    generalize PackM.tbR b most = br at *
    generalize PackM.tbE b most = be at *
    generalize PackM.put b n width = pb at *
    generalize PackM.putBytes b s = pbs at *
    generalize PackM.clean b = cl at *
    go_enter Try.func3, Try.ntmps3
    go_wp2_with (first
      | (go_at_call 9; (with_reducible refine (C1.out _ ?_).mono ?_); exact Bytes.more (Sl.below HB.out G0.out) G0.out.size; rintro e w1 ⟨r, rfl, mm, gg⟩; obtain ⟨A1, c1, rfl, _, _⟩ := mm.form; have G1 := Lib.hid (G0.out.trans gg); have B1 := Lib.hid mm.bytes; have X1 := Lib.hid (R12.out.grows gg); have Y1 := Lib.hid (R13.out.grows gg); clear mm gg)
      | (go_at_call 10; (with_reducible refine (C2.out _ ?_).mono ?_); exact Bytes.more (Sl.below HB.out G1.out) G1.out.size; rintro e w2 ⟨r, rfl, mm, gg⟩; have B2 := Lib.hid mm; obtain ⟨A2, c2, rfl, _⟩ := mm; have G2 := Lib.hid (G1.out.trans gg); have B1' := Lib.hid (bytes_mono _ _ _ _ B1.out gg); have X2 := Lib.hid (X1.out.grows gg); have Y2 := Lib.hid (Y1.out.grows gg); clear gg)
      | (go_at_call 11; (with_reducible refine (C3.out _ ?_).mono ?_); exact Bytes.more (Sl.below HB.out G2.out) G2.out.size; rintro e w3 ⟨r, r', rfl, mm, mm', gg⟩; obtain ⟨A3, c3, rfl, _, _⟩ := mm.form; obtain ⟨A4, c4, rfl, _, _⟩ := mm'.form; have G3 := Lib.hid (G2.out.trans gg); have B3 := Lib.hid mm.bytes; have B4 := Lib.hid mm'.bytes; have B1'' := Lib.hid (bytes_mono _ _ _ _ B1'.out gg); have B2'' := Lib.hid (bytes_mono _ _ _ _ B2.out gg); have X3 := Lib.hid (X2.out.grows gg); have Y3 := Lib.hid (Y2.out.grows gg); clear mm mm' gg)
      | (go_at_call 12; (with_reducible refine (C4.out _ ?_).mono ?_); exact Bytes.more (Sl.below HB.out G3.out) G3.out.size; rintro e w4 ⟨r, r', rfl, mm, mm', gg⟩; have B5 := Lib.hid mm; have B6 := Lib.hid mm'; obtain ⟨A5, c5, rfl, _⟩ := mm; obtain ⟨A6, c6, rfl, _⟩ := mm'; have G4 := Lib.hid (G3.out.trans gg); have D1 := Lib.hid (bytes_mono _ _ _ _ B1''.out gg); have D2 := Lib.hid (bytes_mono _ _ _ _ B2''.out gg); have D3 := Lib.hid (bytes_mono _ _ _ _ B3.out gg); have D4 := Lib.hid (bytes_mono _ _ _ _ B4.out gg); have X4 := Lib.hid (X3.out.grows gg); have Y4 := Lib.hid (Y3.out.grows gg); clear gg)
      | (go_at_call 13; (with_reducible refine (same_any (.slice A1 _ _) (.slice A2 _ _) tr tr _ ?_ ?_).mono ?_); exact D1.out; (have h := D2.out; rw [List.length_map] at h; exact h); rw [HEQ.out tr]; rintro e w7 ⟨rfl, rfl⟩)
      | (go_at_call 13; (with_reducible refine (same_any (.slice A3 _ _) (.slice A5 _ _) bs bs _ ?_ ?_).mono ?_); exact D3.out; (have h := B5.out; rw [List.length_map] at h; exact h); rw [HEQ.out bs]; rintro e w7 ⟨rfl, rfl⟩)
      | (go_at_call 13; (with_reducible refine (same_any (.slice A4 _ _) (.slice A6 _ _) br br _ ?_ ?_).mono ?_); exact D4.out; (have h := B6.out; rw [List.length_map] at h; exact h); rw [HEQ.out br]; rintro e w7 ⟨rfl, rfl⟩)
      | (go_at_call 14; (with_reducible refine (C5.out _ ?_).mono ?_); exact Bytes.more (Sl.below HB.out G4.out) G4.out.size; rintro e w5 ⟨rfl, gg⟩; have G5 := Lib.hid (G4.out.trans gg); have X5 := Lib.hid (X4.out.grows gg); have Y5 := Lib.hid (Y4.out.grows gg); clear gg)
      | ((with_reducible refine wpList_store_page ?_ (.tmp 27) (.tmp 102) ?_ w5.heap.size F noughts ?_ ?_ ?_ ?_ ?_); exact rfl; exact rfl; exact rfl; exact rfl; exact FL.out; exact PRow.new w5 noughts_length; intro w6 hp6 hg6; have G6 := Lib.hid ((G5.out.trans (Grows.alloc _ _)).grown hg6 (by have := G5.out.size; simp; omega) (fun k e => by cases e; exact G5.out.size)); have X6 := Lib.hid ((X5.out.alloc (.cells (pageA noughts) 25)).grown hg6 (by have := X5.out.lt; simp; omega)); have Y6 := Lib.hid ((Y5.out.alloc (.cells (pageA noughts) 25)).grown hg6 (by have := Y5.out.lt; simp; omega)); have Z6 := Lib.hid hp6; clear hp6 hg6)
      | (go_at_call 15; (with_reducible refine (C6.out _ ?_).mono ?_); exact Bytes.more (Sl.below HB.out G6.out) G6.out.size; rintro e w7 ⟨rfl, gg⟩; have G7 := Lib.hid (G6.out.trans (Below.mono gg G6.out.size)); have X7 := Lib.hid (X6.out.grows gg); have Y7 := Lib.hid (Y6.out.grows gg); have Z7 := Lib.hid (Z6.out.grows gg); clear gg)
      | ((with_reducible refine wpList_store_page ?_ (.tmp 29) (.tmp 107) ?_ w7.heap.size F noughts ?_ ?_ ?_ ?_ ?_); exact rfl; exact rfl; exact rfl; exact rfl; exact FL.out; exact PRow.new w7 noughts_length; intro w8 hp8 hg8; have G8 := Lib.hid ((G7.out.trans ((Below.refl _ _).alloc G7.out.size _)).grown hg8 (by have := G7.out.size; simp; omega) (fun k e => by cases e; exact G7.out.size)); have X8 := Lib.hid ((X7.out.alloc (.cells (pageA noughts) 25)).grown hg8 (by have := X7.out.lt; simp; omega)); have Y8 := Lib.hid ((Y7.out.alloc (.cells (pageA noughts) 25)).grown hg8 (by have := Y7.out.lt; simp; omega)); have Z8 := Lib.hid ((Z7.out.alloc (.cells (pageA noughts) 25)).grown hg8 (by have := Z7.out.lt; simp; omega)); have U8 := Lib.hid hp8; clear hp8 hg8))
    have v12 := Lib.hid X8.out.drew; have v13 := Lib.hid Y8.out.drew; have v27 := Lib.hid Z8.out.drew; have v29 := Lib.hid U8.out.drew
    have hhd := G8.out.size
    have hbw : Hid (Bytes w8.drew.heap.size w8.drew (.slice A b.length cap) b) := Bytes.more (Sl.below HB.out G8.out.drew) hhd
    have hsw : Hid (Bytes w8.drew.heap.size w8.drew (.slice A' s.length cap') s) := Bytes.more (Sl.below HS.out G8.out.drew) hhd
    refine wp_region_free 48 156 (by kernel_rfl) (by kernel_rfl) rfl (by kernel_rfl) ?_; simp only [List.take_succ_cons, List.take_zero, List.drop_succ_cons, List.drop_zero]
    refine free_op (fun v_ _ => v_ = .agg (pageA F)) rfl (val_mono _) (fun vs wq hg hd => does_load 25 (.tmp 27) ⟨w5.heap.size, 0, none⟩ _ rfl (by first | rfl | (conv => lhs; whnf)) (run_load_page (v27.out.grows hg)) ⟨Grows.refl _, rfl⟩) ?_
    refine free_op (fun v_ _ => v_ = .agg (pageA F)) rfl (val_mono _) (fun vs wq hg hd => does_load 25 (.tmp 29) ⟨w7.heap.size, 0, none⟩ _ rfl (by first | rfl | (conv => lhs; whnf)) (run_load_page (v29.out.grows hg)) ⟨Grows.refl _, rfl⟩) ?_
    refine free_op (fun v_ _ => v_ = .bool true) rfl (val_mono _) (fun vs wq hg hd => by
      have heq := page_equalIn F FL.out wq
      (try simp [Region.binds] at hd); simp only [Does]; simp only [execOp, resolve, Option.map_some, Option.map_none, List.map_toArray, List.map_cons, List.map_nil, rho_const, rho_func]; (repeat (conv in rho _ _ _ _ (Operand.tmp _) => whnf)); (try simp only [hd]); go_simp; (repeat (conv in rho _ _ _ _ (Operand.tmp _) => whnf))
      exact Grows.refl _) ?_
    repeat (apply free_pure rfl; focus (intro vs w hg hd;  (try simp [Region.binds] at hd); simp only [execOp, resolve, Option.map_some, Option.map_none, List.map_toArray, List.map_cons, List.map_nil, rho_const, rho_func]; (repeat (conv in rho _ _ _ _ (Operand.tmp _) => whnf)); (try simp only [hd]); go_simp; (repeat (conv in rho _ _ _ _ (Operand.tmp _) => whnf)); (try simp only [hd]); rfl))
    refine free_guarded (fun v_ _ => v_ = .int .i64 fe) (val_mono _) (fun vs wq hg hd => by
      simp [Region.binds] at hd
      refine ⟨?_, ?_⟩
      · simp [Region.wanted, yieldR]
        (repeat (conv in rho _ _ _ _ (Operand.tmp _) => whnf))
        simp [hd]
      · simp only [Does]
        simp only [execOp, resolve, Option.map_some, Option.map_none, List.map_toArray, List.map_cons, List.map_nil, rho_const, rho_func]
        (repeat (conv in rho _ _ _ _ (Operand.tmp _) => whnf))
        (try simp only [hd])
        go_simp
        (repeat (conv in rho _ _ _ _ (Operand.tmp _) => whnf))
        exact Grows.refl _) ?_
    refine free_guarded (fun v_ _ => v_ = .int .i64 fe) (val_mono _) (fun vs wq hg hd => by
      simp [Region.binds] at hd
      refine ⟨?_, ?_⟩
      · simp [Region.wanted, yieldR]
        (repeat (conv in rho _ _ _ _ (Operand.tmp _) => whnf))
        simp [hd]
      · simp only [Does]
        simp only [execOp, resolve, Option.map_some, Option.map_none, List.map_toArray, List.map_cons, List.map_nil, rho_const, rho_func]
        (repeat (conv in rho _ _ _ _ (Operand.tmp _) => whnf))
        (try simp only [hd])
        go_simp
        (repeat (conv in rho _ _ _ _ (Operand.tmp _) => whnf))
        exact Grows.refl _) ?_
    refine free_guarded (fun v_ _ => v_ = .bool true) (val_mono _) (fun vs wq hg hd => by
      simp [Region.binds] at hd
      refine ⟨?_, ?_⟩
      · simp [Region.wanted, yieldR]
        (repeat (conv in rho _ _ _ _ (Operand.tmp _) => whnf))
        simp [hd]
      · simp only [Does]
        simp only [execOp, resolve, Option.map_some, Option.map_none, List.map_toArray, List.map_cons, List.map_nil, rho_const, rho_func]
        (repeat (conv in rho _ _ _ _ (Operand.tmp _) => whnf))
        (try simp only [hd])
        go_simp
        (repeat (conv in rho _ _ _ _ (Operand.tmp _) => whnf))
        exact Grows.refl _) ?_
    repeat (apply free_pure rfl; focus (intro vs w hg hd;  (try simp [Region.binds] at hd); simp only [execOp, resolve, Option.map_some, Option.map_none, List.map_toArray, List.map_cons, List.map_nil, rho_const, rho_func]; (repeat (conv in rho _ _ _ _ (Operand.tmp _) => whnf)); (try simp only [hd]); go_simp; (repeat (conv in rho _ _ _ _ (Operand.tmp _) => whnf)); (try simp only [hd]); rfl))
    refine free_guarded (fun v_ _ => v_ = .slice A b.length cap) (val_mono _) (fun vs wq hg hd => by
      simp [Region.binds] at hd
      refine ⟨?_, ?_⟩
      · simp [Region.wanted, yieldR]
        (repeat (conv in rho _ _ _ _ (Operand.tmp _) => whnf))
        simp [hd]
      · simp only [Does]
        simp only [execOp, resolve, Option.map_some, Option.map_none, List.map_toArray, List.map_cons, List.map_nil, rho_const, rho_func]
        (repeat (conv in rho _ _ _ _ (Operand.tmp _) => whnf))
        (try simp only [hd])
        go_simp
        (repeat (conv in rho _ _ _ _ (Operand.tmp _) => whnf))
        exact Grows.refl _) ?_
    refine free_guarded (fun v_ _ => v_ = .int .u64 (uI n)) (val_mono _) (fun vs wq hg hd => by
      simp [Region.binds] at hd
      refine ⟨?_, ?_⟩
      · simp [Region.wanted, yieldR]
        (repeat (conv in rho _ _ _ _ (Operand.tmp _) => whnf))
        simp [hd]
      · simp only [Does]
        simp only [execOp, resolve, Option.map_some, Option.map_none, List.map_toArray, List.map_cons, List.map_nil, rho_const, rho_func]
        (repeat (conv in rho _ _ _ _ (Operand.tmp _) => whnf))
        (try simp only [hd])
        go_simp
        (repeat (conv in rho _ _ _ _ (Operand.tmp _) => whnf))
        exact Grows.refl _) ?_
    refine free_guarded (fun v_ _ => v_ = .int .i64 width) (val_mono _) (fun vs wq hg hd => by
      simp [Region.binds] at hd
      refine ⟨?_, ?_⟩
      · simp [Region.wanted, yieldR]
        (repeat (conv in rho _ _ _ _ (Operand.tmp _) => whnf))
        simp [hd]
      · simp only [Does]
        simp only [execOp, resolve, Option.map_some, Option.map_none, List.map_toArray, List.map_cons, List.map_nil, rho_const, rho_func]
        (repeat (conv in rho _ _ _ _ (Operand.tmp _) => whnf))
        (try simp only [hd])
        go_simp
        (repeat (conv in rho _ _ _ _ (Operand.tmp _) => whnf))
        exact Grows.refl _) ?_
    refine free_guarded (fun v_ w_ => Bytes w_.heap.size w_ v_ pb) (bytes_mono _) (fun vs wq hg hd => by
      simp [Region.binds] at hd
      refine ⟨?_, ?_⟩
      · simp [Region.wanted, yieldR]
        (repeat (conv in rho _ _ _ _ (Operand.tmp _) => whnf))
        simp [hd]
      · simp only [Does]
        simp only [execOp, resolve, Option.map_some, Option.map_none, List.map_toArray, List.map_cons, List.map_nil, rho_const, rho_func]
        (repeat (conv in rho _ _ _ _ (Operand.tmp _) => whnf))
        (try simp only [hd])
        go_simp
        (repeat (conv in rho _ _ _ _ (Operand.tmp _) => whnf))
        exact (C7.out _ (bytes_mono _ _ _ _ hbw.out hg)).mono fun e w' h => yieldsB h) ?_
    refine free_guarded (fun v_ _ => v_ = .slice A b.length cap) (val_mono _) (fun vs wq hg hd => by
      simp [Region.binds] at hd
      refine ⟨?_, ?_⟩
      · simp [Region.wanted, yieldR]
        (repeat (conv in rho _ _ _ _ (Operand.tmp _) => whnf))
        simp [hd]
      · simp only [Does]
        simp only [execOp, resolve, Option.map_some, Option.map_none, List.map_toArray, List.map_cons, List.map_nil, rho_const, rho_func]
        (repeat (conv in rho _ _ _ _ (Operand.tmp _) => whnf))
        (try simp only [hd])
        go_simp
        (repeat (conv in rho _ _ _ _ (Operand.tmp _) => whnf))
        exact Grows.refl _) ?_
    refine free_guarded (fun v_ _ => v_ = .int .u64 (uI n)) (val_mono _) (fun vs wq hg hd => by
      simp [Region.binds] at hd
      refine ⟨?_, ?_⟩
      · simp [Region.wanted, yieldR]
        (repeat (conv in rho _ _ _ _ (Operand.tmp _) => whnf))
        simp [hd]
      · simp only [Does]
        simp only [execOp, resolve, Option.map_some, Option.map_none, List.map_toArray, List.map_cons, List.map_nil, rho_const, rho_func]
        (repeat (conv in rho _ _ _ _ (Operand.tmp _) => whnf))
        (try simp only [hd])
        go_simp
        (repeat (conv in rho _ _ _ _ (Operand.tmp _) => whnf))
        exact Grows.refl _) ?_
    refine free_guarded (fun v_ _ => v_ = .int .i64 width) (val_mono _) (fun vs wq hg hd => by
      simp [Region.binds] at hd
      refine ⟨?_, ?_⟩
      · simp [Region.wanted, yieldR]
        (repeat (conv in rho _ _ _ _ (Operand.tmp _) => whnf))
        simp [hd]
      · simp only [Does]
        simp only [execOp, resolve, Option.map_some, Option.map_none, List.map_toArray, List.map_cons, List.map_nil, rho_const, rho_func]
        (repeat (conv in rho _ _ _ _ (Operand.tmp _) => whnf))
        (try simp only [hd])
        go_simp
        (repeat (conv in rho _ _ _ _ (Operand.tmp _) => whnf))
        exact Grows.refl _) ?_
    refine free_guarded (fun v_ w_ => Bytes w_.heap.size w_ v_ pb) (bytes_mono _) (fun vs wq hg hd => by
      simp [Region.binds] at hd
      refine ⟨?_, ?_⟩
      · simp [Region.wanted, yieldR]
        (repeat (conv in rho _ _ _ _ (Operand.tmp _) => whnf))
        simp [hd]
      · simp only [Does]
        simp only [execOp, resolve, Option.map_some, Option.map_none, List.map_toArray, List.map_cons, List.map_nil, rho_const, rho_func]
        (repeat (conv in rho _ _ _ _ (Operand.tmp _) => whnf))
        (try simp only [hd])
        go_simp
        (repeat (conv in rho _ _ _ _ (Operand.tmp _) => whnf))
        exact (C8.out _ (bytes_mono _ _ _ _ hbw.out hg)).mono fun e w' h => yieldsB h) ?_
    refine free_guarded (fun v_ _ => v_ = .bool true) (val_mono _) (fun vs wq hg hd => by
      simp [Region.binds] at hd
      refine ⟨?_, ?_⟩
      · simp [Region.wanted, yieldR]
        (repeat (conv in rho _ _ _ _ (Operand.tmp _) => whnf))
        simp [hd]
      · simp only [Does]
        simp only [execOp, resolve, Option.map_some, Option.map_none, List.map_toArray, List.map_cons, List.map_nil, rho_const, rho_func]
        (repeat (conv in rho _ _ _ _ (Operand.tmp _) => whnf))
        (try simp only [hd])
        go_simp
        (repeat (conv in rho _ _ _ _ (Operand.tmp _) => whnf))
        exact same1 _ hd.1 hd.2.1) ?_
    repeat (apply free_pure rfl; focus (intro vs w hg hd;  (try simp [Region.binds] at hd); simp only [execOp, resolve, Option.map_some, Option.map_none, List.map_toArray, List.map_cons, List.map_nil, rho_const, rho_func]; (repeat (conv in rho _ _ _ _ (Operand.tmp _) => whnf)); (try simp only [hd]); go_simp; (repeat (conv in rho _ _ _ _ (Operand.tmp _) => whnf)); (try simp only [hd]); rfl))
    refine free_guarded (fun v_ _ => v_ = .slice A b.length cap) (val_mono _) (fun vs wq hg hd => by
      simp [Region.binds] at hd
      refine ⟨?_, ?_⟩
      · simp [Region.wanted, yieldR]
        (repeat (conv in rho _ _ _ _ (Operand.tmp _) => whnf))
        simp [hd]
      · simp only [Does]
        simp only [execOp, resolve, Option.map_some, Option.map_none, List.map_toArray, List.map_cons, List.map_nil, rho_const, rho_func]
        (repeat (conv in rho _ _ _ _ (Operand.tmp _) => whnf))
        (try simp only [hd])
        go_simp
        (repeat (conv in rho _ _ _ _ (Operand.tmp _) => whnf))
        exact Grows.refl _) ?_
    refine free_guarded (fun v_ _ => v_ = .slice A' s.length cap') (val_mono _) (fun vs wq hg hd => by
      simp [Region.binds] at hd
      refine ⟨?_, ?_⟩
      · simp [Region.wanted, yieldR]
        (repeat (conv in rho _ _ _ _ (Operand.tmp _) => whnf))
        simp [hd]
      · simp only [Does]
        simp only [execOp, resolve, Option.map_some, Option.map_none, List.map_toArray, List.map_cons, List.map_nil, rho_const, rho_func]
        (repeat (conv in rho _ _ _ _ (Operand.tmp _) => whnf))
        (try simp only [hd])
        go_simp
        (repeat (conv in rho _ _ _ _ (Operand.tmp _) => whnf))
        exact Grows.refl _) ?_
    refine free_guarded (fun v_ w_ => Bytes w_.heap.size w_ v_ pbs) (bytes_mono _) (fun vs wq hg hd => by
      simp [Region.binds] at hd
      refine ⟨?_, ?_⟩
      · simp [Region.wanted, yieldR]
        (repeat (conv in rho _ _ _ _ (Operand.tmp _) => whnf))
        simp [hd]
      · simp only [Does]
        simp only [execOp, resolve, Option.map_some, Option.map_none, List.map_toArray, List.map_cons, List.map_nil, rho_const, rho_func]
        (repeat (conv in rho _ _ _ _ (Operand.tmp _) => whnf))
        (try simp only [hd])
        go_simp
        (repeat (conv in rho _ _ _ _ (Operand.tmp _) => whnf))
        exact (C9.out _ (bytes_mono _ _ _ _ hbw.out hg) (bytes_mono _ _ _ _ hsw.out hg)).mono fun e w' h => yieldsB h) ?_
    refine free_guarded (fun v_ _ => v_ = .slice A b.length cap) (val_mono _) (fun vs wq hg hd => by
      simp [Region.binds] at hd
      refine ⟨?_, ?_⟩
      · simp [Region.wanted, yieldR]
        (repeat (conv in rho _ _ _ _ (Operand.tmp _) => whnf))
        simp [hd]
      · simp only [Does]
        simp only [execOp, resolve, Option.map_some, Option.map_none, List.map_toArray, List.map_cons, List.map_nil, rho_const, rho_func]
        (repeat (conv in rho _ _ _ _ (Operand.tmp _) => whnf))
        (try simp only [hd])
        go_simp
        (repeat (conv in rho _ _ _ _ (Operand.tmp _) => whnf))
        exact Grows.refl _) ?_
    refine free_guarded (fun v_ _ => v_ = .slice A' s.length cap') (val_mono _) (fun vs wq hg hd => by
      simp [Region.binds] at hd
      refine ⟨?_, ?_⟩
      · simp [Region.wanted, yieldR]
        (repeat (conv in rho _ _ _ _ (Operand.tmp _) => whnf))
        simp [hd]
      · simp only [Does]
        simp only [execOp, resolve, Option.map_some, Option.map_none, List.map_toArray, List.map_cons, List.map_nil, rho_const, rho_func]
        (repeat (conv in rho _ _ _ _ (Operand.tmp _) => whnf))
        (try simp only [hd])
        go_simp
        (repeat (conv in rho _ _ _ _ (Operand.tmp _) => whnf))
        exact Grows.refl _) ?_
    refine free_guarded (fun v_ w_ => Bytes w_.heap.size w_ v_ pbs) (bytes_mono _) (fun vs wq hg hd => by
      simp [Region.binds] at hd
      refine ⟨?_, ?_⟩
      · simp [Region.wanted, yieldR]
        (repeat (conv in rho _ _ _ _ (Operand.tmp _) => whnf))
        simp [hd]
      · simp only [Does]
        simp only [execOp, resolve, Option.map_some, Option.map_none, List.map_toArray, List.map_cons, List.map_nil, rho_const, rho_func]
        (repeat (conv in rho _ _ _ _ (Operand.tmp _) => whnf))
        (try simp only [hd])
        go_simp
        (repeat (conv in rho _ _ _ _ (Operand.tmp _) => whnf))
        exact (C10.out _ (bytes_mono _ _ _ _ hbw.out hg) (bytes_mono _ _ _ _ hsw.out hg)).mono fun e w' h => yieldsB h) ?_
    refine free_guarded (fun v_ _ => v_ = .bool true) (val_mono _) (fun vs wq hg hd => by
      simp [Region.binds] at hd
      refine ⟨?_, ?_⟩
      · simp [Region.wanted, yieldR]
        (repeat (conv in rho _ _ _ _ (Operand.tmp _) => whnf))
        simp [hd]
      · simp only [Does]
        simp only [execOp, resolve, Option.map_some, Option.map_none, List.map_toArray, List.map_cons, List.map_nil, rho_const, rho_func]
        (repeat (conv in rho _ _ _ _ (Operand.tmp _) => whnf))
        (try simp only [hd])
        go_simp
        (repeat (conv in rho _ _ _ _ (Operand.tmp _) => whnf))
        exact same1 _ hd.1 hd.2.1) ?_
    repeat (apply free_pure rfl; focus (intro vs w hg hd;  (try simp [Region.binds] at hd); simp only [execOp, resolve, Option.map_some, Option.map_none, List.map_toArray, List.map_cons, List.map_nil, rho_const, rho_func]; (repeat (conv in rho _ _ _ _ (Operand.tmp _) => whnf)); (try simp only [hd]); go_simp; (repeat (conv in rho _ _ _ _ (Operand.tmp _) => whnf)); (try simp only [hd]); rfl))
    refine free_guarded (fun v_ _ => v_ = .slice A b.length cap) (val_mono _) (fun vs wq hg hd => by
      simp [Region.binds] at hd
      refine ⟨?_, ?_⟩
      · simp [Region.wanted, yieldR]
        (repeat (conv in rho _ _ _ _ (Operand.tmp _) => whnf))
        simp [hd]
      · simp only [Does]
        simp only [execOp, resolve, Option.map_some, Option.map_none, List.map_toArray, List.map_cons, List.map_nil, rho_const, rho_func]
        (repeat (conv in rho _ _ _ _ (Operand.tmp _) => whnf))
        (try simp only [hd])
        go_simp
        (repeat (conv in rho _ _ _ _ (Operand.tmp _) => whnf))
        exact Grows.refl _) ?_
    refine free_guarded (fun v_ _ => v_ = .bool cl) (val_mono _) (fun vs wq hg hd => by
      simp [Region.binds] at hd
      refine ⟨?_, ?_⟩
      · simp [Region.wanted, yieldR]
        (repeat (conv in rho _ _ _ _ (Operand.tmp _) => whnf))
        simp [hd]
      · simp only [Does]
        simp only [execOp, resolve, Option.map_some, Option.map_none, List.map_toArray, List.map_cons, List.map_nil, rho_const, rho_func]
        (repeat (conv in rho _ _ _ _ (Operand.tmp _) => whnf))
        (try simp only [hd])
        go_simp
        (repeat (conv in rho _ _ _ _ (Operand.tmp _) => whnf))
        exact (C11.out _ (bytes_mono _ _ _ _ hbw.out hg)).mono fun e w' h => ⟨h.1, h.2 ▸ Grows.refl _⟩) ?_
    refine free_guarded (fun v_ _ => v_ = .slice A b.length cap) (val_mono _) (fun vs wq hg hd => by
      simp [Region.binds] at hd
      refine ⟨?_, ?_⟩
      · simp [Region.wanted, yieldR]
        (repeat (conv in rho _ _ _ _ (Operand.tmp _) => whnf))
        simp [hd]
      · simp only [Does]
        simp only [execOp, resolve, Option.map_some, Option.map_none, List.map_toArray, List.map_cons, List.map_nil, rho_const, rho_func]
        (repeat (conv in rho _ _ _ _ (Operand.tmp _) => whnf))
        (try simp only [hd])
        go_simp
        (repeat (conv in rho _ _ _ _ (Operand.tmp _) => whnf))
        exact Grows.refl _) ?_
    refine free_guarded (fun v_ _ => v_ = .bool cl) (val_mono _) (fun vs wq hg hd => by
      simp [Region.binds] at hd
      refine ⟨?_, ?_⟩
      · simp [Region.wanted, yieldR]
        (repeat (conv in rho _ _ _ _ (Operand.tmp _) => whnf))
        simp [hd]
      · simp only [Does]
        simp only [execOp, resolve, Option.map_some, Option.map_none, List.map_toArray, List.map_cons, List.map_nil, rho_const, rho_func]
        (repeat (conv in rho _ _ _ _ (Operand.tmp _) => whnf))
        (try simp only [hd])
        go_simp
        (repeat (conv in rho _ _ _ _ (Operand.tmp _) => whnf))
        exact (C12.out _ (bytes_mono _ _ _ _ hbw.out hg)).mono fun e w' h => ⟨h.1, h.2 ▸ Grows.refl _⟩) ?_
    refine free_guarded (fun v_ _ => v_ = .bool true) (val_mono _) (fun vs wq hg hd => by
      simp [Region.binds] at hd
      refine ⟨?_, ?_⟩
      · simp [Region.wanted, yieldR]
        (repeat (conv in rho _ _ _ _ (Operand.tmp _) => whnf))
        simp [hd]
      · simp only [Does]
        simp only [execOp, resolve, Option.map_some, Option.map_none, List.map_toArray, List.map_cons, List.map_nil, rho_const, rho_func]
        (repeat (conv in rho _ _ _ _ (Operand.tmp _) => whnf))
        (try simp only [hd])
        go_simp
        (repeat (conv in rho _ _ _ _ (Operand.tmp _) => whnf))
        exact Grows.refl _) ?_
    repeat (apply free_pure rfl; focus (intro vs w hg hd;  (try simp [Region.binds] at hd); simp only [execOp, resolve, Option.map_some, Option.map_none, List.map_toArray, List.map_cons, List.map_nil, rho_const, rho_func]; (repeat (conv in rho _ _ _ _ (Operand.tmp _) => whnf)); (try simp only [hd]); go_simp; (repeat (conv in rho _ _ _ _ (Operand.tmp _) => whnf)); (try simp only [hd]); rfl))
    refine free_guarded (fun v_ _ => v_ = .agg (pageA old)) (val_mono _) (fun vs wq hg hd => by
      simp [Region.binds] at hd
      refine ⟨?_, ?_⟩
      · simp [Region.wanted, yieldR]
        (repeat (conv in rho _ _ _ _ (Operand.tmp _) => whnf))
        simp [hd]
      · exact does_load 25 (.tmp 12) ⟨w.heap.size, 0, none⟩ _ rfl (by first | rfl | (conv => lhs; whnf)) (run_load_page (v12.out.grows hg)) ⟨Grows.refl _, rfl⟩) ?_
    refine free_guarded (fun v_ _ => v_ = .agg (pageA now)) (val_mono _) (fun vs wq hg hd => by
      simp [Region.binds] at hd
      refine ⟨?_, ?_⟩
      · simp [Region.wanted, yieldR]
        (repeat (conv in rho _ _ _ _ (Operand.tmp _) => whnf))
        simp [hd]
      · exact does_load 25 (.tmp 13) ⟨w.heap.size + 1, 0, none⟩ _ rfl (by first | rfl | (conv => lhs; whnf)) (run_load_page (v13.out.grows hg)) ⟨Grows.refl _, rfl⟩) ?_
    refine free_guarded (fun v_ _ => v_ = .agg (pageA H)) (val_mono _) (fun vs wq hg hd => by
      simp [Region.binds] at hd
      refine ⟨?_, ?_⟩
      · simp [Region.wanted, yieldR]
        (repeat (conv in rho _ _ _ _ (Operand.tmp _) => whnf))
        simp [hd]
      · simp only [Does]
        simp only [execOp, resolve, Option.map_some, Option.map_none, List.map_toArray, List.map_cons, List.map_nil, rho_const, rho_func]
        (repeat (conv in rho _ _ _ _ (Operand.tmp _) => whnf))
        (try simp only [hd])
        go_simp
        (repeat (conv in rho _ _ _ _ (Operand.tmp _) => whnf))
        exact C13.out _) ?_
    refine free_guarded (fun v_ _ => v_ = .agg (pageA old)) (val_mono _) (fun vs wq hg hd => by
      simp [Region.binds] at hd
      refine ⟨?_, ?_⟩
      · simp [Region.wanted, yieldR]
        (repeat (conv in rho _ _ _ _ (Operand.tmp _) => whnf))
        simp [hd]
      · exact does_load 25 (.tmp 12) ⟨w.heap.size, 0, none⟩ _ rfl (by first | rfl | (conv => lhs; whnf)) (run_load_page (v12.out.grows hg)) ⟨Grows.refl _, rfl⟩) ?_
    refine free_guarded (fun v_ _ => v_ = .agg (pageA now)) (val_mono _) (fun vs wq hg hd => by
      simp [Region.binds] at hd
      refine ⟨?_, ?_⟩
      · simp [Region.wanted, yieldR]
        (repeat (conv in rho _ _ _ _ (Operand.tmp _) => whnf))
        simp [hd]
      · exact does_load 25 (.tmp 13) ⟨w.heap.size + 1, 0, none⟩ _ rfl (by first | rfl | (conv => lhs; whnf)) (run_load_page (v13.out.grows hg)) ⟨Grows.refl _, rfl⟩) ?_
    refine free_guarded (fun v_ _ => v_ = .agg (pageA H)) (val_mono _) (fun vs wq hg hd => by
      simp [Region.binds] at hd
      refine ⟨?_, ?_⟩
      · simp [Region.wanted, yieldR]
        (repeat (conv in rho _ _ _ _ (Operand.tmp _) => whnf))
        simp [hd]
      · simp only [Does]
        simp only [execOp, resolve, Option.map_some, Option.map_none, List.map_toArray, List.map_cons, List.map_nil, rho_const, rho_func]
        (repeat (conv in rho _ _ _ _ (Operand.tmp _) => whnf))
        (try simp only [hd])
        go_simp
        (repeat (conv in rho _ _ _ _ (Operand.tmp _) => whnf))
        exact C14.out _) ?_
    refine free_guarded (fun v_ _ => v_ = .bool true) (val_mono _) (fun vs wq hg hd => by
      simp [Region.binds] at hd
      refine ⟨?_, ?_⟩
      · simp [Region.wanted, yieldR]
        (repeat (conv in rho _ _ _ _ (Operand.tmp _) => whnf))
        simp [hd]
      · simp only [Does]
        simp only [execOp, resolve, Option.map_some, Option.map_none, List.map_toArray, List.map_cons, List.map_nil, rho_const, rho_func]
        (repeat (conv in rho _ _ _ _ (Operand.tmp _) => whnf))
        (try simp only [hd])
        have heq := page_equalIn H HL.out wq
        go_simp
        (repeat (conv in rho _ _ _ _ (Operand.tmp _) => whnf))
        exact Grows.refl _) ?_
    repeat (apply free_pure rfl; focus (intro vs w hg hd;  (try simp [Region.binds] at hd); simp only [execOp, resolve, Option.map_some, Option.map_none, List.map_toArray, List.map_cons, List.map_nil, rho_const, rho_func]; (repeat (conv in rho _ _ _ _ (Operand.tmp _) => whnf)); (try simp only [hd]); go_simp; (repeat (conv in rho _ _ _ _ (Operand.tmp _) => whnf)); (try simp only [hd]); rfl))
    refine free_guarded (fun v_ _ => v_ = .bool true) (val_mono _) (fun vs wq hg hd => by
      simp [Region.binds] at hd
      refine ⟨?_, ?_⟩
      · simp [Region.wanted, yieldR]
        (repeat (conv in rho _ _ _ _ (Operand.tmp _) => whnf))
        simp [hd]
      · simp only [Does]
        simp only [execOp, resolve, Option.map_some, Option.map_none, List.map_toArray, List.map_cons, List.map_nil, rho_const, rho_func]
        (repeat (conv in rho _ _ _ _ (Operand.tmp _) => whnf))
        (try simp only [hd])
        go_simp
        (repeat (conv in rho _ _ _ _ (Operand.tmp _) => whnf))
        exact wakes_any _) ?_
    repeat (apply free_pure rfl; focus (intro vs w hg hd;  (try simp [Region.binds] at hd); simp only [execOp, resolve, Option.map_some, Option.map_none, List.map_toArray, List.map_cons, List.map_nil, rho_const, rho_func]; (repeat (conv in rho _ _ _ _ (Operand.tmp _) => whnf)); (try simp only [hd]); go_simp; (repeat (conv in rho _ _ _ _ (Operand.tmp _) => whnf)); (try simp only [hd]); rfl))
    intro vs w' hg hv; have h47 := hv 47 (by omega); simp at h47; simp only [putL, dstAt, List.range, List.range.loop, if_true, List.getElem?_toArray, List.getElem?_cons_zero, List.getElem?_cons_succ, Option.bind_some, Act.put, List.setIfInBounds_toArray, List.set_cons_zero, List.set_cons_succ]
    rw [h47]
    have hgF := Lib.hid (G8.out.trans (Below.mono (Grows.of_drew hg) G8.out.size))
    clear hv h47
    generalize vs 0 = z0, vs 1 = z1, vs 2 = z2, vs 3 = z3, vs 4 = z4, vs 5 = z5, vs 6 = z6, vs 7 = z7, vs 8 = z8, vs 9 = z9, vs 10 = z10, vs 11 = z11, vs 12 = z12, vs 13 = z13, vs 14 = z14, vs 15 = z15, vs 16 = z16, vs 17 = z17, vs 18 = z18, vs 19 = z19, vs 20 = z20, vs 21 = z21, vs 22 = z22, vs 23 = z23, vs 24 = z24, vs 25 = z25, vs 26 = z26, vs 27 = z27, vs 28 = z28, vs 29 = z29, vs 30 = z30, vs 31 = z31, vs 32 = z32, vs 33 = z33, vs 34 = z34, vs 35 = z35, vs 36 = z36, vs 37 = z37, vs 38 = z38, vs 39 = z39, vs 40 = z40, vs 41 = z41, vs 42 = z42, vs 43 = z43, vs 44 = z44, vs 45 = z45, vs 46 = z46 at *
    go_wp2
    go_ret
    exact ⟨rfl, hgF.out⟩
end Go.Proofs.Ytohidggifcnjgaa
