/- The law on memory of one's own, as a call. -/
import Derived.Test.YtohidggifcnjgaaPackBackAny
namespace Go.Proofs.Ytohidggifcnjgaa
open Go.RowKit
set_option linter.unusedVariables false
set_option linter.unusedSimpArgs false
attribute [local go_sem high] sliced_cut
attribute [local go_sem] cutA_zero Nat.sub_zero str_beq str_beq_toList
theorem Mine.spot {B : Nat} {w : World} {A : Option Addr} {n c : Nat} {l : List (BitVec 8)} (h : Mine B w (.slice A n c) l) (hn : 0 < n) : ∃ g, A = some ⟨g, 0, none⟩ := by
  rcases h.2 with ⟨h', h0⟩ | ⟨g, cap, cur, h', _⟩
  · injection h' with _ h2 _; omega
  · injection h' with h1 _ _; exact ⟨g, h1⟩
/-- v is a row of one's own, of whatever bytes. -/
def Good (B : Nat) (w : World) (v : Value) : Prop := ∃ l, Mine B w v l
/-- What the loops keep: what lay ahead, the row, the list of the three. -/
structure Keeps (w0 : World) (B : Nat) (vr : Value) (R : List (BitVec 8)) (gl : Nat) (vx vy vc : Value) (w : World) : Prop where
  below : Below w0.heap.size w0 w
  row : Mine w0.heap.size w vr R
  lit : Row w gl 22 #[vx, vy, vc]
  x : Good w0.heap.size w vx
  y : Good w0.heap.size w vy
  c : Good w0.heap.size w vc
theorem Good.kept {B : Nat} {w w' : World} {v : Value} {g : Nat} (h : Good B w v) (hg : w.grownBy w' (some g)) (hne : v.ownBlock ≠ some g) : Good B w' v := by
  obtain ⟨l, hl⟩ := h
  exact ⟨l, World.ownsRow.kept hl hg (.inr hne)⟩
theorem Good.stored {B : Nat} {w : World} {g n cap : Nat} (h : Good B w (.slice (some ⟨g, 0, none⟩) n cap)) (j : Nat) (b : BitVec 8) :
    Good B (w.setCell ⟨g, j, none⟩ (.int .u8 (bI b))) (.slice (some ⟨g, 0, none⟩) n cap) := by
  obtain ⟨l, hl⟩ := h
  obtain rfl := hl.len
  have := (World.ownsRow.stored hl j (.int .u8 (bI b))).1
  refine ⟨l.set j b, ?_⟩
  unfold Mine
  rw [List.length_set, List.map_set]
  exact this
theorem Good.cell {B : Nat} {w : World} {g n cap : Nat} (h : Good B w (.slice (some ⟨g, 0, none⟩) n cap)) (j : Nat) (hj : j < n) : (∃ b : BitVec 8, w.cell? ⟨g, j, none⟩ = some (.int .u8 (bI b))) ∧ w.frozen? ⟨g, j, none⟩ = false := by
  obtain ⟨l, hl⟩ := h
  obtain rfl := hl.len
  refine ⟨⟨l[j], ?_⟩, World.ownsRow.frozenAt hl j⟩
  rw [World.ownsRow.cellAt hl j (by omega), List.getElem?_map, List.getElem?_eq_getElem hj]
  rfl
/-- The blocks of the three, of the row, and of the list, are apart. -/
structure Aparts (B : Nat) (vr : Value) (gl : Nat) (vx vy vc : Value) : Prop where
  xr : ∀ g, vx.ownBlock = some g → vr.ownBlock ≠ some g ∧ g ≠ gl ∧ B ≤ g ∧ vy.ownBlock ≠ some g ∧ vc.ownBlock ≠ some g
  yr : ∀ g, vy.ownBlock = some g → vr.ownBlock ≠ some g ∧ g ≠ gl ∧ B ≤ g ∧ vx.ownBlock ≠ some g ∧ vc.ownBlock ≠ some g
  cr : ∀ g, vc.ownBlock = some g → vr.ownBlock ≠ some g ∧ g ≠ gl ∧ B ≤ g ∧ vx.ownBlock ≠ some g ∧ vy.ownBlock ≠ some g
theorem Keeps.stored {w0 w : World} {B : Nat} {vr vx vy vc v : Value} {R : List (BitVec 8)} {gl g n cap : Nat} (h : Keeps w0 B vr R gl vx vy vc w) (ha : Aparts w0.heap.size vr gl vx vy vc)
    (hv : v = vx ∨ v = vy ∨ v = vc) (hs : v = .slice (some ⟨g, 0, none⟩) n cap) (j : Nat) (b : BitVec 8) : Keeps w0 B vr R gl vx vy vc (w.setCell ⟨g, j, none⟩ (.int .u8 (bI b))) := by
  have hg : w.grownBy (w.setCell ⟨g, j, none⟩ (.int .u8 (bI b))) (some g) := by
    refine ⟨rfl, rfl, rfl, by simp, fun k _ hk => Below.heap_setCell _ _ _ k (fun e => hk (by rw [e]))⟩
  have hown : v.ownBlock = some g := by rw [hs]; rfl
  have key : vr.ownBlock ≠ some g ∧ g ≠ gl ∧ w0.heap.size ≤ g := by
    rcases hv with rfl | rfl | rfl
    · exact ⟨(ha.xr g hown).1, (ha.xr g hown).2.1, (ha.xr g hown).2.2.1⟩
    · exact ⟨(ha.yr g hown).1, (ha.yr g hown).2.1, (ha.yr g hown).2.2.1⟩
    · exact ⟨(ha.cr g hown).1, (ha.cr g hown).2.1, (ha.cr g hown).2.2.1⟩
  obtain ⟨k1, k2, k3⟩ := key
  refine ⟨h.below.setCell (by exact k3) _, World.ownsRow.kept h.row hg (.inr k1), h.lit.far (fun e => k2 e.symm) _, ?_, ?_, ?_⟩
  · rcases hv with rfl | rfl | rfl
    · subst hs; exact Good.stored h.x j b
    · exact h.x.kept hg (ha.yr g hown).2.2.2.1
    · exact h.x.kept hg (ha.cr g hown).2.2.2.1
  · rcases hv with rfl | rfl | rfl
    · exact h.y.kept hg (ha.xr g hown).2.2.2.1
    · subst hs; exact Good.stored h.y j b
    · exact h.y.kept hg (ha.cr g hown).2.2.2.2
  · rcases hv with rfl | rfl | rfl
    · exact h.c.kept hg (ha.xr g hown).2.2.2.2
    · exact h.c.kept hg (ha.yr g hown).2.2.2.2
    · subst hs; exact Good.stored h.c j b
theorem Keeps.drew {w0 w : World} {B : Nat} {vr vx vy vc : Value} {R : List (BitVec 8)} {gl : Nat} (h : Keeps w0 B vr R gl vx vy vc w) : Keeps w0 B vr R gl vx vy vc w.drew := ⟨h.below.drew, h.row, h.lit, h.x, h.y, h.c⟩
set_option maxHeartbeats 4000000 in
set_option maxRecDepth 100000 in
theorem packOwn_any (v : Value) (b : List (BitVec 8)) (u : Value) (s : List (BitVec 8)) (w : World) (hb : Bytes w.heap.size w v b) (hs : Bytes w.heap.size w u s) :
    Calls Try.prog 7 #[v, u] w fun e w' => e = .returned (.bool true) ∧ Below w.heap.size w w' := by
  have HB := Lib.hid hb
  obtain ⟨A, cap, rfl, q1, q2, _⟩ := hb
  have HS := Lib.hid hs
  obtain ⟨A', cap', rfl, p1, p2, _⟩ := hs
  simp only [List.length_map] at q1 HB p1 HS ⊢
  unfold maxLen at q2 p2
  by_cases hG : 200 < b.length ∨ 200 < s.length
  · by_cases g1 : 200 < b.length
    · have g1' : (200 : Int) < b.length := by omega
      clear hG
      go_enter Try.func7, Try.ntmps7
      go_wp2_with (go_at_call 8; refine (wakes_any _).mono ?_; rintro e w2 ⟨rfl, hb2⟩)
      go_ret
      exact ⟨rfl, hb2⟩
    · have g1' : (b.length : Int) ≤ 200 := by omega
      have g2 : 200 < s.length := by omega
      have g2' : (200 : Int) < s.length := by omega
      clear hG
      go_enter Try.func7, Try.ntmps7
      go_wp2_with (go_at_call 8; refine (wakes_any _).mono ?_; rintro e w2 ⟨rfl, hb2⟩)
      go_ret
      exact ⟨rfl, hb2⟩
  · have g1 : b.length ≤ 200 := by omega
    have g2 : s.length ≤ 200 := by omega
    have g1' : (b.length : Int) ≤ 200 := by omega
    have g2' : (s.length : Int) ≤ 200 := by omega
    clear hG
    go_enter Try.func7, Try.ntmps7
    go_wp2_with fail
    refine wp_region_free 6 95 (by kernel_rfl) (by kernel_rfl) rfl (by kernel_rfl) ?_; simp only [List.take_succ_cons, List.take_zero, List.drop_succ_cons, List.drop_zero]
    repeat (apply free_pure rfl; focus (intro vs w hg hd;  (try simp [Region.binds] at hd); simp only [execOp, resolve, Option.map_some, Option.map_none, List.map_toArray, List.map_cons, List.map_nil, rho_const, rho_func]; (repeat (conv in rho _ _ _ _ (Operand.tmp _) => whnf)); (try simp only [hd]); go_simp; (repeat (conv in rho _ _ _ _ (Operand.tmp _) => whnf)); (try simp only [hd]); rfl))
    refine free_op (fun v_ _ => v_ = .string (str b)) rfl (val_mono _) (fun vs w hg hd => by
      have e1 := run_str (P := Try.prog) (Sl.below HB.out (Grows.of_drew hg)) 22 5 9 Try.underlying22 Try.underlying5 Try.underlying9
      (try simp [Region.binds] at hd); simp only [Does]; simp only [execOp, resolve, Option.map_some, Option.map_none, List.map_toArray, List.map_cons, List.map_nil, rho_const, rho_func]; (repeat (conv in rho _ _ _ _ (Operand.tmp _) => whnf)); (try simp only [hd]); go_simp; (repeat (conv in rho _ _ _ _ (Operand.tmp _) => whnf))
      exact Grows.refl _) ?_
    repeat (apply free_pure rfl; focus (intro vs w hg hd;  (try simp [Region.binds] at hd); simp only [execOp, resolve, Option.map_some, Option.map_none, List.map_toArray, List.map_cons, List.map_nil, rho_const, rho_func]; (repeat (conv in rho _ _ _ _ (Operand.tmp _) => whnf)); (try simp only [hd]); go_simp; (repeat (conv in rho _ _ _ _ (Operand.tmp _) => whnf)); (try simp only [hd]); rfl))
    refine free_op (fun v_ _ => v_ = .string (str s)) rfl (val_mono _) (fun vs w hg hd => by
      have e1 := run_str (P := Try.prog) (Sl.below HS.out (Grows.of_drew hg)) 22 5 9 Try.underlying22 Try.underlying5 Try.underlying9
      (try simp [Region.binds] at hd); simp only [Does]; simp only [execOp, resolve, Option.map_some, Option.map_none, List.map_toArray, List.map_cons, List.map_nil, rho_const, rho_func]; (repeat (conv in rho _ _ _ _ (Operand.tmp _) => whnf)); (try simp only [hd]); go_simp; (repeat (conv in rho _ _ _ _ (Operand.tmp _) => whnf))
      exact Grows.refl _) ?_
    repeat (apply free_pure rfl; focus (intro vs w hg hd;  (try simp [Region.binds] at hd); simp only [execOp, resolve, Option.map_some, Option.map_none, List.map_toArray, List.map_cons, List.map_nil, rho_const, rho_func]; (repeat (conv in rho _ _ _ _ (Operand.tmp _) => whnf)); (try simp only [hd]); go_simp; (repeat (conv in rho _ _ _ _ (Operand.tmp _) => whnf)); (try simp only [hd]); rfl))
    intro vs w' hg hv; have h4 := hv 4 (by omega); simp at h4; have h5 := hv 5 (by omega); simp at h5; simp only [putL, dstAt, List.range, List.range.loop, if_true, List.getElem?_toArray, List.getElem?_cons_zero, List.getElem?_cons_succ, Option.bind_some, Act.put, List.setIfInBounds_toArray, List.set_cons_zero, List.set_cons_succ]
    rw [h4, h5]
    have HG0 := Lib.hid (Grows.of_drew hg)
    clear hv h4 h5 hg
    generalize vs 0 = z0, vs 1 = z1, vs 2 = z2, vs 3 = z3, vs 4 = z4, vs 5 = z5 at *
    have HX := Lib.hid (fun W (h : Bytes (World.heap W).size W (.slice A b.length cap) b) => put_any (.slice A b.length cap) b 77#64 3 W h (by omega) (by decide) (by decide))
    have HY := Lib.hid (fun W (h : Bytes (World.heap W).size W (.slice A b.length cap) b) (h' : Bytes (World.heap W).size W (.slice A' s.length cap') s) => putBytes_any (.slice A b.length cap) (.slice A' s.length cap') b s W h h' (by omega))
    have HR := Lib.hid (fun W (h : Bytes (World.heap W).size W (.slice A' s.length cap') s) => putBytes_any (.slice none 0 0) (.slice A' s.length cap') [] s W (Sl.nil _ _) h (by simp))
    rw [put_rowS s (by omega)] at HR
    obtain ⟨c1, c2, c3⟩ := tb_back s [] (by omega)
    rw [List.append_nil] at c1 c2 c3
    have HC := Lib.hid (fun W x (h : Bytes (World.heap W).size W x (rowS s)) => takeBytes_any x (rowS s) 255 W h (by rw [rowS_length]; omega) (by decide) (by decide))
    rw [c1, c2, c3] at HC
    clear c1 c2 c3
    generalize rowS s = R at *
    have hXl : (PackM.put b 77#64 3).length ≤ 208 := by unfold PackM.put; rw [List.length_append, Num.bytes_length]; have := PackM.wd_hi 3; omega
    have hYl : (PackM.putBytes b s).length ≤ 500 := by unfold PackM.putBytes; rw [List.length_append, List.length_cons, List.length_take]; omega
    have hXi : ((PackM.put b 77#64 3).length : Int) ≤ 208 := by omega
    have hYi : ((PackM.putBytes b s).length : Int) ≤ 500 := by omega
    generalize PackM.put b 77#64 3 = X at *
    generalize PackM.putBytes b s = Y at *
    go_wp2_with (first
      | (go_at_call 16; refine (HX.out _ (by exact Bytes.more (Sl.below HB.out HG0.out) HG0.out.size)).mono ?_; rintro e w1 ⟨r1, rfl, m1, k1⟩; obtain ⟨A1, c1, rfl, _, _⟩ := m1.form; have HM1 := Lib.hid m1; have HK1 := Lib.hid k1; have HG1 := Lib.hid (HG0.out.trans k1); clear m1 k1)
      | (go_at_call 18; (with_reducible refine (HY.out _ ?_ ?_).mono ?_); exact Bytes.more (Sl.below HB.out HG1.out) HG1.out.size; exact Bytes.more (Sl.below HS.out HG1.out) HG1.out.size; rintro e w2 ⟨r2, rfl, m2, k2⟩; obtain ⟨A2, c2, rfl, _, _⟩ := m2.form; have HM2 := Lib.hid m2; have HK2 := Lib.hid k2; have HG2 := Lib.hid (HG1.out.trans k2); clear m2 k2)
      | (go_at_call 18; (with_reducible refine (HR.out _ ?_).mono ?_); exact Bytes.more (Sl.below HS.out HG2.out) HG2.out.size; rintro e w3 ⟨r3, rfl, m3, k3⟩; obtain ⟨A3, c3, rfl, _, _⟩ := m3.form; have hstr := run_str (P := Try.prog) m3.bytes 22 5 9 Try.underlying22 Try.underlying5 Try.underlying9; have HM3 := Lib.hid m3; have HK3 := Lib.hid k3; have HG3 := Lib.hid (HG2.out.trans k3); clear m3 k3)
      | (go_at_call 11; (with_reducible refine (HC.out _ _ ?_).mono ?_); exact HM3.out.bytes; rintro e w4 ⟨s4, r4, rfl, m4, n4, k4⟩; clear hstr; obtain ⟨A4, c4, rfl, _, _⟩ := m4.form; obtain ⟨A5, c5, rfl, _, _⟩ := n4.form; have HM4 := Lib.hid m4; have HK4 := Lib.hid k4; have HG4 := Lib.hid (HG3.out.trans k4); clear m4 n4 k4))
    have z0 := HG0.out.size
    have z1 := HK1.out.size
    have z2 := HK2.out.size
    have z3 := HK3.out.size
    have z4 := HK4.out.size
    have HKeep : Hid (Keeps w w.heap.size (.slice A3 R.length c3) R w4.heap.size (.slice A1 X.length c1) (.slice A2 Y.length c2) (.slice A4 s.length c4) (w4.alloc (.cells #[.slice A1 X.length c1, .slice A2 Y.length c2, .slice A4 s.length c4] 22))) :=
      ⟨HG4.out.trans (Grows.alloc _ _), ((HM3.out.grows HK4.out).grows (Grows.alloc _ _)).more (by omega), Row.new _ _ _,
        ⟨X, ((((HM1.out.grows HK2.out).grows HK3.out).grows HK4.out).grows (Grows.alloc _ _)).more (by omega)⟩,
        ⟨Y, (((HM2.out.grows HK3.out).grows HK4.out).grows (Grows.alloc _ _)).more (by omega)⟩,
        ⟨s, ((HM4.out).grows (Grows.alloc _ _)).more (by omega)⟩⟩
    have HAp : Hid (Aparts w.heap.size (.slice A3 R.length c3) w4.heap.size (.slice A1 X.length c1) (.slice A2 Y.length c2) (.slice A4 s.length c4)) := by
      have ox := HM1.out.lt
      have oy := HM2.out.lt
      have or_ := HM3.out.lt
      have oc := HM4.out.lt
      refine ⟨fun g hg => ⟨fun e => ?_, ?_, ?_, fun e => ?_, fun e => ?_⟩, fun g hg => ⟨fun e => ?_, ?_, ?_, fun e => ?_, fun e => ?_⟩, fun g hg => ⟨fun e => ?_, ?_, ?_, fun e => ?_, fun e => ?_⟩⟩
      · have := ox g hg; have := or_ g e; omega
      · have := ox g hg; omega
      · have := ox g hg; omega
      · have := ox g hg; have := oy g e; omega
      · have := ox g hg; have := oc g e; omega
      · have := oy g hg; have := or_ g e; omega
      · have := oy g hg; omega
      · have := oy g hg; omega
      · have := oy g hg; have := ox g e; omega
      · have := oy g hg; have := oc g e; omega
      · have := oc g hg; have := or_ g e; omega
      · have := oc g hg; omega
      · have := oc g hg; omega
      · have := oc g hg; have := ox g e; omega
      · have := oc g hg; have := oy g e; omega
    clear z0 z1 z2 z3 z4
    go_loopw [50] (fun i wr => ∃ k : Nat, k ≤ 3 ∧ i = .int .i64 k ∧ Keeps w w.heap.size (.slice A3 R.length c3) R w4.heap.size (.slice A1 X.length c1) (.slice A2 Y.length c2) (.slice A4 s.length c4) wr) (fun i _ => 3 - (intOf i).toNat)
    case atStart => exact ⟨0, by omega, rfl, HKeep.out⟩
    case round =>
      obtain ⟨k, hk3, rfl, hk⟩ := hrel
      clear HKeep
      by_cases hlt : k < 3
      · obtain rfl | rfl | rfl : k = 0 ∨ k = 1 ∨ k = 2 := by omega
        · have hck : wr.cell? ⟨w4.heap.size, 0, none⟩ = some (.slice A1 X.length c1) := by rw [hk.lit.cell]; rfl
          have HK1 := Lib.hid hk
          clear hk
          go_wp2
          go_loopw [56] (fun i wq => ∃ j : Nat, j ≤ X.length ∧ i = .int .i64 j ∧ Keeps w w.heap.size (.slice A3 R.length c3) R w4.heap.size (.slice A1 X.length c1) (.slice A2 Y.length c2) (.slice A4 s.length c4) wq) (fun i _ => X.length - (intOf i).toNat)
          case atStart => exact ⟨0, Nat.zero_le _, rfl, HK1.out⟩
          case round =>
            obtain ⟨j, hj, rfl, hq⟩ := hrel
            by_cases hjn : j < X.length
            · obtain ⟨l, hl⟩ := hq.x
              obtain ⟨g, e1⟩ := hl.spot (by omega)
              subst e1
              clear hl
              obtain ⟨⟨xb, hxb⟩, hfz⟩ := Good.cell hq.x j hjn
              have hx5 : bits .xor .u8 (bI xb) 255 = bI (xb ^^^ 255#8) := bits_xor_b xb 255#8
              have HQ := Lib.hid (hq.stored HAp.out (.inl rfl) rfl j (xb ^^^ 255#8))
              clear hq HK1 hck
              go_wp2
              go_roundw
              case rel => exact ⟨j + 1, by omega, by go_num, HQ.out⟩
              case measure => simp [intOf]; omega
            · obtain rfl : j = X.length := by omega
              have HQ := Lib.hid hq
              clear hq HK1 hck
              go_wp2
              go_roundw
              case rel => exact ⟨1, by omega, by go_num, HQ.out⟩
              case measure => simp [intOf]
        · have hck : wr.cell? ⟨w4.heap.size, 1, none⟩ = some (.slice A2 Y.length c2) := by rw [hk.lit.cell]; rfl
          have HK1 := Lib.hid hk
          clear hk
          go_wp2
          go_loopw [56] (fun i wq => ∃ j : Nat, j ≤ Y.length ∧ i = .int .i64 j ∧ Keeps w w.heap.size (.slice A3 R.length c3) R w4.heap.size (.slice A1 X.length c1) (.slice A2 Y.length c2) (.slice A4 s.length c4) wq) (fun i _ => Y.length - (intOf i).toNat)
          case atStart => exact ⟨0, Nat.zero_le _, rfl, HK1.out⟩
          case round =>
            obtain ⟨j, hj, rfl, hq⟩ := hrel
            by_cases hjn : j < Y.length
            · obtain ⟨l, hl⟩ := hq.y
              obtain ⟨g, e1⟩ := hl.spot (by omega)
              subst e1
              clear hl
              obtain ⟨⟨xb, hxb⟩, hfz⟩ := Good.cell hq.y j hjn
              have hx5 : bits .xor .u8 (bI xb) 255 = bI (xb ^^^ 255#8) := bits_xor_b xb 255#8
              have HQ := Lib.hid (hq.stored HAp.out (.inr (.inl rfl)) rfl j (xb ^^^ 255#8))
              clear hq HK1 hck
              go_wp2
              go_roundw
              case rel => exact ⟨j + 1, by omega, by go_num, HQ.out⟩
              case measure => simp [intOf]; omega
            · obtain rfl : j = Y.length := by omega
              have HQ := Lib.hid hq
              clear hq HK1 hck
              go_wp2
              go_roundw
              case rel => exact ⟨2, by omega, by go_num, HQ.out⟩
              case measure => simp [intOf]
        · have hck : wr.cell? ⟨w4.heap.size, 2, none⟩ = some (.slice A4 s.length c4) := by rw [hk.lit.cell]; rfl
          have HK1 := Lib.hid hk
          clear hk
          go_wp2
          go_loopw [56] (fun i wq => ∃ j : Nat, j ≤ s.length ∧ i = .int .i64 j ∧ Keeps w w.heap.size (.slice A3 R.length c3) R w4.heap.size (.slice A1 X.length c1) (.slice A2 Y.length c2) (.slice A4 s.length c4) wq) (fun i _ => s.length - (intOf i).toNat)
          case atStart => exact ⟨0, Nat.zero_le _, rfl, HK1.out⟩
          case round =>
            obtain ⟨j, hj, rfl, hq⟩ := hrel
            by_cases hjn : j < s.length
            · obtain ⟨l, hl⟩ := hq.c
              obtain ⟨g, e1⟩ := hl.spot (by omega)
              subst e1
              clear hl
              obtain ⟨⟨xb, hxb⟩, hfz⟩ := Good.cell hq.c j hjn
              have hx5 : bits .xor .u8 (bI xb) 255 = bI (xb ^^^ 255#8) := bits_xor_b xb 255#8
              have HQ := Lib.hid (hq.stored HAp.out (.inr (.inr rfl)) rfl j (xb ^^^ 255#8))
              clear hq HK1 hck
              go_wp2
              go_roundw
              case rel => exact ⟨j + 1, by omega, by go_num, HQ.out⟩
              case measure => simp [intOf]; omega
            · obtain rfl : j = s.length := by omega
              have HQ := Lib.hid hq
              clear hq HK1 hck
              go_wp2
              go_roundw
              case rel => exact ⟨3, by omega, by go_num, HQ.out⟩
              case measure => simp [intOf]
      · obtain rfl : k = 3 := by omega
        have eb := run_str (P := Try.prog) (Sl.below HB.out hk.below) 22 5 9 Try.underlying22 Try.underlying5 Try.underlying9
        have es := run_str (P := Try.prog) (Sl.below HS.out hk.below) 22 5 9 Try.underlying22 Try.underlying5 Try.underlying9
        have er := run_str (P := Try.prog) hk.row.bytes 22 5 9 Try.underlying22 Try.underlying5 Try.underlying9
        have HKB := Lib.hid hk.below
        clear hk
        go_wp2_with (first
          | (go_at_call 8; refine (wakes_any _).mono ?_; rintro e w7 ⟨rfl, hb7⟩; have HB7 := Lib.hid hb7; clear hb7))
        go_ret
        exact ⟨rfl, HKB.out.trans (Below.mono HB7.out HKB.out.size)⟩
end Go.Proofs.Ytohidggifcnjgaa
