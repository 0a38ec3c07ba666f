/- FlIter -/
import Derived.Test.YtiagmlokocpboaaFlPage
import Derived.Test.YtiagmlokocpboaaVdIn
import Derived.Test.YtiagmlokocpboaaVdIter
/- Layer 4's iterator: a cache's writes, in order, each with what its pick makes of it. -/
namespace Go.Proofs.Ytiagmlokocpboaa
open Go.RowKit
set_option linter.unusedVariables false
set_option linter.unusedSimpArgs false
attribute [local go_sem] Oper.semAt_some
def FlM.fateI (picks : List (BitVec 8)) (i : Nat) : Int := (FlM.fate picks i : Int)
theorem wr_run_load_row {w : World} {g : Nat} {x : Int × Pg} (hl : x.2.length = 256) (hr : Row w g 42 (wrA x)) : (loadVar 42 ⟨g, 0, none⟩).run Try.prog w = .ok (.agg (wrA x)) w :=
  run_loadVar_row w g 42 42 (wrA x) (0, 0) _ hr Try.underlying42 rfl (by rw [wrA_size, hl]; exact wr_info)
section
variable {w : World} {ops : Array Oper} {rest : List Oper} {o : Oper} {a : Act} {Q : Exit → Act → World → Prop} {F : Fence} {nn : Nat}
theorem wpListIn_load_wr (hF : WideF F) (hgd : o.guard = none) (x : Operand) (ho : o.op = .load 42 x) (b off : Nat) (p : Int × Pg) (hx : a.eval x = .pointer (some ⟨b, off, none⟩)) (hl : p.2.length = 256) (hr : w.rangeAt b off (writeE p))
    (h : wpListIn F nn Try.prog ops Q rest (a.put o.dst (.agg (wrA p))) w) : wpListIn F nn Try.prog ops Q (o :: rest) a w :=
  wpListIn_does hF hgd (by intro c; rw [ho]; simp) (R := fun v w' => v = .agg (wrA p) ∧ w' = w) (dk_load 42 x ⟨b, off, none⟩ _ ho hx (write_run_load hl hr) ⟨rfl, rfl⟩) (by rintro v w' ⟨rfl, rfl⟩; exact h)
theorem wpListIn_load_wrrow (hF : WideF F) (hgd : o.guard = none) (x : Operand) (ho : o.op = .load 42 x) (g : Nat) (p : Int × Pg) (hx : a.eval x = .pointer (some ⟨g, 0, none⟩)) (hl : p.2.length = 256) (hr : Row w g 42 (wrA p))
    (h : wpListIn F nn Try.prog ops Q rest (a.put o.dst (.agg (wrA p))) w) : wpListIn F nn Try.prog ops Q (o :: rest) a w :=
  wpListIn_does hF hgd (by intro c; rw [ho]; simp) (R := fun v w' => v = .agg (wrA p) ∧ w' = w) (dk_load 42 x ⟨g, 0, none⟩ _ ho hx (wr_run_load_row hl hr) ⟨rfl, rfl⟩) (by rintro v w' ⟨rfl, rfl⟩; exact h)
theorem wpListIn_store_wrrow (hF : WideF F) (hgd : o.guard = none) (x y : Operand) (ho : o.op = .store 42 x y) (g : Nat) (p old : Int × Pg) (hx : a.eval x = .pointer (some ⟨g, 0, none⟩)) (hy : a.eval y = .agg (wrA p)) (hl : p.2.length = 256) (ho2 : old.2.length = 256) (hr : Row w g 42 (wrA old))
    (h : ∀ w', Row w' g 42 (wrA p) → w.grownBy w' (some g) → wpListIn F nn Try.prog ops Q rest (a.put o.dst undef) w') : wpListIn F nn Try.prog ops Q (o :: rest) a w :=
  wpListIn_does hF hgd (by intro c; rw [ho]; simp) (R := fun v w' => v = undef ∧ Row w' g 42 (wrA p) ∧ w.grownBy w' (some g))
    (does_store_row 42 x y ho g (wrA p) hx hy (wrA old) _ hr (by rw [wrA_size, hl]; exact wr_info) (by rw [wrA_size, wrA_size, hl, ho2]) (wrA_one p) fun w' h1 h2 => ⟨rfl, h1, h2⟩)
    (by rintro v w' ⟨rfl, h1, h2⟩; exact h w' h1 h2)
end
theorem grownBy_of_grows {W W' : World} (g : Grows W W') : W.grownBy W' none := ⟨g.os, g.tape, g.output, g.size, fun k hk _ => g.block k hk⟩
/-- What a round over the writes keeps. -/
def KeptW (n₀ Bs Bp : Nat) (W W' : World) : Prop := Below n₀ W W' ∧ KeptAt Bs W W' ∧ KeptAt Bp W W'
theorem KeptW.t {n₀ Bs Bp : Nat} {A B C : World} (h : KeptW n₀ Bs Bp A B) (k : KeptW n₀ Bs Bp B C) : KeptW n₀ Bs Bp A C := ⟨h.1.trans k.1, h.2.1.t k.2.1, h.2.2.t k.2.2⟩
theorem KeptW.b {n₀ Bs Bp : Nat} {w : World} (hn : n₀ ≤ w.heap.size) (hs : Bs < w.heap.size) (hp : Bp < w.heap.size) (W : World) (l : Nat) (o o' : Obj) (hl : w.heap.size ≤ l) (h : W.heap[l]? = some o) (h1 : o.isCells = false) (h2 : o.isWalk = false) : KeptW n₀ Bs Bp W (W.putObj l o') :=
  ⟨belowK_b hn W l o o' hl h h1 h2, KeptAt.b hs W l o o' hl h h1 h2, KeptAt.b hp W l o o' hl h h1 h2⟩
set_option maxRecDepth 100000 in
set_option maxHeartbeats 4000000 in
theorem wf1_in (n : Nat) (hn : 1 ≤ n) (l Bs Bp n₀ : Nat) (cv pv : Value) (cs : List (Int × Pg)) (picks : List (BitVec 8)) (hpl : picks.length ≤ 900000) (J Jx : List (Fin cs.length) → World → Prop)
    (hY : ∀ pre (x : Fin cs.length) W, J pre W → pre.length < cs.length → YieldAt Fence.wide (n - 1) Try.prog l #[.agg (wrA cs[x.val]), .int .u8 (FlM.fateI picks x.val)] W fun e W' =>
      (e = .returned (.bool true) ∧ J (pre ++ [x]) W' ∧ KeptW n₀ Bs Bp W W') ∨ (e = .returned (.bool false) ∧ Jx (pre ++ [x]) W'))
    (W : World) (hJ : AbidesFrom W.heap.size J) (hnW : n₀ ≤ W.heap.size) (hBs : W.cell? ⟨Bs, 0, none⟩ = some cv) (hBp : W.cell? ⟨Bp, 0, none⟩ = some pv) (hBs0 : Bs < W.heap.size) (hBp0 : Bp < W.heap.size) (hc : Els 257 writeE n₀ W cv cs) (hp : Bytes n₀ W pv picks) (h0 : J [] W) :
    CallsIn Fence.wide n Try.prog 39 #[.func (.yield l) #[] #[], .pointer (some ⟨Bs, 0, none⟩), .pointer (some ⟨Bp, 0, none⟩)] W fun e W' => (∃ v, e = .returned v) ∧
      (J (List.finRange cs.length) W' ∨ (∃ pre, pre <+: List.finRange cs.length ∧ Jx pre W')) := by
  have hzw := zero_wr
  have HCl := Lib.hid hc.1
  obtain ⟨C, cup, rfl, r1, r2, r3⟩ := hc.form
  obtain ⟨PA, pcap, rfl, s1, s2, s3⟩ := hp
  simp only [List.length_map] at hBp s1 s3
  unfold maxLen at r2 s2
  have HC := Lib.hid r3; have HPk := Lib.hid s3
  have HY := Lib.hid hY
  have HJ : Hid (∀ (s : List (Fin cs.length)) (X Y : World), J s X → Grows X Y → J s Y) := fun s X Y hs g => hJ s X Y none hs (grownBy_of_grows g) (fun r e => by cases e)
  clear r3 s3 hY hc hJ
  have HPL := Lib.hid hpl
  refine callsIn_of_wp Try.func39 rfl trivial ?_ rfl
  simp only [Try.ntmps39, List.size_toArray, List.length_cons, List.length_nil, Nat.reduceAdd, Nat.reduceSub, Array.replicate_succ, Array.replicate_zero, List.push_toArray, List.append_toArray, List.nil_append, List.cons_append]
  gi_wp2
  gi_loopw [9] (fun i wr => ∃ k : Nat, k ≤ cs.length ∧ i = .int .i64 k ∧ J ((List.finRange cs.length).take k) wr ∧ Below n₀ W wr ∧ W.heap.size ≤ wr.heap.size ∧ wr.cell? ⟨Bs, 0, none⟩ = some (.slice C cs.length cup) ∧ wr.cell? ⟨Bp, 0, none⟩ = some (.slice PA picks.length pcap))
    (fun i _ => cs.length - (intOf i).toNat)
  case atStart => exact ⟨0, Nat.zero_le _, rfl, h0, Below.refl _ _, Nat.le_refl _, hBs, hBp⟩
  case round =>
    obtain ⟨k, hk, rfl, hJk, hnk, hsz, hcs, hcp⟩ := hrel
    by_cases hlk : k < cs.length
    · obtain ⟨b', o', rfl, hb', hcell'⟩ := HC.out (by omega)
      have e1 : cs[k]? = some cs[k] := List.getElem?_eq_getElem hlk
      have HRG := Lib.hid (rangeAt_keep (hcell' k _ e1) (fun a ha => Below.cell hnk (by omega)))
      have HXL : Hid (cs[k].2.length = 256) := by have := HCl.out _ (List.mem_of_getElem? e1); rw [writeE_len] at this; exact Nat.succ.inj this
      have HT := Lib.hid (FlM.fins_step k hlk)
      have HYk := Lib.hid (fun W h => HY.out ((List.finRange cs.length).take k) ⟨k, hlk⟩ W h (by simp; omega))
      have HJk := Lib.hid hJk; have HNK := Lib.hid hnk; have HSZ := Lib.hid hsz; have HBS := Lib.hid (show Bs < wr.heap.size by omega); have HBP := Lib.hid (show Bp < wr.heap.size by omega)
      have HCS := Lib.hid hcs; have HCP := Lib.hid hcp; have HNW := Lib.hid (show n₀ ≤ wr.heap.size by omega)
      dsimp only at HYk
      have HFd : Hid (FlM.fateI picks k = (FlM.fate picks k : Int)) := rfl
      clear hcell' e1 hJk hnk hsz
      generalize cs[k] = x at *
      by_cases hpk : k < picks.length
      · have hpk2 : (k : Int) < picks.length := by omega
        obtain ⟨g1, o1, rfl, hg1, hcA⟩ := HPk.out (by omega)
        have e2 : picks[k]? = some picks[k] := List.getElem?_eq_getElem hpk
        have CB := Lib.hid ((HNK.out.cell (p := ⟨g1, o1 + k, none⟩) hg1).trans (hcA k (byteV picks[k]) (by rw [List.getElem?_map, e2]; rfl)))
        have HG1 := Lib.hid hg1
        have HM : (bI picks[k]).tmod 3 = FlM.fateI picks k := by rw [HFd.out, FlM.fate_some e2, tmod3]
        generalize picks[k] = y at *
        generalize FlM.fateI picks k = f at *
        clear e2 hcA hg1
        gi_wp2_with (first
          | ((with_reducible refine wpListIn_load_wr WideF.wide ?_ (.tmp 12) ?_ b' (o' + k * 257) x ?_ ?_ ?_ ?_); exact rfl; exact rfl; exact rfl; exact HXL.out; exact HRG.out)
          | ((with_reducible refine wpListIn_store_wrrow WideF.wide ?_ (.tmp 5) (.tmp 13) ?_ wr.heap.size x (0, VdM.blank) ?_ ?_ ?_ ?_ ?_ ?_); exact rfl; exact rfl; exact rfl; exact rfl; exact HXL.out; exact blank_len; exact Row.new wr _ _; intro u1 hp1 hg1; have g := grown_fresh rfl hg1; have R1 := Lib.hid hp1; have GU := Lib.hid g; have cp1 := (Below.cell g (p := ⟨Bp, 0, none⟩) HBP.out).trans HCP.out; have cb1 := (Below.cell g (p := ⟨g1, o1 + k, none⟩) (Nat.lt_of_lt_of_le HG1.out HNW.out)).trans CB.out; unfold byteV at cb1; obtain ⟨fn, tmps, assign, body, hy, hR⟩ := HYk.out u1 (HJ.out _ _ _ HJk.out g); have HR := Lib.hid hR; clear hp1 hg1 g hR)
          | ((with_reducible refine wpListIn_load_wrrow WideF.wide ?_ (.tmp 5) ?_ wr.heap.size x ?_ ?_ ?_ ?_); exact rfl; exact rfl; exact rfl; exact HXL.out; exact R1.out))
        refine HR.out.mono ?_
        rintro e W3 (⟨rfl, hJ3, hk3⟩ | ⟨rfl, hJx3⟩)
        · gi_wp2
          go_roundw
          case rel => exact ⟨k + 1, by omega, by simp, by rw [HT.out]; exact hJ3, HNK.out.trans ((Below.mono GU.out HNW.out).trans hk3.1), Nat.le_trans HSZ.out (Nat.le_trans (Below.size GU.out) hk3.1.size), (World.cell?_of_block (a := ⟨Bs, 0, none⟩) hk3.2.1).trans ((Below.cell GU.out (p := ⟨Bs, 0, none⟩) HBS.out).trans HCS.out), (World.cell?_of_block (a := ⟨Bp, 0, none⟩) hk3.2.2).trans ((Below.cell GU.out (p := ⟨Bp, 0, none⟩) HBP.out).trans HCP.out)⟩
          case measure => simp [intOf]; omega
        · gi_wp2
          refine bodyPost_ret (results_none rfl _ _ _) rfl ?_
          exact ⟨⟨_, rfl⟩, .inr ⟨_, by have := List.take_prefix (k + 1) (List.finRange cs.length); rw [HT.out] at this; exact this, hJx3⟩⟩
      · have hpk2 : ¬ (k : Int) < picks.length := by omega
        have HF0 : FlM.fateI picks k = 0 := by rw [HFd.out, FlM.fate_none (by omega)]; rfl
        rw [HF0] at HYk
        clear HF0 HFd HPk
        gi_wp2_with (first
          | ((with_reducible refine wpListIn_load_wr WideF.wide ?_ (.tmp 12) ?_ b' (o' + k * 257) x ?_ ?_ ?_ ?_); exact rfl; exact rfl; exact rfl; exact HXL.out; exact HRG.out)
          | ((with_reducible refine wpListIn_store_wrrow WideF.wide ?_ (.tmp 5) (.tmp 13) ?_ wr.heap.size x (0, VdM.blank) ?_ ?_ ?_ ?_ ?_ ?_); exact rfl; exact rfl; exact rfl; exact rfl; exact HXL.out; exact blank_len; exact Row.new wr _ _; intro u1 hp1 hg1; have g := grown_fresh rfl hg1; have R1 := Lib.hid hp1; have GU := Lib.hid g; have cp1 := (Below.cell g (p := ⟨Bp, 0, none⟩) HBP.out).trans HCP.out; obtain ⟨fn, tmps, assign, body, hy, hR⟩ := HYk.out u1 (HJ.out _ _ _ HJk.out g); have HR := Lib.hid hR; clear hp1 hg1 g hR)
          | ((with_reducible refine wpListIn_load_wrrow WideF.wide ?_ (.tmp 5) ?_ wr.heap.size x ?_ ?_ ?_ ?_); exact rfl; exact rfl; exact rfl; exact HXL.out; exact R1.out))
        refine HR.out.mono ?_
        rintro e W3 (⟨rfl, hJ3, hk3⟩ | ⟨rfl, hJx3⟩)
        · gi_wp2
          go_roundw
          case rel => exact ⟨k + 1, by omega, by simp, by rw [HT.out]; exact hJ3, HNK.out.trans ((Below.mono GU.out HNW.out).trans hk3.1), Nat.le_trans HSZ.out (Nat.le_trans (Below.size GU.out) hk3.1.size), (World.cell?_of_block (a := ⟨Bs, 0, none⟩) hk3.2.1).trans ((Below.cell GU.out (p := ⟨Bs, 0, none⟩) HBS.out).trans HCS.out), (World.cell?_of_block (a := ⟨Bp, 0, none⟩) hk3.2.2).trans ((Below.cell GU.out (p := ⟨Bp, 0, none⟩) HBP.out).trans HCP.out)⟩
          case measure => simp [intOf]; omega
        · gi_wp2
          refine bodyPost_ret (results_none rfl _ _ _) rfl ?_
          exact ⟨⟨_, rfl⟩, .inr ⟨_, by have := List.take_prefix (k + 1) (List.finRange cs.length); rw [HT.out] at this; exact this, hJx3⟩⟩
    · obtain rfl : k = cs.length := by omega
      rw [FlM.fins_whole] at hJk
      clear HC HPk
      gi_wp2
      go_end0
      exact ⟨⟨_, rfl⟩, .inl hJk⟩
theorem wf_any (u v : Value) (A B : Option Addr) (len cap plen pcap : Nat) (w : World) (hu : u = .slice A len cap) (hv : v = .slice B plen pcap) :
    Calls Try.prog 29 #[u, v] w fun e w' => e = .returned (.func (.func 39) #[] #[.pointer (some ⟨w.heap.size, 0, none⟩), .pointer (some ⟨w.heap.size + 1, 0, none⟩)]) ∧ (w.alloc (.cells #[u] 23)).alloc (.cells #[v] 27) = w' := by
  subst hu hv
  go_enter Try.func29, Try.ntmps29
  go_wp2
  go_ret
  exact ⟨rfl, rfl⟩
theorem wf_stops (n : Nat) (hn : 1 ≤ n) (Bs Bp n₀ : Nat) (cv pv : Value) (cs : List (Int × Pg)) (picks : List (BitVec 8)) (hpl : picks.length ≤ 900000) (w : World) (hn0 : n₀ ≤ w.heap.size) (hBs0 : Bs < w.heap.size) (hBp0 : Bp < w.heap.size)
    (hBs : w.cell? ⟨Bs, 0, none⟩ = some cv) (hBp : w.cell? ⟨Bp, 0, none⟩ = some pv) (hc : Els 257 writeE n₀ w cv cs) (hp : Bytes n₀ w pv picks) :
    SeqStopsK Fence.wide n Try.prog 39 #[.pointer (some ⟨Bs, 0, none⟩), .pointer (some ⟨Bp, 0, none⟩)] (fun x : Fin cs.length => #[.agg (wrA cs[x.val]), .int .u8 (FlM.fateI picks x.val)]) (KeptW n₀ Bs Bp) (fun ys => ys = List.finRange cs.length) (fun pre => pre <+: List.finRange cs.length) cs.length w := fun l J Jx W hW hJ _ hY h0 => by
  have h1 := ((hW.cell (p := ⟨Bs, 0, none⟩) (show Bs < _ by omega)).trans hBs)
  have h2 := ((hW.cell (p := ⟨Bp, 0, none⟩) (show Bp < _ by omega)).trans hBp)
  have hs := hW.size
  refine (wf1_in n hn l Bs Bp n₀ cv pv cs picks hpl J Jx hY W hJ (by omega) h1 h2 (by omega) (by omega) (hc.below (hW.mono hn0)) (Sl.below hp (hW.mono hn0)) h0).mono ?_
  rintro e W' ⟨he, h | ⟨pre, hpre, hj⟩⟩
  · exact ⟨he, .inl ⟨_, rfl, h⟩⟩
  · exact ⟨he, .inr ⟨_, hpre, hj⟩⟩
end Go.Proofs.Ytiagmlokocpboaa
