/- VdRead -/
import Derived.Test.YtiagmlokocpboaaVdAt
import Derived.Laws.Build
/- The document's Read. -/
namespace Go.Proofs.Ytiagmlokocpboaa
open Go.RowKit
set_option linter.unusedVariables false
set_option linter.unusedSimpArgs false
theorem blank_len : VdM.blank.length = 256 := List.length_replicate
theorem zero_pg (w : World) : (zeroValue 40).run Try.prog w = .ok (.agg (pgA VdM.blank)) w := by kernel_rfl
theorem pg_info : (Try.prog.info? 40).map (·.size) = some 256 := by kernel_rfl
theorem pgA_one (p : Pg) : (pgA p).all (·.oneCell') = true := all_oneCell_toArray (pageE_one p)
section
variable {w : World} {ops : Array Oper} {rest : List Oper} {o : Oper} {a : Act} {Q : Exit → Act → World → Prop}
theorem built_pg : Try.prog.built 40 [] = some (pgA VdM.blank) := by kernel_rfl
theorem wpList_build_pg (hgd : o.guard = none) (ho : o.op = .build 40 #[]) (h : wpList Try.prog ops Q rest (a.put o.dst (.agg (pgA VdM.blank))) w) : wpList Try.prog ops Q (o :: rest) a w := by
  refine wpList_plain hgd fun K hK => ?_
  have e : Try.prog.built 40 ((#[] : Array (Nat × Operand)).map fun (i, x) => (i, a.eval x)).toList = some (pgA VdM.blank) := by simpa using built_pg
  refine wp_build 40 #[] ho (by rw [e]; rfl) ?_
  rw [e]
  exact hK _ _ h
theorem wpList_store_pgrow (hgd : o.guard = none) (x y : Operand) (ho : o.op = .store 40 x y) (g : Nat) (p old : Pg) (hx : a.eval x = .pointer (some ⟨g, 0, none⟩)) (hy : a.eval y = .agg (pgA p)) (hl : p.length = 256) (ho2 : old.length = 256) (hr : Row w g 40 (pgA old))
    (h : ∀ w', Row w' g 40 (pgA p) → w.grownBy w' (some g) → wpList Try.prog ops Q rest (a.put o.dst undef) w') : wpList Try.prog ops Q (o :: rest) a w :=
  wpList_store_row hgd 40 x y ho g (pgA p) hx hy 40 (pgA old) hr (by rw [pgA_size, hl]; exact pg_info) (by rw [pgA_size, pgA_size, hl, ho2]) (pgA_one p)
    (h _ (hr.setRow _) (setRow_grown _ _ _))
end
theorem results_pg_two {fn : Func} {p q : Tmp} {w : World} {g : Nat} {l : Pg} (h : fn.results = #[.cell p 40, .tmp q]) (tmps : Array Value) (v : Value) (hp : tmps.getD p undef = .pointer (some ⟨g, 0, none⟩)) (hq : tmps.getD q undef = v) (hl : l.length = 256) (hr : Row w g 40 (pgA l)) :
    (results fn tmps).run Try.prog w = .ok (.tuple #[.agg (pgA l), v]) w := by
  have hp' : tmps[p]?.getD undef = .pointer (some ⟨g, 0, none⟩) := by simpa using hp
  have hq' : tmps[q]?.getD undef = v := by simpa using hq
  have hload : (loadVar 40 ⟨g, 0, none⟩).run Try.prog w = .ok (.agg (pgA l)) w :=
    run_loadVar_row w g 40 40 (pgA l) (0, 0) _ hr Try.underlying40 rfl (by rw [pgA_size, hl]; exact pg_info)
  simp [results, h, hp', hq', asAddr, hload]
theorem range_data {W : World} {b o : Nat} {x : Int × Pg} (h : W.rangeAt b o (writeE x)) : W.rangeAt b (o + 1) (pageE x.2) := fun j v hv => by
  have := h (j + 1) v (by simpa [writeE, pageE] using hv)
  rwa [show o + (j + 1) = o + 1 + j by omega] at this
set_option maxRecDepth 20000 in
set_option maxHeartbeats 2000000 in
theorem rread_any (v : Value) (d : Dk) (n : Int) (w : World) (hv : IsDisk w.heap.size w v d) :
    Calls Try.prog 24 #[v, .int .i64 n] w fun e w' => e = .returned (.tuple #[.agg (pgA (VdM.readP d n)), .int .i64 (VdM.readE d n)]) ∧ Grows w w' := by
  have HV := Lib.hid hv
  obtain ⟨pv, cv, bv, rfl, hp, hc, hb⟩ := hv
  have HPl := Lib.hid hp.1; have HCl := Lib.hid hc.1
  obtain ⟨A, cap, rfl, q1, q2, q3⟩ := hp.form
  obtain ⟨C, cup, rfl, r1, r2, r3⟩ := hc.form
  obtain ⟨E, cop, rfl, s1, s2, s3⟩ := hb.ints
  have HQ := Lib.hid q3; have HR := Lib.hid r3; have HS := Lib.hid s3
  clear q3 r3 s3 hp hc hb
  unfold maxLen at q2 r2 s2
  have HA := Lib.hid (fun W h => rat_any (.agg #[.slice A d.pages.length cap, .slice C d.cache.length cup, .slice E d.bad.length cop, .bool d.off]) d n W h)
  have HDP : Hid (VdM.readP d n = if VdM.atE d n = 0 then (match VdM.lastW d.cache n with | some p => p | none => if d.bad.contains n then VdM.blank else d.pages[n.toNat]?.getD VdM.blank) else VdM.blank) := rfl
  have HDE : Hid (VdM.readE d n = if VdM.atE d n = 0 then (match VdM.lastW d.cache n with | some _ => 0 | none => if d.bad.contains n then 31 else 0) else VdM.atE d n) := rfl
  obtain ⟨D, hD⟩ : ∃ D, D = #[Value.slice A d.pages.length cap, .slice C d.cache.length cup, .slice E d.bad.length cop, .bool d.off] := ⟨_, rfl⟩
  have Ds : Hid (D.size = 4 ∧ D[0]? = some (.slice A d.pages.length cap) ∧ D[1]? = some (.slice C d.cache.length cup) ∧ D[2]? = some (.slice E d.bad.length cop)) := by subst hD; exact ⟨rfl, rfl, rfl, rfl⟩
  rw [← hD] at HV HA ⊢
  clear hD
  have hz := zero_pg
  have R1 := Lib.hid ((Row.new w 26 D).alloc (.cells (pgA VdM.blank) 40))
  have R2 : Hid (Row ((w.alloc (.cells D 26)).alloc (.cells (pgA VdM.blank) 40)) (w.heap.size + 1) 40 (pgA VdM.blank)) := by
    have := Row.new (w.alloc (.cells D 26)) 40 (pgA VdM.blank)
    rwa [World.size_alloc] at this
  have HG := Lib.hid ((Grows.alloc w (.cells D 26)).trans (Grows.alloc _ (.cells (pgA VdM.blank) 40)))
  have HAt := Lib.hid (HA.out _ (HV.out.grows HG.out))
  clear HA
  by_cases h0 : VdM.atE d n = 0
  case neg =>
    have HP0 : Hid (VdM.readP d n = VdM.blank) := HDP.out.trans (if_neg h0)
    have HE0 : Hid (VdM.readE d n = VdM.atE d n) := HDE.out.trans (if_neg h0)
    generalize VdM.atE d n = e0 at *
    go_enter Try.func24, Try.ntmps24
    go_wp2_with (first
      | ((with_reducible refine wpList_load_dk ?_ (.tmp 2) ?_ w.heap.size D ?_ ?_ ?_ ?_); exact rfl; exact rfl; exact rfl; exact R1.out; exact Ds.out.1)
      | (go_at_call 36; refine HAt.out.mono ?_; rintro e w1 ⟨rfl, g1⟩; have HG1 := Lib.hid (HG.out.trans g1); have HR2 := Lib.hid (Row.grows R2.out g1); clear g1)
      | ((with_reducible refine wpList_build_pg (o := ⟨some 14, _, _, _, _, _⟩) ?_ ?_ ?_); exact rfl; exact rfl)
      | ((with_reducible refine wpList_store_pgrow ?_ (.tmp 4) (.tmp 14) ?_ (w.heap.size + 1) VdM.blank VdM.blank ?_ ?_ ?_ ?_ ?_ ?_); exact rfl; exact rfl; exact rfl; exact rfl; exact blank_len; exact blank_len; exact HR2.out; intro w2 hp2 hg2)
      | (refine bodyPost_ret (results_pg_two (p := 4) (q := 5) (by exact rfl) _ (.int .i64 e0) (by exact rfl) (by exact rfl) blank_len hp2) rfl ?_; exact ⟨by rw [HP0.out, HE0.out], HG1.out.grown hg2 HG1.out.size (fun k e => by cases e; exact Nat.le_succ _)⟩))
  have H0 := Lib.hid h0
  rw [h0] at HAt
  have HP0 := Lib.hid (HDP.out.trans (if_pos h0))
  have HE0 := Lib.hid (HDE.out.trans (if_pos h0))
  have HN : Hid (0 ≤ n ∧ n < d.pages.length) := by
    have := H0.out
    unfold VdM.atE at this
    split at this
    · rename_i h; exact ⟨h.2.1, h.2.2⟩
    · omega
  clear h0 HDP HDE
  obtain ⟨ps, cs, bs, off⟩ := d
  simp only at *
  go_enter Try.func24, Try.ntmps24
  go_wp2_with (first
    | ((with_reducible refine wpList_load_dk ?_ (.tmp 2) ?_ w.heap.size D ?_ ?_ ?_ ?_); exact rfl; exact rfl; exact rfl; exact R1.out; exact Ds.out.1)
    | (go_at_call 36; refine HAt.out.mono ?_; rintro e w1 ⟨rfl, g1⟩; have HG1 := Lib.hid (HG.out.trans g1); have HR1 := Lib.hid (Row.grows R1.out g1); have HR2 := Lib.hid (Row.grows R2.out g1); have c1 := ((Row.grows R1.out g1).cell 1).trans Ds.out.2.2.1; clear g1))
  clear c1
  go_loopw [7] (fun i wr => ∃ k : Nat, k ≤ cs.length ∧ i = .int .i64 ((k : Int) - 1) ∧ (cs.drop k).all (fun x => !(x.1 == n)) = true ∧ Row wr w.heap.size 26 D ∧ Row wr (w.heap.size + 1) 40 (pgA VdM.blank) ∧ Grows w wr) (fun i _ => (intOf i + 1).toNat)
  case atStart => exact ⟨cs.length, Nat.le_refl _, by first | rfl | go_num, by rw [List.drop_length]; rfl, HR1.out, HR2.out, HG1.out⟩
  case round =>
    obtain ⟨k, hk, rfl, hall, hr1, hr2, hb⟩ := hrel
    have a1 : _ = some _ := (hr1.cell 1).trans Ds.out.2.2.1
    have a2 : _ = some _ := (hr1.cell 2).trans Ds.out.2.2.2
    have a0 : _ = some _ := (hr1.cell 0).trans Ds.out.2.1
    have HAl := Lib.hid hall; have HB := Lib.hid hb; have HR1 := Lib.hid hr1; have HR2 := Lib.hid hr2
    clear hall hb hr1 hr2
    rcases k with _ | j
    · have HL : Hid (VdM.lastW cs n = none) := VdM.lastW_none cs n HAl.out
      rw [HL.out] at HP0 HE0
      simp only at HP0 HE0
      go_wp2
      clear a0 a1 a2
      go_loopw [8] (fun i wr => ∃ k : Nat, k ≤ bs.length ∧ i = .int .i64 k ∧ (bs.take k).contains n = false ∧ Row wr w.heap.size 26 D ∧ Row wr (w.heap.size + 1) 40 (pgA VdM.blank) ∧ Grows w wr) (fun i _ => bs.length - (intOf i).toNat)
      case atStart => exact ⟨0, Nat.zero_le _, rfl, rfl, HR1.out, HR2.out, HB.out⟩
      case round =>
        obtain ⟨k, hk, rfl, hnot, hr1, hr2, hb⟩ := hrel
        have a2 : _ = some _ := (hr1.cell 2).trans Ds.out.2.2.2
        have a0 : _ = some _ := (hr1.cell 0).trans Ds.out.2.1
        have HNo := Lib.hid hnot; have HB := Lib.hid hb; have HR1 := Lib.hid hr1; have HR2 := Lib.hid hr2
        clear hnot hb hr1 hr2
        by_cases hlt : k < bs.length
        · obtain ⟨g1, o1, rfl, hg1, hcA⟩ := HS.out (by omega)
          have e1 : bs[k]? = some bs[k] := List.getElem?_eq_getElem hlt
          have c0 := (Below.cell HB.out (p := ⟨g1, o1 + k, none⟩) hg1).trans (hcA k _ e1)
          have E1 := Lib.hid e1
          clear e1 hcA HS
          generalize bs[k] = x at *
          by_cases hx : x = n
          · subst hx
            rw [VdM.contains_of bs x k E1.out] at HP0 HE0
            simp only [if_true] at HP0 HE0
            go_wp2_with (first
              | ((with_reducible refine wpList_build_pg (o := ⟨some 52, _, _, _, _, _⟩) ?_ ?_ ?_); exact rfl; exact rfl)
              | ((with_reducible refine wpList_store_pgrow ?_ (.tmp 4) (.tmp 52) ?_ (w.heap.size + 1) VdM.blank VdM.blank ?_ ?_ ?_ ?_ ?_ ?_); exact rfl; exact rfl; exact rfl; exact rfl; exact blank_len; exact blank_len; exact HR2.out; intro w2 hp2 hg2)
              | (refine bodyPost_ret (results_pg_two (p := 4) (q := 5) (by exact rfl) _ (.int .i64 31) (by exact rfl) (by exact rfl) blank_len hp2) rfl ?_; exact ⟨by rw [HP0.out, HE0.out], HB.out.grown hg2 HB.out.size (fun k e => by cases e; exact Nat.le_succ _)⟩))
          · have HS1 := Lib.hid (VdM.take_not_step bs n k x E1.out hx HNo.out)
            go_wp2
            go_roundw
            case rel => exact ⟨k + 1, by omega, by go_num, HS1.out, HR1.out, HR2.out, HB.out⟩
            case measure => simp [intOf]; omega
        · obtain rfl : k = bs.length := by omega
          have HF : bs.contains n = false := by have := HNo.out; rwa [List.take_length] at this
          rw [HF] at HP0 HE0
          simp only [Bool.false_eq_true, if_false] at HP0 HE0
          clear HF HNo
          obtain ⟨m, rfl⟩ : ∃ m : Nat, n = m := ⟨n.toNat, by have := HN.out.1; omega⟩
          have hm : m < ps.length := by have := HN.out.2; omega
          obtain ⟨g1, o1, rfl, hg1, hcA⟩ := HQ.out (by omega)
          have e1 : ps[m]? = some ps[m] := List.getElem?_eq_getElem hm
          have y1 := Lib.hid (rangeAt_keep (hcA m _ e1) (fun a ha => Below.cell HB.out (by omega)))
          have z1 : Hid (ps[m].length = 256) := by have := HPl.out _ (List.mem_of_getElem? e1); rwa [pageE_len] at this
          rw [Int.toNat_natCast, e1, Option.getD_some] at HP0
          clear e1 hcA HQ
          generalize ps[m] = p at *
          go_wp2_with (first
            | ((with_reducible refine wpList_load_pg (op := ⟨some 57, _, _, _, _, _⟩) ?_ (.tmp 56) ?_ g1 (o1 + m * 256) p ?_ ?_ ?_ ?_); exact rfl; exact rfl; exact rfl; exact z1.out; exact y1.out)
            | ((with_reducible refine wpList_store_pgrow ?_ (.tmp 4) (.tmp 57) ?_ (w.heap.size + 1) p VdM.blank ?_ ?_ ?_ ?_ ?_ ?_); exact rfl; exact rfl; exact rfl; exact rfl; exact z1.out; exact blank_len; exact HR2.out; intro w2 hp2 hg2)
            | (refine bodyPost_ret (results_pg_two (p := 4) (q := 5) (by exact rfl) _ (.int .i64 0) (by exact rfl) (by exact rfl) z1.out hp2) rfl ?_; exact ⟨by rw [HP0.out, HE0.out], HB.out.grown hg2 HB.out.size (fun k e => by cases e; exact Nat.le_succ _)⟩))
    · rw [show (((j + 1 : Nat) : Int) - 1) = (j : Int) by omega]
      obtain ⟨g1, o1, rfl, hg1, hcA⟩ := HR.out (by omega)
      have e1 : cs[j]? = some cs[j] := List.getElem?_eq_getElem (by omega)
      have y1 := Lib.hid (rangeAt_keep (hcA j _ e1) (fun a ha => Below.cell HB.out (by omega)))
      have E1 := Lib.hid e1
      have z1 : Hid (cs[j].2.length = 256) := by have := HCl.out _ (List.mem_of_getElem? e1); rw [writeE_len] at this; exact Nat.succ.inj this
      have c0 := y1.out 0 _ rfl
      rw [Nat.add_zero] at c0
      clear e1 hcA HR
      generalize cs[j] = p at *
      by_cases hx : p.1 = n
      · have HL : Hid (VdM.lastW cs n = some p.2) := VdM.lastW_some cs n j p E1.out hx HAl.out
        rw [HL.out] at HP0 HE0
        simp only at HP0 HE0
        rw [hx] at c0
        clear hx
        have yd := Lib.hid (range_data y1.out)
        go_wp2_with (first
          | ((with_reducible refine wpList_load_pg (op := ⟨some 37, _, _, _, _, _⟩) ?_ (.tmp 36) ?_ g1 (o1 + j * 257 + 1) p.2 ?_ ?_ ?_ ?_); exact rfl; exact rfl; exact rfl; exact z1.out; exact yd.out)
          | ((with_reducible refine wpList_store_pgrow ?_ (.tmp 4) (.tmp 37) ?_ (w.heap.size + 1) p.2 VdM.blank ?_ ?_ ?_ ?_ ?_ ?_); exact rfl; exact rfl; exact rfl; exact rfl; exact z1.out; exact blank_len; exact HR2.out; intro w2 hp2 hg2)
          | (refine bodyPost_ret (results_pg_two (p := 4) (q := 5) (by exact rfl) _ (.int .i64 0) (by exact rfl) (by exact rfl) z1.out hp2) rfl ?_; exact ⟨by rw [HP0.out, HE0.out], HB.out.grown hg2 HB.out.size (fun k e => by cases e; exact Nat.le_succ _)⟩))
      · have HS1 := Lib.hid (VdM.drop_all_step cs n j p E1.out hx HAl.out)
        generalize p.1 = y at *
        go_wp2
        go_roundw
        case rel => exact ⟨j, by omega, by go_num, HS1.out, HR1.out, HR2.out, HB.out⟩
        case measure => simp [intOf]
end Go.Proofs.Ytiagmlokocpboaa
