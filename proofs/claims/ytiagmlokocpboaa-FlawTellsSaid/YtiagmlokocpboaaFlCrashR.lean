/- FlCrashR -/
import Derived.Test.YtiagmlokocpboaaFlOwn
import Derived.Test.YtiagmlokocpboaaFlPage
/- The document's Crash. -/
namespace Go.Proofs.Ytiagmlokocpboaa
open Go.RowKit
set_option linter.unusedVariables false
set_option linter.unusedSimpArgs false
set_option maxRecDepth 20000 in
set_option maxHeartbeats 16000000 in
theorem rcrash_any (v pv : Value) (d : Dk) (picks : List (BitVec 8)) (w : World) (hv : IsDisk w.heap.size w v d) (hpk : Bytes w.heap.size w pv picks) (l1 : d.pages.length ≤ 1000000) (l2 : d.cache.length ≤ 900000) (l3 : d.bad.length ≤ 900000) (lp : picks.length ≤ 900000) :
    Calls Try.prog 15 #[v, pv] w fun e w' => ∃ r, e = .returned r ∧ OwnDisk w.heap.size w' r (FlM.crashD d picks) ∧ Grows w w' := by
  have hzw := zero_wr
  have hzp := zero_pg
  have L1 := Lib.hid l1; have L2 := Lib.hid (show d.cache.length ≤ 1000000 by omega); have L3 := Lib.hid (show d.bad.length ≤ 1000000 by omega); have L4 := Lib.hid l2; have L5 := Lib.hid l3
  have HPK := Lib.hid (fun W (g : Grows w W) => (show Bytes (World.heap W).size W pv picks from Bytes.more (Sl.below hpk g) g.size))
  have PK := Lib.hid (fun (i : Nat) (hi : i ≤ 900000) W (g : Grows w W) => rpick_g pv picks i W (HPK.out W g) lp hi)
  clear hpk l1 l2 l3
  have HV := Lib.hid hv
  obtain ⟨pgv, cv, bv, rfl, hp, hc, hb⟩ := hv
  have HP := Lib.hid hp; have HC := Lib.hid hc; have HB := Lib.hid hb
  obtain ⟨AP, cP, rfl, p1, p2, p3⟩ := hp.form
  obtain ⟨AC, cC, rfl, q1, q2, q3⟩ := hc.form
  obtain ⟨AB, cB, rfl, b1, b2, b3⟩ := hb.ints
  have HPf := Lib.hid p3; have HCf := Lib.hid q3; have HBf := Lib.hid b3
  have HCl := Lib.hid hc.1
  clear hp hc hb p3 q3 b3
  unfold maxLen at p2 q2 b2
  obtain ⟨D, hD⟩ : ∃ D, D = #[Value.slice AP d.pages.length cP, .slice AC d.cache.length cC, .slice AB d.bad.length cB, .bool d.off] := ⟨_, rfl⟩
  have Ds : Hid (D.size = 4 ∧ D[0]? = some (.slice AP d.pages.length cP) ∧ D[1]? = some (.slice AC d.cache.length cC) ∧ D[2]? = some (.slice AB d.bad.length cB) ∧ D[3]? = some (.bool d.off)) := by subst hD; exact ⟨rfl, rfl, rfl, rfl, rfl⟩
  have HDe := Lib.hid hD
  rw [← hD] at HV ⊢
  clear hD
  have R1 := Lib.hid ((Row.new w 26 D).alloc (.cells #[.slice none 0 0, .slice none 0 0, .slice none 0 0, .bool false] 26))
  have R2 : Hid (Row ((w.alloc (.cells D 26)).alloc (.cells #[.slice none 0 0, .slice none 0 0, .slice none 0 0, .bool false] 26)) (w.heap.size + 1) 26 #[.slice none 0 0, .slice none 0 0, .slice none 0 0, .bool false]) := by
    have := Row.new (w.alloc (.cells D 26)) 26 #[.slice none 0 0, .slice none 0 0, .slice none 0 0, .bool false]
    rwa [World.size_alloc] at this
  have HG := Lib.hid ((Grows.alloc w (.cells D 26)).trans (Grows.alloc _ (.cells #[.slice none 0 0, .slice none 0 0, .slice none 0 0, .bool false] 26)))
  have ZW0 : Hid (((w.alloc (.cells D 26)).alloc (.cells #[.slice none 0 0, .slice none 0 0, .slice none 0 0, .bool false] 26)).heap.size = w.heap.size + 2) := by unfold Hid; simp
  have HCD : Hid (FlM.crashD d picks = ⟨FlM.crP picks d.cache d.pages (List.finRange d.cache.length), [], FlM.crB picks d.cache d.pages.length d.bad (List.finRange d.cache.length), d.off⟩) := rfl
  rw [HCD.out]
  obtain ⟨CP, hCP⟩ : ∃ CP, CP = FlM.crP picks d.cache d.pages (List.finRange d.cache.length) := ⟨_, rfl⟩
  obtain ⟨CB, hCB⟩ : ∃ CB, CB = FlM.crB picks d.cache d.pages.length d.bad (List.finRange d.cache.length) := ⟨_, rfl⟩
  rw [← hCP, ← hCB]
  have HCP := Lib.hid hCP; have HCB := Lib.hid hCB
  clear hCP hCB HCD
  go_enter Try.func15, Try.ntmps15
  go_wp2_with (first
    | ((with_reducible refine wpList_load_dk (o := ⟨some 10, _, _, _, _, _⟩) ?_ (.tmp 2) ?_ w.heap.size D ?_ ?_ ?_ ?_); exact rfl; exact rfl; exact rfl; exact R1.out; exact Ds.out.1)
    | (go_at_call 22; (with_reducible refine (rown4_any _ d _ (HV.out.grows HG.out) L1.out L2.out L3.out).mono ?_); rintro e ku1 ⟨r, rfl, hr, g⟩; obtain ⟨pv2, cv2, bv2, rfl, o1, o2, o3⟩ := hr; obtain ⟨A2, c2, rfl, e2, e3, _⟩ := o1.els.form; obtain ⟨A3, c3, rfl, _⟩ := o2.els.form; obtain ⟨A4, c4, rfl, e4, e5, _⟩ := o3.els.form; unfold maxLen at e3 e5; have H4 := Lib.hid (dk_one (d := d) ⟨_, _, _, rfl, o1.els, o2.els, o3.els⟩); have op := o1.more (HG.out).size; have oc := o2.more (HG.out).size; have ob := o3.more (HG.out).size; clear o1 o2 o3; have Zk0 := Lib.hid (Below.size g); have R_D_k1 := Lib.hid (Row.grows R1.out g); have R_R_k1 := Lib.hid (Row.grows R2.out g); have G_k1 := Lib.hid ((HG.out).trans g); have O_p_new := Lib.hid (op); have O_c_new := Lib.hid oc; have O_b_new := Lib.hid ob; clear op oc ob g)
    | ((with_reducible refine wpList_store_dk ?_ (.tmp 5) (.tmp 11) ?_ ku1.heap.size #[.slice A2 d.pages.length c2, .slice A3 d.cache.length c3, .slice A4 d.bad.length c4, .bool d.off] #[.slice none 0 0, .slice none 0 0, .slice none 0 0, .bool false] ?_ ?_ ?_ ?_ ?_ ?_ ?_); exact rfl; exact rfl; exact rfl; exact rfl; exact H4.out.1; exact rfl; exact H4.out.2; exact Row.new ku1 _ _; intro ku2 hp hg; have g := grown_fresh rfl hg; have R_D_k2 := Lib.hid (Row.grows R_D_k1.out g); have R_R_k2 := Lib.hid (Row.grows R_R_k1.out g); have O_p_k2 := Lib.hid (O_p_new.out.grows g); have O_c_k2 := Lib.hid (O_c_new.out.grows g); have O_b_k2 := Lib.hid (O_b_new.out.grows g); have G_k2 := Lib.hid ((G_k1.out).trans g); have R_T_new := Lib.hid hp; have Zk1 := Lib.hid (Row.lt hp); have Zk2 := Lib.hid (Below.size g); clear hp hg g))
  have ZT : Hid (w.heap.size + 2 ≤ ku1.heap.size) := by have zW0 := ZW0.out; have zk0 := Zk0.out; have zk1 := Zk1.out; have zk2 := Zk2.out; unfold Hid; omega
  have I0 := Lib.hid (And.intro R_D_k2.out (And.intro R_R_k2.out (And.intro R_T_new.out (And.intro O_p_k2.out (And.intro O_c_k2.out (And.intro O_b_k2.out G_k2.out))))))
  generalize ku1.heap.size = tb at *
  go_loopw [6] (fun i wr => ∃ (k : Nat) (bw : Value), k ≤ d.cache.length ∧ i = .int .i64 k ∧ Row wr w.heap.size 26 D ∧ Row wr (w.heap.size + 1) 26 #[.slice none 0 0, .slice none 0 0, .slice none 0 0, .bool false] ∧ Row wr tb 26 #[.slice A2 d.pages.length c2, .slice A3 d.cache.length c3, bw, .bool d.off] ∧ Own' 40 256 pageE w.heap.size wr (.slice A2 d.pages.length c2) (FlM.crP picks d.cache d.pages ((List.finRange d.cache.length).take k)) ∧ Own' 42 257 writeE w.heap.size wr (.slice A3 d.cache.length c3) d.cache ∧ Own' 3 1 intE w.heap.size wr bw (FlM.crB picks d.cache d.pages.length d.bad ((List.finRange d.cache.length).take k)) ∧ Grows w wr) (fun i _ => d.cache.length - (intOf i).toNat)
  case atStart => exact ⟨0, _, Nat.zero_le _, rfl, by rw [List.take_zero, FlM.crP_nil, FlM.crB_nil]; exact I0.out⟩
  case round =>
    obtain ⟨k, bw, hk, rfl, h1, h2, h3, h4, h5, h6, h7⟩ := hrel
    have c_D_1 : _ = some _ := (h1.cell 1).trans Ds.out.2.2.1
    have H1 := Lib.hid h1; have H2 := Lib.hid h2; have H3 := Lib.hid h3; have HOp := Lib.hid h4; have HOc := Lib.hid h5; have HOb := Lib.hid h6; have H7 := Lib.hid h7
    have ZTl : Hid (tb < wr.heap.size) := h3.lt
    clear h1 h2 h3 h4 h5 h6 h7 I0
    by_cases hlt : k < d.cache.length
    · obtain ⟨g, o, rfl, hgo, hcA⟩ := HCf.out (by omega)
      have hki : (k : Int) < d.cache.length := by omega
      have e1 : d.cache[k]? = some d.cache[k] := List.getElem?_eq_getElem hlt
      have HY := Lib.hid (rangeAt_keep (hcA k _ e1) (fun a ha => Below.cell H7.out (by omega)))
      have HXL : Hid (d.cache[k].2.length = 256) := by have := HCl.out _ (List.mem_of_getElem? e1); rw [writeE_len] at this; exact Nat.succ.inj this
      have HFS := Lib.hid (FlM.fins_step k hlt)
      have HPS := Lib.hid (FlM.crP_snoc picks d.cache d.pages ((List.finRange d.cache.length).take k) ⟨k, hlt⟩)
      have HBO := Lib.hid (FlM.crB_old picks d.cache d.pages.length d.bad ((List.finRange d.cache.length).take k) ⟨k, hlt⟩)
      have HBN := Lib.hid (FlM.crB_new picks d.cache d.pages.length d.bad ((List.finRange d.cache.length).take k) ⟨k, hlt⟩)
      have HPL := Lib.hid (FlM.crP_length picks d.cache d.pages ((List.finRange d.cache.length).take k))
      have HBL := Lib.hid (FlM.crB_length picks d.cache d.pages.length d.bad ((List.finRange d.cache.length).take k))
      have PKk := Lib.hid (PK.out k (by have := L4.out; omega))
      have hf3 := FlM.fate_lt picks k
      dsimp only at HPS HBO HBN
      clear e1 hcA
      generalize d.cache[k] = x at *
      generalize FlM.fate picks k = f at *
      generalize FlM.crP picks d.cache d.pages ((List.finRange d.cache.length).take k) = ps at *
      generalize FlM.crB picks d.cache d.pages.length d.bad ((List.finRange d.cache.length).take k) = bs at *
      obtain ⟨xa, xp⟩ := x
      dsimp only at HPS HBO HBN HXL
      rw [← HFS.out] at HPS HBO HBN
      unfold FlM.stepP at HPS
      rw [HPL.out] at HPS
      dsimp only at HPS
      by_cases hf0 : f = 0
      · subst hf0
        have hL : FlM.lands d.pages.length 0 xa = false := rfl
        rw [hL, if_neg (by decide)] at HPS
        have HB1 := Lib.hid (HBO.out hL)
        clear hL HBO HBN
        go_wp2_with (first
          | ((with_reducible refine wpList_load_wr (op := ⟨some 23, _, _, _, _, _⟩) ?_ (.tmp 22) ?_ g (o + k * 257) (xa, xp) ?_ ?_ ?_ ?_); exact rfl; exact rfl; exact rfl; exact HXL.out; exact HY.out)
          | ((with_reducible refine wpList_store_wrrow ?_ (.tmp 7) (.tmp 23) ?_ wr.heap.size (xa, xp) (0, VdM.blank) ?_ ?_ ?_ ?_ ?_ ?_); exact rfl; exact rfl; exact rfl; exact rfl; exact HXL.out; exact blank_len; exact Row.new wr _ _; intro ku1 hp hg; have g := grown_fresh rfl hg; have R_D_k1 := Lib.hid (Row.grows H1.out g); have R_R_k1 := Lib.hid (Row.grows H2.out g); have R_T_k1 := Lib.hid (Row.grows H3.out g); have O_p_k1 := Lib.hid (HOp.out.grows g); have O_c_k1 := Lib.hid (HOc.out.grows g); have O_b_k1 := Lib.hid (HOb.out.grows g); have G_k1 := Lib.hid ((H7.out).trans g); have R_W_new := Lib.hid hp; have Zk0 := Lib.hid (Row.lt hp); have Zk1 := Lib.hid (Below.size g); have c_D_1 : _ = some _ := (R_D_k1.out.cell 1).trans Ds.out.2.2.1; have c_T_0 : _ = some _ := (R_T_k1.out.cell 0); clear hp hg g)
          | (go_at_call 31; (with_reducible refine (PKk.out _ G_k1.out).mono ?_); rintro e ku2 ⟨rfl, g⟩; have Zk2 := Lib.hid (Below.size g); have R_D_k2 := Lib.hid (Row.grows R_D_k1.out g); have R_R_k2 := Lib.hid (Row.grows R_R_k1.out g); have R_T_k2 := Lib.hid (Row.grows R_T_k1.out g); have R_W_k2 := Lib.hid (Row.grows R_W_new.out g); have O_p_k2 := Lib.hid (O_p_k1.out.grows g); have O_c_k2 := Lib.hid (O_c_k1.out.grows g); have O_b_k2 := Lib.hid (O_b_k1.out.grows g); have G_k2 := Lib.hid ((G_k1.out).trans g); have c_D_1 : _ = some _ := (R_D_k2.out.cell 1).trans Ds.out.2.2.1; have c_T_0 : _ = some _ := (R_T_k2.out.cell 0); have c_W_0 : _ = some _ := (R_W_k2.out.cell 0).trans (wr_cell0 (xa) xp); clear g))
        go_roundw
        case rel => exact ⟨k + 1, _, by omega, by go_num, R_D_k2.out, R_R_k2.out, R_T_k2.out, by rw [HPS.out]; exact O_p_k2.out, O_c_k2.out, by rw [HB1.out]; exact O_b_k2.out, G_k2.out⟩
        case measure => simp [intOf]; omega
      have hff : f = 1 ∨ f = 2 := by omega
      by_cases ha : 0 ≤ xa
      case neg =>
        have hL : FlM.lands d.pages.length f xa = false := by
          rw [Bool.eq_false_iff, Ne, FlM.lands_iff]; omega
        have ha' : xa < 0 := by omega
        rcases hff with rfl | rfl
        · rw [hL, if_neg (by decide)] at HPS
          have HB1 := Lib.hid (HBO.out hL)
          clear hL HBO HBN
          go_wp2_with (first
            | ((with_reducible refine wpList_load_wr (op := ⟨some 23, _, _, _, _, _⟩) ?_ (.tmp 22) ?_ g (o + k * 257) (xa, xp) ?_ ?_ ?_ ?_); exact rfl; exact rfl; exact rfl; exact HXL.out; exact HY.out)
            | ((with_reducible refine wpList_store_wrrow ?_ (.tmp 7) (.tmp 23) ?_ wr.heap.size (xa, xp) (0, VdM.blank) ?_ ?_ ?_ ?_ ?_ ?_); exact rfl; exact rfl; exact rfl; exact rfl; exact HXL.out; exact blank_len; exact Row.new wr _ _; intro ku1 hp hg; have g := grown_fresh rfl hg; have R_D_k1 := Lib.hid (Row.grows H1.out g); have R_R_k1 := Lib.hid (Row.grows H2.out g); have R_T_k1 := Lib.hid (Row.grows H3.out g); have O_p_k1 := Lib.hid (HOp.out.grows g); have O_c_k1 := Lib.hid (HOc.out.grows g); have O_b_k1 := Lib.hid (HOb.out.grows g); have G_k1 := Lib.hid ((H7.out).trans g); have R_W_new := Lib.hid hp; have Zk0 := Lib.hid (Row.lt hp); have Zk1 := Lib.hid (Below.size g); have c_D_1 : _ = some _ := (R_D_k1.out.cell 1).trans Ds.out.2.2.1; have c_T_0 : _ = some _ := (R_T_k1.out.cell 0); clear hp hg g)
            | (go_at_call 31; (with_reducible refine (PKk.out _ G_k1.out).mono ?_); rintro e ku2 ⟨rfl, g⟩; have Zk2 := Lib.hid (Below.size g); have R_D_k2 := Lib.hid (Row.grows R_D_k1.out g); have R_R_k2 := Lib.hid (Row.grows R_R_k1.out g); have R_T_k2 := Lib.hid (Row.grows R_T_k1.out g); have R_W_k2 := Lib.hid (Row.grows R_W_new.out g); have O_p_k2 := Lib.hid (O_p_k1.out.grows g); have O_c_k2 := Lib.hid (O_c_k1.out.grows g); have O_b_k2 := Lib.hid (O_b_k1.out.grows g); have G_k2 := Lib.hid ((G_k1.out).trans g); have c_D_1 : _ = some _ := (R_D_k2.out.cell 1).trans Ds.out.2.2.1; have c_T_0 : _ = some _ := (R_T_k2.out.cell 0); have c_W_0 : _ = some _ := (R_W_k2.out.cell 0).trans (wr_cell0 (xa) xp); clear g))
          go_roundw
          case rel => exact ⟨k + 1, _, by omega, by go_num, R_D_k2.out, R_R_k2.out, R_T_k2.out, by rw [HPS.out]; exact O_p_k2.out, O_c_k2.out, by rw [HB1.out]; exact O_b_k2.out, G_k2.out⟩
          case measure => simp [intOf]; omega
        · rw [hL, if_neg (by decide)] at HPS
          have HB1 := Lib.hid (HBO.out hL)
          clear hL HBO HBN
          go_wp2_with (first
            | ((with_reducible refine wpList_load_wr (op := ⟨some 23, _, _, _, _, _⟩) ?_ (.tmp 22) ?_ g (o + k * 257) (xa, xp) ?_ ?_ ?_ ?_); exact rfl; exact rfl; exact rfl; exact HXL.out; exact HY.out)
            | ((with_reducible refine wpList_store_wrrow ?_ (.tmp 7) (.tmp 23) ?_ wr.heap.size (xa, xp) (0, VdM.blank) ?_ ?_ ?_ ?_ ?_ ?_); exact rfl; exact rfl; exact rfl; exact rfl; exact HXL.out; exact blank_len; exact Row.new wr _ _; intro ku1 hp hg; have g := grown_fresh rfl hg; have R_D_k1 := Lib.hid (Row.grows H1.out g); have R_R_k1 := Lib.hid (Row.grows H2.out g); have R_T_k1 := Lib.hid (Row.grows H3.out g); have O_p_k1 := Lib.hid (HOp.out.grows g); have O_c_k1 := Lib.hid (HOc.out.grows g); have O_b_k1 := Lib.hid (HOb.out.grows g); have G_k1 := Lib.hid ((H7.out).trans g); have R_W_new := Lib.hid hp; have Zk0 := Lib.hid (Row.lt hp); have Zk1 := Lib.hid (Below.size g); have c_D_1 : _ = some _ := (R_D_k1.out.cell 1).trans Ds.out.2.2.1; have c_T_0 : _ = some _ := (R_T_k1.out.cell 0); clear hp hg g)
            | (go_at_call 31; (with_reducible refine (PKk.out _ G_k1.out).mono ?_); rintro e ku2 ⟨rfl, g⟩; have Zk2 := Lib.hid (Below.size g); have R_D_k2 := Lib.hid (Row.grows R_D_k1.out g); have R_R_k2 := Lib.hid (Row.grows R_R_k1.out g); have R_T_k2 := Lib.hid (Row.grows R_T_k1.out g); have R_W_k2 := Lib.hid (Row.grows R_W_new.out g); have O_p_k2 := Lib.hid (O_p_k1.out.grows g); have O_c_k2 := Lib.hid (O_c_k1.out.grows g); have O_b_k2 := Lib.hid (O_b_k1.out.grows g); have G_k2 := Lib.hid ((G_k1.out).trans g); have c_D_1 : _ = some _ := (R_D_k2.out.cell 1).trans Ds.out.2.2.1; have c_T_0 : _ = some _ := (R_T_k2.out.cell 0); have c_W_0 : _ = some _ := (R_W_k2.out.cell 0).trans (wr_cell0 (xa) xp); clear g))
          go_roundw
          case rel => exact ⟨k + 1, _, by omega, by go_num, R_D_k2.out, R_R_k2.out, R_T_k2.out, by rw [HPS.out]; exact O_p_k2.out, O_c_k2.out, by rw [HB1.out]; exact O_b_k2.out, G_k2.out⟩
          case measure => simp [intOf]; omega
      have ha' : ¬ xa < 0 := by omega
      by_cases hb : xa < d.pages.length
      case neg =>
        have hL : FlM.lands d.pages.length f xa = false := by
          rw [Bool.eq_false_iff, Ne, FlM.lands_iff]; omega
        have hb' : (d.pages.length : Int) ≤ xa := by omega
        rcases hff with rfl | rfl
        · rw [hL, if_neg (by decide)] at HPS
          have HB1 := Lib.hid (HBO.out hL)
          clear hL HBO HBN
          go_wp2_with (first
            | ((with_reducible refine wpList_load_wr (op := ⟨some 23, _, _, _, _, _⟩) ?_ (.tmp 22) ?_ g (o + k * 257) (xa, xp) ?_ ?_ ?_ ?_); exact rfl; exact rfl; exact rfl; exact HXL.out; exact HY.out)
            | ((with_reducible refine wpList_store_wrrow ?_ (.tmp 7) (.tmp 23) ?_ wr.heap.size (xa, xp) (0, VdM.blank) ?_ ?_ ?_ ?_ ?_ ?_); exact rfl; exact rfl; exact rfl; exact rfl; exact HXL.out; exact blank_len; exact Row.new wr _ _; intro ku1 hp hg; have g := grown_fresh rfl hg; have R_D_k1 := Lib.hid (Row.grows H1.out g); have R_R_k1 := Lib.hid (Row.grows H2.out g); have R_T_k1 := Lib.hid (Row.grows H3.out g); have O_p_k1 := Lib.hid (HOp.out.grows g); have O_c_k1 := Lib.hid (HOc.out.grows g); have O_b_k1 := Lib.hid (HOb.out.grows g); have G_k1 := Lib.hid ((H7.out).trans g); have R_W_new := Lib.hid hp; have Zk0 := Lib.hid (Row.lt hp); have Zk1 := Lib.hid (Below.size g); have c_D_1 : _ = some _ := (R_D_k1.out.cell 1).trans Ds.out.2.2.1; have c_T_0 : _ = some _ := (R_T_k1.out.cell 0); clear hp hg g)
            | (go_at_call 31; (with_reducible refine (PKk.out _ G_k1.out).mono ?_); rintro e ku2 ⟨rfl, g⟩; have Zk2 := Lib.hid (Below.size g); have R_D_k2 := Lib.hid (Row.grows R_D_k1.out g); have R_R_k2 := Lib.hid (Row.grows R_R_k1.out g); have R_T_k2 := Lib.hid (Row.grows R_T_k1.out g); have R_W_k2 := Lib.hid (Row.grows R_W_new.out g); have O_p_k2 := Lib.hid (O_p_k1.out.grows g); have O_c_k2 := Lib.hid (O_c_k1.out.grows g); have O_b_k2 := Lib.hid (O_b_k1.out.grows g); have G_k2 := Lib.hid ((G_k1.out).trans g); have c_D_1 : _ = some _ := (R_D_k2.out.cell 1).trans Ds.out.2.2.1; have c_T_0 : _ = some _ := (R_T_k2.out.cell 0); have c_W_0 : _ = some _ := (R_W_k2.out.cell 0).trans (wr_cell0 (xa) xp); clear g))
          go_roundw
          case rel => exact ⟨k + 1, _, by omega, by go_num, R_D_k2.out, R_R_k2.out, R_T_k2.out, by rw [HPS.out]; exact O_p_k2.out, O_c_k2.out, by rw [HB1.out]; exact O_b_k2.out, G_k2.out⟩
          case measure => simp [intOf]; omega
        · rw [hL, if_neg (by decide)] at HPS
          have HB1 := Lib.hid (HBO.out hL)
          clear hL HBO HBN
          go_wp2_with (first
            | ((with_reducible refine wpList_load_wr (op := ⟨some 23, _, _, _, _, _⟩) ?_ (.tmp 22) ?_ g (o + k * 257) (xa, xp) ?_ ?_ ?_ ?_); exact rfl; exact rfl; exact rfl; exact HXL.out; exact HY.out)
            | ((with_reducible refine wpList_store_wrrow ?_ (.tmp 7) (.tmp 23) ?_ wr.heap.size (xa, xp) (0, VdM.blank) ?_ ?_ ?_ ?_ ?_ ?_); exact rfl; exact rfl; exact rfl; exact rfl; exact HXL.out; exact blank_len; exact Row.new wr _ _; intro ku1 hp hg; have g := grown_fresh rfl hg; have R_D_k1 := Lib.hid (Row.grows H1.out g); have R_R_k1 := Lib.hid (Row.grows H2.out g); have R_T_k1 := Lib.hid (Row.grows H3.out g); have O_p_k1 := Lib.hid (HOp.out.grows g); have O_c_k1 := Lib.hid (HOc.out.grows g); have O_b_k1 := Lib.hid (HOb.out.grows g); have G_k1 := Lib.hid ((H7.out).trans g); have R_W_new := Lib.hid hp; have Zk0 := Lib.hid (Row.lt hp); have Zk1 := Lib.hid (Below.size g); have c_D_1 : _ = some _ := (R_D_k1.out.cell 1).trans Ds.out.2.2.1; have c_T_0 : _ = some _ := (R_T_k1.out.cell 0); clear hp hg g)
            | (go_at_call 31; (with_reducible refine (PKk.out _ G_k1.out).mono ?_); rintro e ku2 ⟨rfl, g⟩; have Zk2 := Lib.hid (Below.size g); have R_D_k2 := Lib.hid (Row.grows R_D_k1.out g); have R_R_k2 := Lib.hid (Row.grows R_R_k1.out g); have R_T_k2 := Lib.hid (Row.grows R_T_k1.out g); have R_W_k2 := Lib.hid (Row.grows R_W_new.out g); have O_p_k2 := Lib.hid (O_p_k1.out.grows g); have O_c_k2 := Lib.hid (O_c_k1.out.grows g); have O_b_k2 := Lib.hid (O_b_k1.out.grows g); have G_k2 := Lib.hid ((G_k1.out).trans g); have c_D_1 : _ = some _ := (R_D_k2.out.cell 1).trans Ds.out.2.2.1; have c_T_0 : _ = some _ := (R_T_k2.out.cell 0); have c_W_0 : _ = some _ := (R_W_k2.out.cell 0).trans (wr_cell0 (xa) xp); clear g))
          go_roundw
          case rel => exact ⟨k + 1, _, by omega, by go_num, R_D_k2.out, R_R_k2.out, R_T_k2.out, by rw [HPS.out]; exact O_p_k2.out, O_c_k2.out, by rw [HB1.out]; exact O_b_k2.out, G_k2.out⟩
          case measure => simp [intOf]; omega
      have hb' : ¬ (d.pages.length : Int) ≤ xa := by omega
      have hL : FlM.lands d.pages.length f xa = true := by rw [FlM.lands_iff]; omega
      rw [hL, if_pos rfl] at HPS
      have HB1 := Lib.hid (HBN.out hL)
      clear hL HBO HBN
      obtain ⟨q, rfl⟩ : ∃ q : Nat, xa = q := ⟨xa.toNat, by omega⟩
      rw [Int.toNat_natCast] at HPS
      have hqn : q < d.pages.length := by omega
      have ZPL : Hid (ps.length = d.pages.length) := HPL.out
      obtain ⟨G, cG, eG, _, hG2, hGb, hGl⟩ := HOp.out.at_zero (by rw [HPL.out]; omega)
      rw [HPL.out] at eG
      injection eG with eG1 _ eG2
      subst eG1
      subst eG2
      have ZGb : Hid (w.heap.size ≤ G) := hGb
      have ZGl : Hid (G < wr.heap.size) := hGl
      obtain ⟨old, hold⟩ : ∃ old, ps[q]? = some old := ⟨_, List.getElem?_eq_getElem (by rw [HPL.out]; exact hqn)⟩
      have HOld := Lib.hid hold
      have HOl : Hid (old.length = 256) := by have := HOp.out.1 _ (List.mem_of_getElem? hold); rwa [pageE_len] at this
      rw [hold, Option.getD_some] at HPS
      have HBl2 := Lib.hid (show bs.length ≤ 900000 by have := HBL.out; have := L5.out; omega)
      clear hold hGb hGl hG2
      rcases hff with rfl | rfl
      · rw [show FlM.newP 1 old xp = xp from rfl] at HPS
        go_wp2_with (first
          | ((with_reducible refine wpList_load_wr (op := ⟨some 23, _, _, _, _, _⟩) ?_ (.tmp 22) ?_ g (o + k * 257) ((q : Int), xp) ?_ ?_ ?_ ?_); exact rfl; exact rfl; exact rfl; exact HXL.out; exact HY.out)
          | ((with_reducible refine wpList_store_wrrow ?_ (.tmp 7) (.tmp 23) ?_ wr.heap.size ((q : Int), xp) (0, VdM.blank) ?_ ?_ ?_ ?_ ?_ ?_); exact rfl; exact rfl; exact rfl; exact rfl; exact HXL.out; exact blank_len; exact Row.new wr _ _; intro ku1 hp hg; have g := grown_fresh rfl hg; have R_D_k1 := Lib.hid (Row.grows H1.out g); have R_R_k1 := Lib.hid (Row.grows H2.out g); have R_T_k1 := Lib.hid (Row.grows H3.out g); have O_p_k1 := Lib.hid (HOp.out.grows g); have O_c_k1 := Lib.hid (HOc.out.grows g); have O_b_k1 := Lib.hid (HOb.out.grows g); have G_k1 := Lib.hid ((H7.out).trans g); have R_W_new := Lib.hid hp; have Zk0 := Lib.hid (Row.lt hp); have Zk1 := Lib.hid (Below.size g); have c_D_1 : _ = some _ := (R_D_k1.out.cell 1).trans Ds.out.2.2.1; have c_T_0 : _ = some _ := (R_T_k1.out.cell 0); clear hp hg g)
          | (go_at_call 31; (with_reducible refine (PKk.out _ G_k1.out).mono ?_); rintro e ku2 ⟨rfl, g⟩; have Zk2 := Lib.hid (Below.size g); have R_D_k2 := Lib.hid (Row.grows R_D_k1.out g); have R_R_k2 := Lib.hid (Row.grows R_R_k1.out g); have R_T_k2 := Lib.hid (Row.grows R_T_k1.out g); have R_W_k2 := Lib.hid (Row.grows R_W_new.out g); have O_p_k2 := Lib.hid (O_p_k1.out.grows g); have O_c_k2 := Lib.hid (O_c_k1.out.grows g); have O_b_k2 := Lib.hid (O_b_k1.out.grows g); have G_k2 := Lib.hid ((G_k1.out).trans g); have c_D_1 : _ = some _ := (R_D_k2.out.cell 1).trans Ds.out.2.2.1; have c_T_0 : _ = some _ := (R_T_k2.out.cell 0); have c_W_0 : _ = some _ := (R_W_k2.out.cell 0).trans (wr_cell0 ((q : Int)) xp); clear g)
          | ((with_reducible refine wpList_load_pg (op := ⟨some 43, _, _, _, _, _⟩) ?_ (.tmp 42) ?_ wr.heap.size 1 xp ?_ ?_ ?_ ?_); exact rfl; exact rfl; exact rfl; exact HXL.out; exact (wr_page_at R_W_k2.out))
          | ((with_reducible refine wpList_store_pgrow ?_ (.tmp 9) (.tmp 43) ?_ ku2.heap.size xp VdM.blank ?_ ?_ ?_ ?_ ?_ ?_); exact rfl; exact rfl; exact rfl; exact rfl; exact HXL.out; exact blank_len; exact Row.new ku2 _ _; intro ku3 hp hg; have g := grown_fresh rfl hg; have R_D_k3 := Lib.hid (Row.grows R_D_k2.out g); have R_R_k3 := Lib.hid (Row.grows R_R_k2.out g); have R_T_k3 := Lib.hid (Row.grows R_T_k2.out g); have R_W_k3 := Lib.hid (Row.grows R_W_k2.out g); have O_p_k3 := Lib.hid (O_p_k2.out.grows g); have O_c_k3 := Lib.hid (O_c_k2.out.grows g); have O_b_k3 := Lib.hid (O_b_k2.out.grows g); have G_k3 := Lib.hid ((G_k2.out).trans g); have R_P_new := Lib.hid hp; have Zk3 := Lib.hid (Row.lt hp); have Zk4 := Lib.hid (Below.size g); have c_D_1 : _ = some _ := (R_D_k3.out.cell 1).trans Ds.out.2.2.1; have c_T_0 : _ = some _ := (R_T_k3.out.cell 0); have c_W_0 : _ = some _ := (R_W_k3.out.cell 0).trans (wr_cell0 ((q : Int)) xp); clear hp hg g)
          | ((with_reducible refine wpList_load_pgrow (o := ⟨some 59, _, _, _, _, _⟩) ?_ (.tmp 9) ?_ ku2.heap.size xp ?_ ?_ ?_ ?_); exact rfl; exact rfl; exact rfl; exact HXL.out; exact R_P_new.out)
          | ((with_reducible refine wpList_store_pgown ?_ (.tmp 60) (.tmp 59) ?_ G q xp ps w.heap.size c2 ?_ ?_ HPL.out hqn ?_ ?_ ?_); exact rfl; exact rfl; exact rfl; exact rfl; exact HXL.out; exact O_p_k3.out; intro ku4 ho hg; have R_D_k4 := Lib.hid (row_other O_p_k3.out R_D_k3.out (by decide) hg); have R_R_k4 := Lib.hid (row_other O_p_k3.out R_R_k3.out (by decide) hg); have R_T_k4 := Lib.hid (row_other O_p_k3.out R_T_k3.out (by decide) hg); have R_W_k4 := Lib.hid (row_other O_p_k3.out R_W_k3.out (by decide) hg); have O_p_k4 := Lib.hid ho; have O_c_k4 := Lib.hid (own_other O_c_k3.out O_p_k3.out (by decide) hg); have O_b_k4 := Lib.hid (own_other O_b_k3.out O_p_k3.out (by decide) hg); have G_k4 := Lib.hid (show Grows w _ from (G_k3.out).grown hg (G_k3.out).size (fun k e => own_low O_p_k3.out k e)); have c_D_1 : _ = some _ := (R_D_k4.out.cell 1).trans Ds.out.2.2.1; have c_W_0 : _ = some _ := (R_W_k4.out.cell 0).trans (wr_cell0 ((q : Int)) xp); have c_T_2 : _ = some _ := (R_T_k4.out.cell 2); clear ho hg)
          | (go_at_call 33; (with_reducible refine (rwithout_any _ bs _ _ (O_b_k4.out.els) HBl2.out).mono ?_); rintro e ku5 ⟨r, rfl, ho, g⟩; obtain ⟨A6, c6, rfl, e6, e7, _⟩ := ho.els.form; have ho := ho.more (G_k4.out).size; unfold maxLen at e7; have Zk5 := Lib.hid (Below.size g); have R_D_k5 := Lib.hid (Row.grows R_D_k4.out g); have R_R_k5 := Lib.hid (Row.grows R_R_k4.out g); have R_T_k5 := Lib.hid (Row.grows R_T_k4.out g); have R_W_k5 := Lib.hid (Row.grows R_W_k4.out g); have O_p_k5 := Lib.hid (O_p_k4.out.grows g); have O_c_k5 := Lib.hid (O_c_k4.out.grows g); have O_b_k5 := Lib.hid (O_b_k4.out.grows g); have G_k5 := Lib.hid ((G_k4.out).trans g); have c_D_1 : _ = some _ := (R_D_k5.out.cell 1).trans Ds.out.2.2.1; have c_W_0 : _ = some _ := (R_W_k5.out.cell 0).trans (wr_cell0 ((q : Int)) xp); have c_T_2 : _ = some _ := (R_T_k5.out.cell 2); have O_n_new := Lib.hid ho; generalize (bs.filter fun b => !(b == (q : Int))).length = m6 at *; clear ho g)
          | ((with_reducible refine wpList_store_c ?_ 24 (.tmp 66) (.tmp 65) ?_ tb 2 (.slice A6 m6 c6) #[.slice (some ⟨G, 0, none⟩) d.pages.length c2, .slice A3 d.cache.length c3, bw, .bool d.off] 26 ?_ ?_ ?_ ?_ ?_ ?_ ?_); exact rfl; exact rfl; exact rfl; exact rfl; exact rfl; exact one_bad; exact R_T_k5.out; exact (by simp); intro ku6 hp hg; have R_D_k6 := Lib.hid (R_D_k5.out.grown hg (by have zT := ZT.out; have zTl := ZTl.out; have zk0 := Zk0.out; have zk1 := Zk1.out; have zk2 := Zk2.out; have zGb := ZGb.out; have zGl := ZGl.out; have zk3 := Zk3.out; have zk4 := Zk4.out; have zk5 := Zk5.out; intro e; have e := Option.some.inj e; omega)); have R_R_k6 := Lib.hid (R_R_k5.out.grown hg (by have zT := ZT.out; have zTl := ZTl.out; have zk0 := Zk0.out; have zk1 := Zk1.out; have zk2 := Zk2.out; have zGb := ZGb.out; have zGl := ZGl.out; have zk3 := Zk3.out; have zk4 := Zk4.out; have zk5 := Zk5.out; intro e; have e := Option.some.inj e; omega)); have R_T_k6 := Lib.hid hp; have O_p_k6 := Lib.hid (O_p_k5.out.aside hg R_T_k5.out (by decide)); have O_c_k6 := Lib.hid (O_c_k5.out.aside hg R_T_k5.out (by decide)); have O_b_k6 := Lib.hid (O_b_k5.out.aside hg R_T_k5.out (by decide)); have O_n_k6 := Lib.hid (O_n_new.out.aside hg R_T_k5.out (by decide)); have G_k6 := Lib.hid (show Grows w _ from (G_k5.out).grown hg (G_k5.out).size (by have zT := ZT.out; have zTl := ZTl.out; have zk0 := Zk0.out; have zk1 := Zk1.out; have zk2 := Zk2.out; have zGb := ZGb.out; have zGl := ZGl.out; have zk3 := Zk3.out; have zk4 := Zk4.out; have zk5 := Zk5.out; intro k e; have e := Option.some.inj e; omega)); have c_D_1 : _ = some _ := (R_D_k6.out.cell 1).trans Ds.out.2.2.1; have c_T_2 : _ = some _ := (R_T_k6.out.cell 2); clear hp hg))
        go_roundw
        case rel => exact ⟨k + 1, _, by omega, by go_num, R_D_k6.out, R_R_k6.out, R_T_k6.out, by rw [HPS.out]; exact O_p_k6.out, O_c_k6.out, by rw [HB1.out]; exact O_n_k6.out, G_k6.out⟩
        case measure => simp [intOf]; omega
      · rw [show FlM.newP 2 old xp = PackM.halves old xp from rfl] at HPS
        go_wp2_with (first
          | ((with_reducible refine wpList_load_wr (op := ⟨some 23, _, _, _, _, _⟩) ?_ (.tmp 22) ?_ g (o + k * 257) ((q : Int), xp) ?_ ?_ ?_ ?_); exact rfl; exact rfl; exact rfl; exact HXL.out; exact HY.out)
          | ((with_reducible refine wpList_store_wrrow ?_ (.tmp 7) (.tmp 23) ?_ wr.heap.size ((q : Int), xp) (0, VdM.blank) ?_ ?_ ?_ ?_ ?_ ?_); exact rfl; exact rfl; exact rfl; exact rfl; exact HXL.out; exact blank_len; exact Row.new wr _ _; intro ku1 hp hg; have g := grown_fresh rfl hg; have R_D_k1 := Lib.hid (Row.grows H1.out g); have R_R_k1 := Lib.hid (Row.grows H2.out g); have R_T_k1 := Lib.hid (Row.grows H3.out g); have O_p_k1 := Lib.hid (HOp.out.grows g); have O_c_k1 := Lib.hid (HOc.out.grows g); have O_b_k1 := Lib.hid (HOb.out.grows g); have G_k1 := Lib.hid ((H7.out).trans g); have R_W_new := Lib.hid hp; have Zk0 := Lib.hid (Row.lt hp); have Zk1 := Lib.hid (Below.size g); have c_D_1 : _ = some _ := (R_D_k1.out.cell 1).trans Ds.out.2.2.1; have c_T_0 : _ = some _ := (R_T_k1.out.cell 0); clear hp hg g)
          | (go_at_call 31; (with_reducible refine (PKk.out _ G_k1.out).mono ?_); rintro e ku2 ⟨rfl, g⟩; have Zk2 := Lib.hid (Below.size g); have R_D_k2 := Lib.hid (Row.grows R_D_k1.out g); have R_R_k2 := Lib.hid (Row.grows R_R_k1.out g); have R_T_k2 := Lib.hid (Row.grows R_T_k1.out g); have R_W_k2 := Lib.hid (Row.grows R_W_new.out g); have O_p_k2 := Lib.hid (O_p_k1.out.grows g); have O_c_k2 := Lib.hid (O_c_k1.out.grows g); have O_b_k2 := Lib.hid (O_b_k1.out.grows g); have G_k2 := Lib.hid ((G_k1.out).trans g); have c_D_1 : _ = some _ := (R_D_k2.out.cell 1).trans Ds.out.2.2.1; have c_T_0 : _ = some _ := (R_T_k2.out.cell 0); have c_W_0 : _ = some _ := (R_W_k2.out.cell 0).trans (wr_cell0 ((q : Int)) xp); clear g)
          | ((with_reducible refine wpList_load_pg (op := ⟨some 43, _, _, _, _, _⟩) ?_ (.tmp 42) ?_ wr.heap.size 1 xp ?_ ?_ ?_ ?_); exact rfl; exact rfl; exact rfl; exact HXL.out; exact (wr_page_at R_W_k2.out))
          | ((with_reducible refine wpList_store_pgrow ?_ (.tmp 9) (.tmp 43) ?_ ku2.heap.size xp VdM.blank ?_ ?_ ?_ ?_ ?_ ?_); exact rfl; exact rfl; exact rfl; exact rfl; exact HXL.out; exact blank_len; exact Row.new ku2 _ _; intro ku3 hp hg; have g := grown_fresh rfl hg; have R_D_k3 := Lib.hid (Row.grows R_D_k2.out g); have R_R_k3 := Lib.hid (Row.grows R_R_k2.out g); have R_T_k3 := Lib.hid (Row.grows R_T_k2.out g); have R_W_k3 := Lib.hid (Row.grows R_W_k2.out g); have O_p_k3 := Lib.hid (O_p_k2.out.grows g); have O_c_k3 := Lib.hid (O_c_k2.out.grows g); have O_b_k3 := Lib.hid (O_b_k2.out.grows g); have G_k3 := Lib.hid ((G_k2.out).trans g); have R_P_new := Lib.hid hp; have Zk3 := Lib.hid (Row.lt hp); have Zk4 := Lib.hid (Below.size g); have c_D_1 : _ = some _ := (R_D_k3.out.cell 1).trans Ds.out.2.2.1; have c_T_0 : _ = some _ := (R_T_k3.out.cell 0); have c_W_0 : _ = some _ := (R_W_k3.out.cell 0).trans (wr_cell0 ((q : Int)) xp); clear hp hg g))
        have hnl := Lib.hid (PackM.halves_length old xp HOl.out HXL.out)
        obtain ⟨_, _, eA, _, _, hrx⟩ := (O_p_k3.out).els.form
        obtain ⟨gA, oA, eA2, _, hrx⟩ := hrx (by rw [HPL.out]; omega)
        injection eA with eA eAl eAc
        rw [← eA] at eA2
        injection eA2 with eA2
        injection eA2 with eg1 eg2 _
        subst eg1
        subst eg2
        have YO := Lib.hid (hrx q _ HOld.out)
        clear hrx eA eAl eAc
        rw [Nat.zero_add] at YO
        refine wp_region_free 9 69 (by kernel_rfl) (by kernel_rfl) rfl (by kernel_rfl) ?_; simp only [List.take_succ_cons, List.take_zero, List.drop_succ_cons, List.drop_zero]
        repeat (apply free_pure rfl; focus (intro vs w hg hd; have q0 := hg.cell c_T_0; have q1 := hg.cell c_W_0; (try simp [Region.binds] at hd); simp only [execOp, resolve, Option.map_some, Option.map_none, List.map_toArray, List.map_cons, List.map_nil, rho_const, rho_func]; (repeat (conv in rho _ _ _ _ (Operand.tmp _) => whnf)); (try simp only [hd]); go_simp; (repeat (conv in rho _ _ _ _ (Operand.tmp _) => whnf)); (try simp only [hd]); rfl))
        refine free_op (fun v_ _ => v_ = .agg (pgA old)) rfl (dk_mono _) (fun vs wq hg hd => by
          (try simp [Region.binds] at hd)
          refine dk_load 40 (.tmp 50) ⟨G, q * 256, none⟩ _ rfl ?_ (page_run_load HOl.out (range_grows YO.out (Grows.of_drew hg))) ⟨Grows.refl _, rfl⟩
          (conv in rho _ _ _ _ (Operand.tmp _) => whnf)
          simp [hd]) ?_
        repeat (apply free_pure rfl; focus (intro vs w hg hd; have q0 := hg.cell c_T_0; have q1 := hg.cell c_W_0; (try simp [Region.binds] at hd); simp only [execOp, resolve, Option.map_some, Option.map_none, List.map_toArray, List.map_cons, List.map_nil, rho_const, rho_func]; (repeat (conv in rho _ _ _ _ (Operand.tmp _) => whnf)); (try simp only [hd]); go_simp; (repeat (conv in rho _ _ _ _ (Operand.tmp _) => whnf)); (try simp only [hd]); rfl))
        refine free_op (fun v_ _ => v_ = .agg (pgA xp)) rfl (dk_mono _) (fun vs wq hg hd => by
          (try simp [Region.binds] at hd)
          refine dk_load 40 (.tmp 52) ⟨wr.heap.size, 1, none⟩ _ rfl ?_ (page_run_load HXL.out (range_grows (wr_page_at R_W_k3.out) (Grows.of_drew hg))) ⟨Grows.refl _, rfl⟩
          (conv in rho _ _ _ _ (Operand.tmp _) => whnf)
          simp [hd]) ?_
        refine free_op (fun v_ _ => v_ = .agg (pgA (PackM.halves old xp))) rfl (dk_mono _) (fun vs wq hg hd => by
          (try simp [Region.binds] at hd); simp only [Does]; simp only [execOp, resolve, Option.map_some, Option.map_none, List.map_toArray, List.map_cons, List.map_nil, rho_const, rho_func]; (repeat (conv in rho _ _ _ _ (Operand.tmp _) => whnf)); (try simp only [hd]); go_simp; (repeat (conv in rho _ _ _ _ (Operand.tmp _) => whnf))
          refine (rhalves_pg old xp HOl.out HXL.out _).mono ?_
          rintro e w2 ⟨rfl, hg2⟩
          exact ⟨rfl, hg2⟩) ?_
        intro vs w' hg hv; have h8 := hv 8 (by omega); simp at h8; simp only [putL, dstAt, List.range, List.range.loop, if_true, List.getElem?_toArray, List.getElem?_cons_zero, List.getElem?_cons_succ, Option.bind_some, Act.put, List.setIfInBounds_toArray, List.set_cons_zero, List.set_cons_succ]
        rw [h8]
        have hgW : Grows ku3 w' := Grows.of_drew hg
        have R_D_k4 := Lib.hid (Row.grows R_D_k3.out hgW)
        have R_R_k4 := Lib.hid (Row.grows R_R_k3.out hgW)
        have R_T_k4 := Lib.hid (Row.grows R_T_k3.out hgW)
        have R_W_k4 := Lib.hid (Row.grows R_W_k3.out hgW)
        have R_P_k4 := Lib.hid (Row.grows R_P_new.out hgW)
        have O_p_k4 := Lib.hid (O_p_k3.out.grows hgW)
        have O_c_k4 := Lib.hid (O_c_k3.out.grows hgW)
        have O_b_k4 := Lib.hid (O_b_k3.out.grows hgW)
        have G_k4 := Lib.hid ((G_k3.out).trans hgW)
        have ZgW : Hid (ku3.heap.size ≤ w'.heap.size) := Below.size hgW
        clear hv h8 hg c_T_0 c_W_0 c_D_1
        generalize vs 0 = z0, vs 1 = z1, vs 2 = z2, vs 3 = z3, vs 4 = z4, vs 5 = z5, vs 6 = z6, vs 7 = z7, vs 8 = z8 at *
        have c_D_1 : _ = some _ := (R_D_k4.out.cell 1).trans Ds.out.2.2.1
        have c_T_0 : _ = some _ := (R_T_k4.out.cell 0)
        have c_W_0 : _ = some _ := (R_W_k4.out.cell 0).trans (wr_cell0 ((q : Int)) xp)
        go_wp2_with (first
          | ((with_reducible refine wpList_store_pgrow ?_ (.tmp 9) (.tmp 54) ?_ ku2.heap.size (PackM.halves old xp) xp ?_ ?_ ?_ ?_ ?_ ?_); exact rfl; exact rfl; exact rfl; exact rfl; exact hnl.out; exact HXL.out; exact R_P_k4.out; intro ku4 hp hg; have R_D_k5 := Lib.hid (R_D_k4.out.grown hg (by have zT := ZT.out; have zTl := ZTl.out; have zk0 := Zk0.out; have zk1 := Zk1.out; have zk2 := Zk2.out; have zGb := ZGb.out; have zGl := ZGl.out; have zk3 := Zk3.out; have zk4 := Zk4.out; have zgW := ZgW.out; intro e; have e := Option.some.inj e; omega)); have R_R_k5 := Lib.hid (R_R_k4.out.grown hg (by have zT := ZT.out; have zTl := ZTl.out; have zk0 := Zk0.out; have zk1 := Zk1.out; have zk2 := Zk2.out; have zGb := ZGb.out; have zGl := ZGl.out; have zk3 := Zk3.out; have zk4 := Zk4.out; have zgW := ZgW.out; intro e; have e := Option.some.inj e; omega)); have R_T_k5 := Lib.hid (R_T_k4.out.grown hg (by have zT := ZT.out; have zTl := ZTl.out; have zk0 := Zk0.out; have zk1 := Zk1.out; have zk2 := Zk2.out; have zGb := ZGb.out; have zGl := ZGl.out; have zk3 := Zk3.out; have zk4 := Zk4.out; have zgW := ZgW.out; intro e; have e := Option.some.inj e; omega)); have R_W_k5 := Lib.hid (R_W_k4.out.grown hg (by have zT := ZT.out; have zTl := ZTl.out; have zk0 := Zk0.out; have zk1 := Zk1.out; have zk2 := Zk2.out; have zGb := ZGb.out; have zGl := ZGl.out; have zk3 := Zk3.out; have zk4 := Zk4.out; have zgW := ZgW.out; intro e; have e := Option.some.inj e; omega)); have R_P_k5 := Lib.hid hp; have O_p_k5 := Lib.hid (own_kept O_p_k4.out hg (by have zT := ZT.out; have zTl := ZTl.out; have zk0 := Zk0.out; have zk1 := Zk1.out; have zk2 := Zk2.out; have zGb := ZGb.out; have zGl := ZGl.out; have zk3 := Zk3.out; have zk4 := Zk4.out; have zgW := ZgW.out; intro e; have e := Option.some.inj e; omega)); have O_c_k5 := Lib.hid (O_c_k4.out.aside hg R_P_k4.out (by decide)); have O_b_k5 := Lib.hid (O_b_k4.out.aside hg R_P_k4.out (by decide)); have G_k5 := Lib.hid (show Grows w _ from (G_k4.out).grown hg (G_k4.out).size (by have zT := ZT.out; have zTl := ZTl.out; have zk0 := Zk0.out; have zk1 := Zk1.out; have zk2 := Zk2.out; have zGb := ZGb.out; have zGl := ZGl.out; have zk3 := Zk3.out; have zk4 := Zk4.out; have zgW := ZgW.out; intro k e; have e := Option.some.inj e; omega)); have c_D_1 : _ = some _ := (R_D_k5.out.cell 1).trans Ds.out.2.2.1; have c_T_0 : _ = some _ := (R_T_k5.out.cell 0); have c_W_0 : _ = some _ := (R_W_k5.out.cell 0).trans (wr_cell0 ((q : Int)) xp); clear hp hg)
          | ((with_reducible refine wpList_load_pgrow (o := ⟨some 59, _, _, _, _, _⟩) ?_ (.tmp 9) ?_ ku2.heap.size (PackM.halves old xp) ?_ ?_ ?_ ?_); exact rfl; exact rfl; exact rfl; exact hnl.out; exact R_P_k5.out)
          | ((with_reducible refine wpList_store_pgown ?_ (.tmp 60) (.tmp 59) ?_ G q (PackM.halves old xp) ps w.heap.size c2 ?_ ?_ HPL.out hqn ?_ ?_ ?_); exact rfl; exact rfl; exact rfl; exact rfl; exact hnl.out; exact O_p_k5.out; intro ku5 ho hg; have R_D_k6 := Lib.hid (row_other O_p_k5.out R_D_k5.out (by decide) hg); have R_R_k6 := Lib.hid (row_other O_p_k5.out R_R_k5.out (by decide) hg); have R_T_k6 := Lib.hid (row_other O_p_k5.out R_T_k5.out (by decide) hg); have R_W_k6 := Lib.hid (row_other O_p_k5.out R_W_k5.out (by decide) hg); have O_p_k6 := Lib.hid ho; have O_c_k6 := Lib.hid (own_other O_c_k5.out O_p_k5.out (by decide) hg); have O_b_k6 := Lib.hid (own_other O_b_k5.out O_p_k5.out (by decide) hg); have G_k6 := Lib.hid (show Grows w _ from (G_k5.out).grown hg (G_k5.out).size (fun k e => own_low O_p_k5.out k e)); have c_D_1 : _ = some _ := (R_D_k6.out.cell 1).trans Ds.out.2.2.1; have c_W_0 : _ = some _ := (R_W_k6.out.cell 0).trans (wr_cell0 ((q : Int)) xp); have c_T_2 : _ = some _ := (R_T_k6.out.cell 2); clear ho hg)
          | (go_at_call 33; (with_reducible refine (rwithout_any _ bs _ _ (O_b_k6.out.els) HBl2.out).mono ?_); rintro e ku6 ⟨r, rfl, ho, g⟩; obtain ⟨A6, c6, rfl, e6, e7, _⟩ := ho.els.form; have ho := ho.more (G_k6.out).size; unfold maxLen at e7; have Zk5 := Lib.hid (Below.size g); have R_D_k7 := Lib.hid (Row.grows R_D_k6.out g); have R_R_k7 := Lib.hid (Row.grows R_R_k6.out g); have R_T_k7 := Lib.hid (Row.grows R_T_k6.out g); have R_W_k7 := Lib.hid (Row.grows R_W_k6.out g); have O_p_k7 := Lib.hid (O_p_k6.out.grows g); have O_c_k7 := Lib.hid (O_c_k6.out.grows g); have O_b_k7 := Lib.hid (O_b_k6.out.grows g); have G_k7 := Lib.hid ((G_k6.out).trans g); have c_D_1 : _ = some _ := (R_D_k7.out.cell 1).trans Ds.out.2.2.1; have c_W_0 : _ = some _ := (R_W_k7.out.cell 0).trans (wr_cell0 ((q : Int)) xp); have c_T_2 : _ = some _ := (R_T_k7.out.cell 2); have O_n_new := Lib.hid ho; generalize (bs.filter fun b => !(b == (q : Int))).length = m6 at *; clear ho g)
          | ((with_reducible refine wpList_store_c ?_ 24 (.tmp 66) (.tmp 65) ?_ tb 2 (.slice A6 m6 c6) #[.slice (some ⟨G, 0, none⟩) d.pages.length c2, .slice A3 d.cache.length c3, bw, .bool d.off] 26 ?_ ?_ ?_ ?_ ?_ ?_ ?_); exact rfl; exact rfl; exact rfl; exact rfl; exact rfl; exact one_bad; exact R_T_k7.out; exact (by simp); intro ku7 hp hg; have R_D_k8 := Lib.hid (R_D_k7.out.grown hg (by have zT := ZT.out; have zTl := ZTl.out; have zk0 := Zk0.out; have zk1 := Zk1.out; have zk2 := Zk2.out; have zGb := ZGb.out; have zGl := ZGl.out; have zk3 := Zk3.out; have zk4 := Zk4.out; have zgW := ZgW.out; have zk5 := Zk5.out; intro e; have e := Option.some.inj e; omega)); have R_R_k8 := Lib.hid (R_R_k7.out.grown hg (by have zT := ZT.out; have zTl := ZTl.out; have zk0 := Zk0.out; have zk1 := Zk1.out; have zk2 := Zk2.out; have zGb := ZGb.out; have zGl := ZGl.out; have zk3 := Zk3.out; have zk4 := Zk4.out; have zgW := ZgW.out; have zk5 := Zk5.out; intro e; have e := Option.some.inj e; omega)); have R_T_k8 := Lib.hid hp; have O_p_k8 := Lib.hid (O_p_k7.out.aside hg R_T_k7.out (by decide)); have O_c_k8 := Lib.hid (O_c_k7.out.aside hg R_T_k7.out (by decide)); have O_b_k8 := Lib.hid (O_b_k7.out.aside hg R_T_k7.out (by decide)); have O_n_k8 := Lib.hid (O_n_new.out.aside hg R_T_k7.out (by decide)); have G_k8 := Lib.hid (show Grows w _ from (G_k7.out).grown hg (G_k7.out).size (by have zT := ZT.out; have zTl := ZTl.out; have zk0 := Zk0.out; have zk1 := Zk1.out; have zk2 := Zk2.out; have zGb := ZGb.out; have zGl := ZGl.out; have zk3 := Zk3.out; have zk4 := Zk4.out; have zgW := ZgW.out; have zk5 := Zk5.out; intro k e; have e := Option.some.inj e; omega)); have c_D_1 : _ = some _ := (R_D_k8.out.cell 1).trans Ds.out.2.2.1; have c_T_2 : _ = some _ := (R_T_k8.out.cell 2); clear hp hg))
        go_roundw
        case rel => exact ⟨k + 1, _, by omega, by go_num, R_D_k8.out, R_R_k8.out, R_T_k8.out, by rw [HPS.out]; exact O_p_k8.out, O_c_k8.out, by rw [HB1.out]; exact O_n_k8.out, G_k8.out⟩
        case measure => simp [intOf]; omega
    · obtain rfl : k = d.cache.length := by omega
      rw [FlM.fins_whole, ← HCP.out] at HOp
      rw [FlM.fins_whole, ← HCB.out] at HOb
      obtain ⟨A6, c6, rfl, e6, e7, _⟩ := HOb.out.els.form
      unfold maxLen at e7
      clear HCf
      go_wp2_with (first
        | ((with_reducible refine wpList_store_c ?_ 23 (.tmp 67) (.const (.slice none 0 0)) ?_ tb 1 (.slice none 0 0) #[.slice A2 d.pages.length c2, .slice A3 d.cache.length c3, .slice A6 CB.length c6, .bool d.off] 26 ?_ ?_ ?_ ?_ ?_ ?_ ?_); exact rfl; exact rfl; exact rfl; exact rfl; exact rfl; exact one_cache; exact H3.out; exact (by simp); intro ku1 hp hg; have R_D_k1 := Lib.hid (H1.out.grown hg (by have zT := ZT.out; intro e; have e := Option.some.inj e; omega)); have R_R_k1 := Lib.hid (H2.out.grown hg (by have zT := ZT.out; intro e; have e := Option.some.inj e; omega)); have R_T_k1 := Lib.hid hp; have O_p_k1 := Lib.hid (HOp.out.aside hg H3.out (by decide)); have O_b_k1 := Lib.hid (HOb.out.aside hg H3.out (by decide)); have G_k1 := Lib.hid (show Grows w _ from (H7.out).grown hg (H7.out).size (by have zT := ZT.out; intro k e; have e := Option.some.inj e; omega)); clear hp hg)
        | ((with_reducible refine wpList_load_dk (o := ⟨some 68, _, _, _, _, _⟩) ?_ (.tmp 5) ?_ tb #[.slice A2 d.pages.length c2, .slice none 0 0, .slice A6 CB.length c6, .bool d.off] ?_ ?_ ?_ ?_); exact rfl; exact rfl; exact rfl; exact R_T_k1.out; exact rfl)
        | ((with_reducible refine wpList_store_dk ?_ (.tmp 4) (.tmp 68) ?_ (w.heap.size + 1) #[.slice A2 d.pages.length c2, .slice none 0 0, .slice A6 CB.length c6, .bool d.off] #[.slice none 0 0, .slice none 0 0, .slice none 0 0, .bool false] ?_ ?_ ?_ ?_ ?_ ?_ ?_); exact rfl; exact rfl; exact rfl; exact rfl; exact rfl; exact rfl; exact (by simp [Value.oneCell']); exact R_R_k1.out; intro w6 hw6 hg6))
      refine bodyPost_ret (results_dk (p := 4) (by exact rfl) _ (by exact rfl) (by exact rfl) hw6) rfl ?_
      exact ⟨_, rfl, ⟨_, _, _, rfl, O_p_k1.out.aside hg6 R_R_k1.out (by decide), Own'.nothing _ _ _ _ _, O_b_k1.out.aside hg6 R_R_k1.out (by decide)⟩, (G_k1.out).grown hg6 (G_k1.out).size (fun k e => by cases e; omega)⟩
end Go.Proofs.Ytiagmlokocpboaa
