/- FlWakes -/
import Derived.Test.YtiagmlokocpboaaFlCrash
import Derived.Test.YtiagmlokocpboaaFlFlip
import Derived.Test.YtiagmlokocpboaaFlSpoil
import Derived.Test.YtiagmlokocpboaaVdNew
import Derived.Test.YtiagmlokocpboaaVdWakes
import Derived.Test.YtiagmlokocpboaaVdLaws
/- The statements' wakes of layer 4. -/
namespace Go.Proofs.Ytiagmlokocpboaa
open Go.RowKit
set_option linter.unusedVariables false
set_option linter.unusedSimpArgs false
theorem built_w1 : Try.prog.built 42 [(0, .int .i64 1)] = some (wrA (1, VdM.blank)) := by kernel_rfl
/-- A page, the first k bytes of it sevens. -/
def sevK (k : Nat) : Pg := List.replicate k 7#8 ++ List.replicate (256 - k) 0#8
theorem sevK_len (k : Nat) (h : k ≤ 256) : (sevK k).length = 256 := by unfold sevK; rw [List.length_append, List.length_replicate, List.length_replicate]; omega
theorem sevK_zero : sevK 0 = VdM.blank := by unfold sevK VdM.blank; rw [List.replicate_zero, List.nil_append]
theorem sevK_step (k : Nat) (h : k < 256) : (wrA (1, sevK k)).setIfInBounds (1 + k) (.int .u8 7) = wrA (1, sevK (k + 1)) := by
  have e : (sevK k).set k 7#8 = sevK (k + 1) := by
    apply List.ext_getElem?
    intro i
    unfold sevK
    rw [List.getElem?_set]
    by_cases h1 : k = i
    · subst h1
      rw [if_pos rfl, if_pos (by simp; omega), List.getElem?_append_left (by simp), List.getElem?_replicate, if_pos (by omega)]
    · rw [if_neg h1]
      by_cases h2 : i < k
      · rw [List.getElem?_append_left (by simpa using h2), List.getElem?_append_left (by simp; omega), List.getElem?_replicate, List.getElem?_replicate, if_pos h2, if_pos (by omega)]
      · rw [List.getElem?_append_right (by simp; omega), List.getElem?_append_right (by simp; omega), List.getElem?_replicate, List.getElem?_replicate]
        simp only [List.length_replicate]
        by_cases h3 : i < 256
        · rw [if_pos (by omega), if_pos (by omega)]
        · rw [if_neg (by omega), if_neg (by omega)]
  rw [← e]
  apply Array.ext'
  rw [Array.toList_setIfInBounds]
  unfold wrA writeE
  rw [Nat.add_comm 1 k]
  simp only [List.set_cons_succ, List.map_set]
  rfl
theorem els_row_wr {W : World} {g : Nat} {q : Int × Pg} (hl : q.2.length = 256) (hr : Row W g 42 (wrA q)) : Els 257 writeE W.heap.size W (.slice (some ⟨g, 0, none⟩) 1 1) [q] := by
  refine ⟨fun x hx => ?_, _, 1, rfl, Nat.le_refl _, by decide, fun _ => ⟨g, 0, rfl, hr.lt, fun j u hu => ?_⟩⟩
  · rw [List.mem_singleton.1 hx, writeE_len, hl]
  · rw [Nat.zero_add, hr.cell]
    simpa [wrA] using hu
theorem els_row_int {W : World} {g : Nat} {x : Int} (hr : Row W g 3 #[.int .i64 x]) : Els 1 intE W.heap.size W (.slice (some ⟨g, 0, none⟩) 1 1) [x] := by
  refine ⟨fun y hy => rfl, _, 1, rfl, Nat.le_refl _, by decide, fun _ => ⟨g, 0, rfl, hr.lt, fun j u hu => ?_⟩⟩
  rw [Nat.zero_add, hr.cell]
  simpa [intE] using hu
theorem run_field_off (a b c e : Value) (w : World) : (Instr.field 26 (.agg #[a, b, c, e]) 3).run Try.prog w = .ok e w := by kernel_rfl
theorem run_field_cache (a b c e : Value) (w : World) : (Instr.field 26 (.agg #[a, b, c, e]) 1).run Try.prog w = .ok b w := by kernel_rfl
def dkW : Dk := ⟨[VdM.blank, VdM.blank], [(1, sevK 256)], [1], false⟩
def halfW : Pg := PackM.halves VdM.blank (sevK 256)
def dkC : Dk := ⟨[VdM.blank, halfW], [], [], false⟩
def fivW : Pg := FlM.flipP VdM.blank 3 5#8
def dkF : Dk := ⟨[fivW, VdM.blank], [(1, sevK 256)], [1], false⟩
theorem dkW_crash : FlM.crashD dkW [2#8] = dkC := rfl
theorem dkW_flip : FlM.flipD dkW 0 3 5#8 = dkF := rfl
theorem dkW_flipE : FlM.flipE dkW 0 3 = 0 := rfl
theorem dkW_spoil : FlM.spoilD dkW 2 = dkW := rfl
theorem dkW_spoilE : FlM.spoilE dkW 2 = 2 := rfl
theorem halfW_0 : halfW[0]? = some 7#8 := by decide
theorem halfW_255 : halfW[255]? = some 0#8 := by decide
theorem fivW_3 : fivW[3]? = some 5#8 := by decide
/-- A byte of a page of a row of one's own. -/
theorem Own'.byte {base g cap : Nat} {w : World} {l : List Pg} {n : Nat} (h : Own' 40 256 pageE base w (.slice (some ⟨g, 0, none⟩) n cap) l) (k j : Nat) (p : Pg) (b : BitVec 8) (hk : l[k]? = some p) (hb : p[j]? = some b) : w.cell? ⟨g, k * 256 + j, none⟩ = some (.int .u8 (bI b)) := by
  obtain ⟨A, cap', e, _, _, hr⟩ := h.els.form
  have hkl := (List.getElem?_eq_some_iff.1 hk).1
  obtain ⟨g', o', e2, _, hx⟩ := hr (by omega)
  injection e with e3 _ _
  rw [← e3] at e2
  injection e2 with e2
  injection e2 with e4 e5 _
  subst e4 e5
  have := hx k p hk j (.int .u8 (bI b)) (by unfold pageE; rw [List.getElem?_map, hb]; rfl)
  rwa [Nat.zero_add] at this
set_option maxHeartbeats 8000000 in
set_option maxRecDepth 20000 in
theorem wakes4_any (w : World) :
    Calls Try.prog 8 #[] w fun e w' => e = .returned (.bool true) ∧ Grows w w' := by
  have hz := zero_pg
  have hf3 := run_field_off
  have hf1 := run_field_cache
  have hbl : VdM.blank.length = 256 := blank_len
  have HBL := Lib.hid hbl
  clear hbl
  go_enter Try.func8, Try.ntmps8
  go_wp2_with (first
    | ((with_reducible refine wpList_make_pages ?_ (.const (.int .i64 2)) (.const (.int .i64 2)) ?_ w.heap.size 2 2 ?_ ?_ ?_ ?_ ?_ ?_); exact rfl; exact rfl; exact rfl; exact rfl; exact rfl; decide; exact Nat.le_refl _; intro w1 ho g; have G1 := Lib.hid g; have OP := Lib.hid ho; have Z1 := Lib.hid (own_lt ho _ rfl).2; clear ho g)
    | ((with_reducible refine wpList_build_of (o := ⟨some 9, _, _, _, _, _⟩) (t := 42) (parts := #[(0, .const (.int .i64 1))]) (cells := wrA (1, VdM.blank)) ?_ ?_ ?_ ?_); exact rfl; exact rfl; (simp only [List.map_toArray, List.map_cons, List.map_nil]; exact built_w1))
    | ((with_reducible refine wpList_slice_wr (o := ⟨some 10, _, _, _, _, _⟩) ?_ (.tmp 9) ?_ (1, VdM.blank) ?_ ?_ ?_); exact rfl; exact rfl; exact rfl; exact HBL.out))
  have RW := Lib.hid (((Row.new w1 42 (wrA (1, VdM.blank))).alloc (.cells #[.int .i64 1] 3)).alloc (.cells #[.slice (some ⟨w.heap.size, 0, none⟩) 2 2, .slice (some ⟨w1.heap.size, 0, none⟩) 1 1, .slice (some ⟨w1.heap.size + 1, 0, none⟩) 1 1, .bool false] 26))
  have RI : Hid (Row (((w1.alloc (.cells (wrA (1, VdM.blank)) 42)).alloc (.cells #[.int .i64 1] 3)).alloc (.cells #[.slice (some ⟨w.heap.size, 0, none⟩) 2 2, .slice (some ⟨w1.heap.size, 0, none⟩) 1 1, .slice (some ⟨w1.heap.size + 1, 0, none⟩) 1 1, .bool false] 26)) (w1.heap.size + 1) 3 #[.int .i64 1]) := by
    have := (Row.new (w1.alloc (.cells (wrA (1, VdM.blank)) 42)) 3 #[.int .i64 1]).alloc (.cells #[.slice (some ⟨w.heap.size, 0, none⟩) 2 2, .slice (some ⟨w1.heap.size, 0, none⟩) 1 1, .slice (some ⟨w1.heap.size + 1, 0, none⟩) 1 1, .bool false] 26)
    rwa [World.size_alloc] at this
  have RD : Hid (Row (((w1.alloc (.cells (wrA (1, VdM.blank)) 42)).alloc (.cells #[.int .i64 1] 3)).alloc (.cells #[.slice (some ⟨w.heap.size, 0, none⟩) 2 2, .slice (some ⟨w1.heap.size, 0, none⟩) 1 1, .slice (some ⟨w1.heap.size + 1, 0, none⟩) 1 1, .bool false] 26)) (w1.heap.size + 1 + 1) 26 #[.slice (some ⟨w.heap.size, 0, none⟩) 2 2, .slice (some ⟨w1.heap.size, 0, none⟩) 1 1, .slice (some ⟨w1.heap.size + 1, 0, none⟩) 1 1, .bool false]) := by
    have := Row.new ((w1.alloc (.cells (wrA (1, VdM.blank)) 42)).alloc (.cells #[.int .i64 1] 3)) 26 #[.slice (some ⟨w.heap.size, 0, none⟩) 2 2, .slice (some ⟨w1.heap.size, 0, none⟩) 1 1, .slice (some ⟨w1.heap.size + 1, 0, none⟩) 1 1, .bool false]
    rwa [World.size_alloc, World.size_alloc] at this
  have OP4 := Lib.hid (((OP.out.grows (Grows.alloc _ (.cells (wrA (1, VdM.blank)) 42))).grows (Grows.alloc _ (.cells #[.int .i64 1] 3))).grows (Grows.alloc _ (.cells #[.slice (some ⟨w.heap.size, 0, none⟩) 2 2, .slice (some ⟨w1.heap.size, 0, none⟩) 1 1, .slice (some ⟨w1.heap.size + 1, 0, none⟩) 1 1, .bool false] 26)))
  have G4 := Lib.hid (((G1.out.trans (Grows.alloc _ (.cells (wrA (1, VdM.blank)) 42))).trans (Grows.alloc _ (.cells #[.int .i64 1] 3))).trans (Grows.alloc _ (.cells #[.slice (some ⟨w.heap.size, 0, none⟩) 2 2, .slice (some ⟨w1.heap.size, 0, none⟩) 1 1, .slice (some ⟨w1.heap.size + 1, 0, none⟩) 1 1, .bool false] 26)))
  generalize ((w1.alloc (.cells (wrA (1, VdM.blank)) 42)).alloc (.cells #[.int .i64 1] 3)).alloc (.cells #[.slice (some ⟨w.heap.size, 0, none⟩) 2 2, .slice (some ⟨w1.heap.size, 0, none⟩) 1 1, .slice (some ⟨w1.heap.size + 1, 0, none⟩) 1 1, .bool false] 26) = w4 at *
  have ZB := Lib.hid (Nat.lt_of_le_of_lt (Nat.le_refl _) Z1.out)
  generalize w1.heap.size = B1 at *
  have RW0 : Hid (Row w4 B1 42 (wrA (1, sevK 0))) := by rw [sevK_zero]; exact RW.out
  go_loopw [2] (fun i wr => ∃ k : Nat, k ≤ 256 ∧ i = .int .i64 k ∧ Row wr B1 42 (wrA (1, sevK k)) ∧ Row wr (B1 + 1) 3 #[.int .i64 1] ∧ Row wr (B1 + 1 + 1) 26 #[.slice (some ⟨w.heap.size, 0, none⟩) 2 2, .slice (some ⟨B1, 0, none⟩) 1 1, .slice (some ⟨B1 + 1, 0, none⟩) 1 1, .bool false] ∧ Own' 40 256 pageE w.heap.size wr (.slice (some ⟨w.heap.size, 0, none⟩) 2 2) (List.replicate 2 VdM.blank) ∧ Grows w wr) (fun i _ => 256 - (intOf i).toNat)
  case atStart => exact ⟨0, Nat.zero_le _, rfl, RW0.out, RI.out, RD.out, OP4.out, G4.out⟩
  case round =>
    obtain ⟨k, hk, rfl, h1, h2, h3, h4, h5⟩ := hrel
    clear RW RI RD OP OP4 G4 RW0 G1 Z1
    have H1 := Lib.hid h1; have H2 := Lib.hid h2; have H3 := Lib.hid h3; have H4 := Lib.hid h4; have H5 := Lib.hid h5
    clear h2 h4 h5
    by_cases hlt : k < 256
    · have hki : (k : Int) < 256 := by omega
      have c1 : _ = some _ := h3.cell 1
      have cb : wr.cell? ⟨B1, 1 + k, none⟩ = some (.int .u8 (bI ((sevK k)[k]?.getD 0))) := by
        rw [h1.cell]
        unfold wrA writeE
        rw [Nat.add_comm, List.getElem?_toArray, List.getElem?_cons_succ, List.getElem?_map, List.getElem?_eq_getElem (by rw [sevK_len k hk]; exact hlt)]
        rfl
      have fb := h1.frozen (1 + k)
      have HST := Lib.hid (sevK_step k hlt)
      clear h1 h3
      go_wp2
      go_roundw
      case rel => exact ⟨k + 1, by omega, by go_num, by rw [← HST.out]; exact H1.out.set (1 + k) _, H2.out.far (by first | (simp; done) | (simp; omega)) _, H3.out.far (by first | (simp; done) | (simp; omega)) _, H4.out.aside (setCell_grown _ _ (1 + k) _) H1.out (by decide), show Grows w _ from H5.out.setCell (by have := ZB.out; simp; omega) _⟩
      case measure => simp [intOf]; omega
    · obtain rfl : k = 256 := by omega
      clear h1 h3
      have HD0 : Hid (IsDisk wr.heap.size wr (.agg #[.slice (some ⟨w.heap.size, 0, none⟩) 2 2, .slice (some ⟨B1, 0, none⟩) 1 1, .slice (some ⟨B1 + 1, 0, none⟩) 1 1, .bool false]) dkW) := ⟨_, _, _, rfl, H4.out.els, els_row_wr (sevK_len 256 (Nat.le_refl _)) H1.out, els_row_int H2.out⟩
      have HDW := Lib.hid (fun W (g : Grows wr W) => HD0.out.grows g)
      have HGR := Lib.hid (Grows.refl wr)
      have FC := Lib.hid (fun W pv (h : IsDisk (World.heap W).size W (.agg #[.slice (some ⟨w.heap.size, 0, none⟩) 2 2, .slice (some ⟨B1, 0, none⟩) 1 1, .slice (some ⟨B1 + 1, 0, none⟩) 1 1, .bool false]) dkW) (hp : Bytes (World.heap W).size W pv [2#8]) => flcrash_any _ pv dkW [2#8] W h hp (by decide) (by decide) (by decide) (by decide))
      rw [dkW_crash] at FC
      have FF := Lib.hid (fun W (h : IsDisk (World.heap W).size W (.agg #[.slice (some ⟨w.heap.size, 0, none⟩) 2 2, .slice (some ⟨B1, 0, none⟩) 1 1, .slice (some ⟨B1 + 1, 0, none⟩) 1 1, .bool false]) dkW) => flflip_any _ dkW 0 3 5#8 W h (by decide) (by decide) (by decide))
      rw [dkW_flip, dkW_flipE, show bI 5#8 = 5 from rfl] at FF
      have FS := Lib.hid (fun W (h : IsDisk (World.heap W).size W (.agg #[.slice (some ⟨w.heap.size, 0, none⟩) 2 2, .slice (some ⟨B1, 0, none⟩) 1 1, .slice (some ⟨B1 + 1, 0, none⟩) 1 1, .bool false]) dkW) => flspoil_any _ dkW 2 W h (by decide) (by decide) (by decide) (by decide))
      rw [dkW_spoil, dkW_spoilE] at FS
      have FD := Lib.hid (fun W (h : IsDisk (World.heap W).size W (.agg #[.slice (some ⟨w.heap.size, 0, none⟩) 2 2, .slice (some ⟨B1, 0, none⟩) 1 1, .slice (some ⟨B1 + 1, 0, none⟩) 1 1, .bool false]) dkW) => fldetach_any _ dkW W h (by decide) (by decide) (by decide))
      have HPB : Hid (Bytes (World.heap (wr.alloc (.cells #[.int .u8 2] 5))).size (wr.alloc (.cells #[.int .u8 2] 5)) (.slice (some ⟨wr.heap.size, 0, none⟩) 1 1) [2#8]) := by
        have := Bytes.one wr 2#8
        unfold Hid
        rw [World.size_alloc]
        exact this
      clear H1 H2 H4 HD0 HBL hz
      go_wp2_with (first
        | ((with_reducible refine wpList_load_dk (o := ⟨some 23, _, _, _, _, _⟩) ?_ (.tmp 1) ?_ (B1 + 1 + 1) #[.slice (some ⟨w.heap.size, 0, none⟩) 2 2, .slice (some ⟨B1, 0, none⟩) 1 1, .slice (some ⟨B1 + 1, 0, none⟩) 1 1, .bool false] ?_ ?_ ?_ ?_); exact rfl; exact rfl; exact rfl; exact H3.out; exact rfl)
        | (go_at_call 14; (with_reducible refine (FC.out _ _ (HDW.out _ (HGR.out.trans (Grows.alloc wr (.cells #[.int .u8 2] 5)))) HPB.out).mono ?_); rintro e ku1 ⟨r, rfl, hr, g⟩; have g := ((Grows.alloc wr (.cells #[.int .u8 2] 5))).trans g; obtain ⟨pv1, cv1, bv1, rfl, o1, o2, o3⟩ := hr; obtain ⟨AP1, cP1, hA, _⟩ := o1.els.form; have hA : pv1 = .slice AP1 2 cP1 := hA; subst hA; obtain ⟨AC1, cC1, hA, _⟩ := o2.els.form; have hA : cv1 = .slice AC1 0 cC1 := hA; subst hA; obtain ⟨AB1, cB1, hA, _⟩ := o3.els.form; have hA : bv1 = .slice AB1 0 cB1 := hA; subst hA; have H4c := Lib.hid (dk_one (d := dkC) ⟨_, _, _, rfl, o1.els, o2.els, o3.els⟩); obtain ⟨GC, cc1, eG, _⟩ := o1.at_zero (by decide); injection eG with eG eGl eGc; subst eG; clear eGl eGc; have op := o1.more (Nat.le_trans (H5.out).size (Below.size (Grows.alloc wr (.cells #[.int .u8 2] 5)))); have Zk0 := Lib.hid (Below.size g); have R_D_k1 := Lib.hid (Row.grows H3.out g); have G_k1 := Lib.hid ((H5.out).trans g); have O_c_new := Lib.hid op; have RG1 := Lib.hid (HGR.out.trans g); clear op o1 o2 o3 g)
        | ((with_reducible refine wpList_store_dk ?_ (.tmp 3) (.tmp 25) ?_ ku1.heap.size #[.slice (some ⟨GC, 0, none⟩) 2 cP1, .slice AC1 0 cC1, .slice AB1 0 cB1, .bool false] #[.slice none 0 0, .slice none 0 0, .slice none 0 0, .bool false] ?_ ?_ ?_ ?_ ?_ ?_ ?_); exact rfl; exact rfl; exact rfl; exact rfl; exact H4c.out.1; exact rfl; exact H4c.out.2; exact Row.new ku1 _ _; intro ku2 hp hg; have g := grown_fresh rfl hg; have R_D_k2 := Lib.hid (Row.grows R_D_k1.out g); have O_c_k2 := Lib.hid (O_c_new.out.grows g); have G_k2 := Lib.hid ((G_k1.out).trans g); have R_C_new := Lib.hid hp; have Zk1 := Lib.hid (Row.lt hp); have Zk2 := Lib.hid (Below.size g); have RG2 := Lib.hid (RG1.out.trans g); clear hp hg g)
        | ((with_reducible refine wpList_load_dk (o := ⟨some 27, _, _, _, _, _⟩) ?_ (.tmp 1) ?_ (B1 + 1 + 1) #[.slice (some ⟨w.heap.size, 0, none⟩) 2 2, .slice (some ⟨B1, 0, none⟩) 1 1, .slice (some ⟨B1 + 1, 0, none⟩) 1 1, .bool false] ?_ ?_ ?_ ?_); exact rfl; exact rfl; exact rfl; exact R_D_k2.out; exact rfl)
        | (go_at_call 9; (with_reducible refine (FF.out _ (HDW.out _ RG2.out)).mono ?_); rintro e ku3 ⟨r, rfl, hr, g⟩; obtain ⟨pv2, cv2, bv2, rfl, o1, o2, o3⟩ := hr; obtain ⟨AP2, cP2, hA, _⟩ := o1.els.form; have hA : pv2 = .slice AP2 2 cP2 := hA; subst hA; obtain ⟨AC2, cC2, hA, _⟩ := o2.els.form; have hA : cv2 = .slice AC2 1 cC2 := hA; subst hA; obtain ⟨AB2, cB2, hA, _⟩ := o3.els.form; have hA : bv2 = .slice AB2 1 cB2 := hA; subst hA; have H4f := Lib.hid (dk_one (d := dkF) ⟨_, _, _, rfl, o1.els, o2.els, o3.els⟩); obtain ⟨GF, cf1, eG, _⟩ := o1.at_zero (by decide); injection eG with eG eGl eGc; subst eG; clear eGl eGc; have op := o1.more (G_k2.out).size; clear o1 o2 o3; have Zk3 := Lib.hid (Below.size g); have R_D_k3 := Lib.hid (Row.grows R_D_k2.out g); have R_C_k3 := Lib.hid (Row.grows R_C_new.out g); have O_c_k3 := Lib.hid (O_c_k2.out.grows g); have G_k3 := Lib.hid ((G_k2.out).trans g); have O_f_new := Lib.hid (op); have RG3 := Lib.hid (RG2.out.trans g); clear g)
        | ((with_reducible refine wpList_store_dk ?_ (.tmp 4) (.tmp 29) ?_ ku3.heap.size #[.slice (some ⟨GF, 0, none⟩) 2 cP2, .slice AC2 1 cC2, .slice AB2 1 cB2, .bool false] #[.slice none 0 0, .slice none 0 0, .slice none 0 0, .bool false] ?_ ?_ ?_ ?_ ?_ ?_ ?_); exact rfl; exact rfl; exact rfl; exact rfl; exact H4f.out.1; exact rfl; exact H4f.out.2; exact Row.new ku3 _ _; intro ku4 hp hg; have g := grown_fresh rfl hg; have R_D_k4 := Lib.hid (Row.grows R_D_k3.out g); have R_C_k4 := Lib.hid (Row.grows R_C_k3.out g); have O_c_k4 := Lib.hid (O_c_k3.out.grows g); have O_f_k4 := Lib.hid (O_f_new.out.grows g); have G_k4 := Lib.hid ((G_k3.out).trans g); have R_F_new := Lib.hid hp; have Zk4 := Lib.hid (Row.lt hp); have Zk5 := Lib.hid (Below.size g); have RG4 := Lib.hid (RG3.out.trans g); clear hp hg g)
        | ((with_reducible refine wpList_load_dk (o := ⟨some 32, _, _, _, _, _⟩) ?_ (.tmp 1) ?_ (B1 + 1 + 1) #[.slice (some ⟨w.heap.size, 0, none⟩) 2 2, .slice (some ⟨B1, 0, none⟩) 1 1, .slice (some ⟨B1 + 1, 0, none⟩) 1 1, .bool false] ?_ ?_ ?_ ?_); exact rfl; exact rfl; exact rfl; exact R_D_k4.out; exact rfl)
        | (go_at_call 11; (with_reducible refine (FS.out _ (HDW.out _ RG4.out)).mono ?_); rintro e ku5 ⟨r, rfl, hr, g⟩; obtain ⟨pv3, cv3, bv3, rfl, o1, o2, o3⟩ := hr; have H4s := Lib.hid (dk_one (d := dkW) ⟨_, _, _, rfl, o1.els, o2.els, o3.els⟩); clear o1 o2 o3; have Zk6 := Lib.hid (Below.size g); have R_D_k5 := Lib.hid (Row.grows R_D_k4.out g); have R_C_k5 := Lib.hid (Row.grows R_C_k4.out g); have R_F_k5 := Lib.hid (Row.grows R_F_new.out g); have O_c_k5 := Lib.hid (O_c_k4.out.grows g); have O_f_k5 := Lib.hid (O_f_k4.out.grows g); have G_k5 := Lib.hid ((G_k4.out).trans g); have RG5 := Lib.hid (RG4.out.trans g); clear g)
        | ((with_reducible refine wpList_store_dk ?_ (.tmp 6) (.tmp 34) ?_ ku5.heap.size #[pv3, cv3, bv3, .bool false] #[.slice none 0 0, .slice none 0 0, .slice none 0 0, .bool false] ?_ ?_ ?_ ?_ ?_ ?_ ?_); exact rfl; exact rfl; exact rfl; exact rfl; exact H4s.out.1; exact rfl; exact H4s.out.2; exact Row.new ku5 _ _; intro ku6 hp hg; have g := grown_fresh rfl hg; have R_D_k6 := Lib.hid (Row.grows R_D_k5.out g); have R_C_k6 := Lib.hid (Row.grows R_C_k5.out g); have R_F_k6 := Lib.hid (Row.grows R_F_k5.out g); have O_c_k6 := Lib.hid (O_c_k5.out.grows g); have O_f_k6 := Lib.hid (O_f_k5.out.grows g); have G_k6 := Lib.hid ((G_k5.out).trans g); have R_S_new := Lib.hid hp; have Zk7 := Lib.hid (Row.lt hp); have Zk8 := Lib.hid (Below.size g); have c_C_0 : _ = some _ := (R_C_k6.out.cell 0); have c_C_1 : _ = some _ := (R_C_k6.out.cell 1); have c_C_2 : _ = some _ := (R_C_k6.out.cell 2); have c_F_0 : _ = some _ := (R_F_k6.out.cell 0); have RG6 := Lib.hid (RG5.out.trans g); clear hp hg g; have cb1 : _ = some _ := (O_c_k6.out.byte 1 0 halfW _ rfl halfW_0); have cb2 : _ = some _ := (O_c_k6.out.byte 1 255 halfW _ rfl halfW_255); have cb3 : _ = some _ := (O_f_k6.out.byte 0 3 fivW _ rfl fivW_3); simp at cb1 cb2 cb3)
        | ((with_reducible refine wpList_loadG_dk (o := ⟨some 89, _, _, _, _, _⟩) ?_ (.tmp 1) ?_ (B1 + 1 + 1) #[.slice (some ⟨w.heap.size, 0, none⟩) 2 2, .slice (some ⟨B1, 0, none⟩) 1 1, .slice (some ⟨B1 + 1, 0, none⟩) 1 1, .bool false] ?_ ?_ ?_ ?_); exact rfl; exact rfl; exact rfl; exact R_D_k6.out; exact rfl)
        | (go_at_call 16; (with_reducible refine (FD.out _ (HDW.out _ RG6.out)).mono ?_); rintro e ku7 ⟨r, rfl, hr, g⟩; obtain ⟨pv89, cv89, bv89, rfl, o1, o2, o3⟩ := hr; obtain ⟨AP89, cP89, hA, _⟩ := o1.els.form; have hA : pv89 = .slice AP89 2 cP89 := hA; subst hA; obtain ⟨AC89, cC89, hA, _⟩ := o2.els.form; have hA : cv89 = .slice AC89 0 cC89 := hA; subst hA; obtain ⟨AB89, cB89, hA, _⟩ := o3.els.form; have hA : bv89 = .slice AB89 1 cB89 := hA; subst hA; clear o1 o2 o3; have Zk9 := Lib.hid (Below.size g); have R_D_k7 := Lib.hid (Row.grows R_D_k6.out g); have R_C_k7 := Lib.hid (Row.grows R_C_k6.out g); have R_F_k7 := Lib.hid (Row.grows R_F_k6.out g); have R_S_k7 := Lib.hid (Row.grows R_S_new.out g); have O_c_k7 := Lib.hid (O_c_k6.out.grows g); have O_f_k7 := Lib.hid (O_f_k6.out.grows g); have G_k7 := Lib.hid ((G_k6.out).trans g); have c_C_0 : _ = some _ := (R_C_k7.out.cell 0); have c_C_1 : _ = some _ := (R_C_k7.out.cell 1); have c_C_2 : _ = some _ := (R_C_k7.out.cell 2); have c_F_0 : _ = some _ := (R_F_k7.out.cell 0); have RG7 := Lib.hid (RG6.out.trans g); clear g)
        | ((with_reducible refine wpList_loadG_dk (o := ⟨some 94, _, _, _, _, _⟩) ?_ (.tmp 1) ?_ (B1 + 1 + 1) #[.slice (some ⟨w.heap.size, 0, none⟩) 2 2, .slice (some ⟨B1, 0, none⟩) 1 1, .slice (some ⟨B1 + 1, 0, none⟩) 1 1, .bool false] ?_ ?_ ?_ ?_); exact rfl; exact rfl; exact rfl; exact R_D_k7.out; exact rfl)
        | (go_at_call 16; (with_reducible refine (FD.out _ (HDW.out _ RG7.out)).mono ?_); rintro e ku8 ⟨r, rfl, hr, g⟩; obtain ⟨pv94, cv94, bv94, rfl, o1, o2, o3⟩ := hr; obtain ⟨AP94, cP94, hA, _⟩ := o1.els.form; have hA : pv94 = .slice AP94 2 cP94 := hA; subst hA; obtain ⟨AC94, cC94, hA, _⟩ := o2.els.form; have hA : cv94 = .slice AC94 0 cC94 := hA; subst hA; obtain ⟨AB94, cB94, hA, _⟩ := o3.els.form; have hA : bv94 = .slice AB94 1 cB94 := hA; subst hA; clear o1 o2 o3; have Zk10 := Lib.hid (Below.size g); have R_D_k8 := Lib.hid (Row.grows R_D_k7.out g); have R_C_k8 := Lib.hid (Row.grows R_C_k7.out g); have R_F_k8 := Lib.hid (Row.grows R_F_k7.out g); have R_S_k8 := Lib.hid (Row.grows R_S_k7.out g); have O_c_k8 := Lib.hid (O_c_k7.out.grows g); have O_f_k8 := Lib.hid (O_f_k7.out.grows g); have G_k8 := Lib.hid ((G_k7.out).trans g); have c_C_0 : _ = some _ := (R_C_k8.out.cell 0); have c_C_1 : _ = some _ := (R_C_k8.out.cell 1); have c_C_2 : _ = some _ := (R_C_k8.out.cell 2); have c_F_0 : _ = some _ := (R_F_k8.out.cell 0); have RG8 := Lib.hid (RG7.out.trans g); clear g))
      go_ret
      exact ⟨rfl, G_k8.out⟩
end Go.Proofs.Ytiagmlokocpboaa
