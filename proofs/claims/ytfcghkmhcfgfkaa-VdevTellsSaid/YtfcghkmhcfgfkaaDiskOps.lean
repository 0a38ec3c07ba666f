/- Pages and writes under the language's '==', loaded and stored in the midst of a block. No function of the program. -/
import Derived.Test.YtfcghkmhcfgfkaaDisk
import Derived.Deep.MidRow
namespace Go.Proofs.Ytfcghkmhcfgfkaa
open Go.RowKit
theorem dk_load {P : Program} {ρ : Operand → Value} {o : Oper} {w : World} {R : Value → World → Prop} (ty : TypeId) (x : Operand) (a : Addr) (v : Value) (ho : o.op = .load ty x) (hx : ρ x = .pointer (some a)) (hl : (loadVar ty a).run P w = .ok v w) (hR : R v w) : Does P o ρ w R := by
  unfold Does execOp
  simp only [ho, hx, Instr.loadAt, Instr.sureAddr, Sem.run_bind, Sem.run_pure, Result.andThen_ok, hl]
  exact hR
theorem dk_mono (v : Value) : ∀ u (w w' : World), u = v → Grows w w' → u = v := fun _ _ _ h _ => h
theorem range_grows {W W' : World} {b o : Nat} {cs : List Value} (h : W.rangeAt b o cs) (hg : Grows W W') : W'.rangeAt b o cs := fun j v hv => hg.cell (h j v hv)
def pgA (p : Pg) : Array Value := (pageE p).toArray
def wrA (x : Int × Pg) : Array Value := (writeE x).toArray
theorem pgA_size (p : Pg) : (pgA p).size = p.length := by simp [pgA, pageE]
theorem wrA_size (x : Int × Pg) : (wrA x).size = x.2.length + 1 := by simp [wrA, writeE]
theorem pageE_len (p : Pg) : (pageE p).length = p.length := by simp [pageE]
theorem writeE_len (x : Int × Pg) : (writeE x).length = x.2.length + 1 := by simp [writeE]
theorem info_u8' : ∃ i, Try.prog.info? 5 = some i := Option.isSome_iff_exists.1 (by kernel_rfl)
theorem pages_equalIn (d : Nat) (a b : Pg) (ha : a.length = 256) (hb : b.length = 256) (w : World) : (Op.equalIn (d + 2) 28 (.agg (pgA a)) (.agg (pgA b))).run Try.prog w = .ok (decide (a = b)) w := by
  obtain ⟨i0, hi⟩ := info_u8'
  have hc : Try.prog.cellsOf 5 = 1 := by kernel_rfl
  rw [run_equalIn_array w (d + 1) (pgA a) (pgA b) Try.underlying28 hi, hc,
    eqItems_ints d Try.underlying5 (pgA a) (pgA b) w (List.range 256) (fun j => bI (a[j]?.getD 0)) (fun j => bI (b[j]?.getD 0)) fun j hj => by
      have hj := List.mem_range.1 hj
      have e1 : a[j]? = some (a[j]'(by omega)) := List.getElem?_eq_getElem (by omega)
      have e2 : b[j]? = some (b[j]'(by omega)) := List.getElem?_eq_getElem (by omega)
      simp [pgA, pageE, byteV, e1, e2]]
  congr 1
  rw [Bool.eq_iff_iff, List.all_eq_true]
  simp only [beq_iff_eq, decide_eq_true_eq, List.mem_range]
  constructor
  · intro h
    apply List.ext_getElem (by omega)
    intro i h1 h2
    have := bI_inj (h i (by omega))
    rwa [List.getElem?_eq_getElem h1, List.getElem?_eq_getElem h2] at this
  · rintro rfl _ _; rfl
theorem page_eq_run (a b : Pg) (ha : a.length = 256) (hb : b.length = 256) (w : World) : (Op.equalIn 10000 28 (.agg (pgA a)) (.agg (pgA b))).run Try.prog w = .ok (decide (a = b)) w := pages_equalIn 9998 a b ha hb w
theorem part_page (x : Int × Pg) (hx : x.2.length = 256) (w : World) : (part 28 (wrA x) 1).run Try.prog w = .ok (.agg (pgA x.2)) w := by
  have hagg : (isAgg 28).run Try.prog w = .ok true w := by
    unfold isAgg
    rw [Sem.run_bind, run_underlying Try.underlying28 w]
    rfl
  obtain ⟨i, hi, hs⟩ : ∃ i, Try.prog.info? 28 = some i ∧ i.size = 256 := Option.map_eq_some_iff.1 (show (Try.prog.info? 28).map (·.size) = some 256 by kernel_rfl)
  have he : (wrA x).extract 1 257 = pgA x.2 := by
    apply Array.ext'
    rw [Array.toList_extract]
    simp only [wrA, writeE, pgA, pageE, List.extract]
    exact List.take_of_length_le (by simp [hx])
  simp [part, hagg, sizeOf, typeInfo, hi, hs, he]
theorem write_eq_run (a b : Int × Pg) (ha : a.2.length = 256) (hb : b.2.length = 256) (w : World) : (Op.equalIn 10000 47 (.agg (wrA a)) (.agg (wrA b))).run Try.prog w = .ok (decide (a = b)) w := by
  have hf : (Try.prog.fieldsOf 47).toList.map (fun f => (f.name, f.type, f.offset)) = [("At", 3, 0), ("Data", 28, 1)] := by kernel_rfl
  rw [show (10000 : Nat) = 9999 + 1 from rfl, run_equalIn_struct w 9999 _ _ _ (show Try.prog.underlying 47 = some (.struct (Try.prog.fieldsOf 47)) by unfold Program.fieldsOf; rw [Try.underlying47]) (by kernel_rfl)]
  generalize (Try.prog.fieldsOf 47).toList = fs at *
  rcases fs with _ | ⟨f0, _ | ⟨f1, _ | ⟨f2, fs⟩⟩⟩
  · simp at hf
  · simp at hf
  · simp only [List.map_cons, List.map_nil, List.cons.injEq, Prod.mk.injEq, and_true] at hf
    obtain ⟨⟨n0, t0, o0⟩, n1, t1, o1⟩ := hf
    have hagg : (isAgg 3).run Try.prog w = .ok false w := by
      unfold isAgg
      rw [Sem.run_bind, run_underlying Try.underlying3 w]
      rfl
    have p1 : (part 3 (wrA a) 0).run Try.prog w = .ok (.int .i64 a.1) w := by simp [part, hagg, wrA, writeE]
    have p2 : (part 3 (wrA b) 0).run Try.prog w = .ok (.int .i64 b.1) w := by simp [part, hagg, wrA, writeE]
    have q : (Op.equalIn 9999 3 (.int .i64 a.1) (.int .i64 b.1)).run Try.prog w = .ok (a.1 == b.1) w := run_equalIn_int (P := Try.prog) w 9998 3 .i64 .i64 a.1 b.1 Try.underlying3
    have q2 : (Op.equalIn 9999 28 (.agg (pgA a.2)) (.agg (pgA b.2))).run Try.prog w = .ok (decide (a.2 = b.2)) w := pages_equalIn 9997 a.2 b.2 ha hb w
    simp [Op.eqFields, n0, n1, t0, t1, o0, o1, p1, p2, q, part_page a ha, part_page b hb, q2]
    obtain ⟨a1, a2⟩ := a
    obtain ⟨b1, b2⟩ := b
    by_cases h1 : a1 = b1 <;> by_cases h2 : a2 = b2 <;> simp [h1, h2]
  · simp at hf
theorem dk_neq_writes {ρ : Operand → Value} {o : Oper} {w : World} (x y : Operand) (p q : Int × Pg) (ty : TypeId) (ho : o.op = .binOp .neq 47 x y ty) (hx : ρ x = .agg (wrA p)) (hy : ρ y = .agg (wrA q)) (hp : p.2.length = 256) (hq : q.2.length = 256) :
    Does Try.prog o ρ w fun v' w' => Grows w w' ∧ v' = .bool (!decide (p = q)) := by
  have h := write_eq_run p q hp hq w
  have h2 : (binOp .neq 47 (.agg (wrA p)) (.agg (wrA q))).run Try.prog w = .ok (.bool (!decide (p = q))) w := by
    rw [run_neq_struct, h]; rfl
  have hT : Try.prog.eqGuardType Try.prog.depth 47 = false := by kernel_rfl
  have hgd : (eqGuard .neq 47 x y (.agg (wrA p)) (.agg (wrA q))).run Try.prog w = .ok () w := by
    unfold eqGuard
    simp [hT]
  unfold Does execOp
  simp only [ho, hx, hy, hgd, h2, Sem.run_bind, Sem.run_pure, Result.andThen_ok]
  exact ⟨Grows.refl _, trivial⟩
section
variable {w : World} {b o : Nat}
theorem page_run_load {p : Pg} (hl : p.length = 256) (h : w.rangeAt b o (pageE p)) : (loadVar 28 ⟨b, o, none⟩).run Try.prog w = .ok (.agg (pgA p)) w :=
  run_loadVar_mid w b o 28 (pageE p) _ h Try.underlying28 rfl (by rw [pageE_len, hl]; kernel_rfl)
theorem write_run_load {x : Int × Pg} (hl : x.2.length = 256) (h : w.rangeAt b o (writeE x)) : (loadVar 47 ⟨b, o, none⟩).run Try.prog w = .ok (.agg (wrA x)) w :=
  run_loadVar_mid w b o 47 (writeE x) _ h Try.underlying47 rfl (by rw [writeE_len, hl]; kernel_rfl)
section
variable {ops : Array Oper} {rest : List Oper} {op : Oper} {a : Act} {Q : Exit → Act → World → Prop}
theorem wpList_load_pg (hgd : op.guard = none) (x : Operand) (ho : op.op = .load 28 x) (b o : Nat) (p : Pg) (hx : a.eval x = .pointer (some ⟨b, o, none⟩)) (hl : p.length = 256) (hr : w.rangeAt b o (pageE p))
    (h : wpList Try.prog ops Q rest (a.put op.dst (.agg (pgA p))) w) : wpList Try.prog ops Q (op :: rest) a w :=
  wpList_load_mid hgd 28 x ho b o hx (pageE p) _ hr Try.underlying28 rfl (by rw [pageE_len, hl]; kernel_rfl) h
theorem wpList_load_wr (hgd : op.guard = none) (x : Operand) (ho : op.op = .load 47 x) (b o : Nat) (p : Int × Pg) (hx : a.eval x = .pointer (some ⟨b, o, none⟩)) (hl : p.2.length = 256) (hr : w.rangeAt b o (writeE p))
    (h : wpList Try.prog ops Q rest (a.put op.dst (.agg (wrA p))) w) : wpList Try.prog ops Q (op :: rest) a w :=
  wpList_load_mid hgd 47 x ho b o hx (writeE p) _ hr Try.underlying47 rfl (by rw [writeE_len, hl]; kernel_rfl) h
theorem wpList_store_pg (hgd : op.guard = none) (x y : Operand) (ho : op.op = .store 28 x y) (b o : Nat) (p : Pg) (hx : a.eval x = .pointer (some ⟨b, o, none⟩)) (hy : a.eval y = .agg (pgA p)) (hl : p.length = 256) (ht : w.there b o 256)
    (h : wpList Try.prog ops Q rest (a.put op.dst undef) (w.setCells b o (pageE p))) : wpList Try.prog ops Q (op :: rest) a w :=
  wpList_store_mid hgd 28 x y ho b o (pgA p) hx hy (by rw [pgA_size, hl]; exact ht) (by rw [pgA_size, hl]; kernel_rfl) (all_oneCell_toArray (pageE_one p)) (by simpa [pgA] using h)
end
end
end Go.Proofs.Ytfcghkmhcfgfkaa
