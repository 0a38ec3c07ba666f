/- A write as it is put together, and a slice of one write. No function of the program. -/
import Derived.Test.YtfcghkmhcfgfkaaDiskOps
import Derived.Great.FillDense
import Derived.Great.Walk
import Derived.Laws.Tables
namespace Go.Proofs.Ytfcghkmhcfgfkaa
open Go.RowKit
theorem fill_two {places : Nat → Option (Nat × Nat)} {n : Nat} (p0 : places 0 = some (0, 1)) (p1 : places 1 = some (1, n)) (z : Array Value) (hz : z.size = n + 1) (u : Value) (hu : u.cells = #[u]) (v : Array Value) (hv : v.size = n) :
    Instr.fill places z [(0, u), (1, .agg v)] = some (u :: v.toList).toArray := by
  have h1 : (Value.agg v).cells = v := rfl
  unfold Instr.fill
  simp only [p0, hu]
  rw [if_neg (by simp; first | omega | (rintro rfl; simp at hz))]
  unfold Instr.fill
  simp only [p1, h1]
  rw [if_neg (by
    simp only [hv]
    have hs : (Array.foldl (fun cs (x : Value × Nat) => cs.setIfInBounds (0 + x.2) x.1) z (#[u].zipIdx)).size = n + 1 := by rw [← Array.foldl_toList, Array.toList_zipIdx]; exact (Great.foldl_set 0 [u] 0 z).1.trans hz
    simp only [hs]
    simp
    omega)]
  unfold Instr.fill
  congr 1
  rw [← Array.foldl_toList, Array.toList_zipIdx, ← Array.foldl_toList, Array.toList_zipIdx]
  obtain ⟨a1, a2⟩ := Great.foldl_set 0 [u] 0 z
  obtain ⟨b1, b2⟩ := Great.foldl_set 1 v.toList 0 (([u].zipIdx 0).foldl (fun cs (x : Value × Nat) => cs.setIfInBounds (0 + x.2) x.1) z)
  apply Array.ext_getElem?
  intro k
  refine (b2 k).trans ?_
  rw [a2 k, a1]
  simp only [List.length_cons, List.length_nil, Array.length_toList]
  cases k with
  | zero => simp [hz]
  | succ k =>
    by_cases hk : k < n
    · rw [if_pos (by omega)]
      simp
    · rw [if_neg (by omega), if_neg (by omega), Array.getElem?_eq_none (by omega)]
      simp
      omega
theorem built_write (n : Int) (p : Pg) (hl : p.length = 256) : Try.prog.built 47 [(0, .int .i64 n), (1, .agg (pgA p))] = some (wrA (n, p)) := by
  have hi : (Try.prog.info? 47).bind (fun i => i.zero.map (·.cells.size)) = some 257 := by kernel_rfl
  obtain ⟨it, hit, hz⟩ := Option.bind_eq_some_iff.1 hi
  obtain ⟨z, hz, hzs⟩ := Option.map_eq_some_iff.1 hz
  have hp : (Try.prog.fieldsOf 47).toList.mapM (fun f => (Try.prog.info? f.type).map fun i => (f.offset, i.size)) = some [(0, 1), (1, 256)] := by kernel_rfl
  have hu : Try.prog.underlying 47 = some (.struct (Try.prog.fieldsOf 47)) := by unfold Program.fieldsOf; rw [Try.underlying47]
  unfold Program.built
  rw [hit, hu]
  simp only [hz, hp]
  rw [fill_two (n := 256) rfl rfl z.cells (by rw [hzs]) _ rfl (pgA p) (by rw [pgA_size, hl])]
  rfl
theorem builtSlice_write (x : Int × Pg) (hl : x.2.length = 256) : Try.prog.builtSlice 47 1 [(0, .agg (wrA x))] = some (wrA x) := by
  have hi : (Try.prog.info? 47).bind (fun i => i.zero.map (fun z => (z.cells.size, i.size))) = some (257, 257) := by kernel_rfl
  obtain ⟨it, hit, hz⟩ := Option.bind_eq_some_iff.1 hi
  obtain ⟨z, hz, hzs⟩ := Option.map_eq_some_iff.1 hz
  simp only [Prod.mk.injEq] at hzs
  obtain ⟨h1, h2⟩ := hzs
  unfold Program.builtSlice
  rw [hit]
  simp only [hz, h2, Nat.one_mul]
  rw [if_neg (by omega)]
  have := Great.fill_whole (s := 257) (by omega) [.agg (wrA x)] ((Array.range 257).map (z.cells[· % z.cells.size]!)) (by intro v hv; rw [List.mem_singleton.1 hv]; show (wrA x).size = 257; rw [wrA_size, hl]) (by simp)
  simp only [List.zipIdx_cons, List.zipIdx_nil, List.map_cons, List.map_nil] at this
  rw [this]
  simp [Value.cells, wrA]
end Go.Proofs.Ytfcghkmhcfgfkaa
