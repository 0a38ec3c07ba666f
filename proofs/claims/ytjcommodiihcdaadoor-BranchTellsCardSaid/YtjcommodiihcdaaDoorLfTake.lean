/- LfTake -/
import Derived.Test.YtjcommodiihcdaaDoorLfA
import Derived.Test.YtjcommodiihcdaaDoorFreeG
import Derived.Test.YtjcommodiihcdaaDoorVdA
import Derived.Test.YtjcommodiihcdaaDoorPackTb
import Derived.Test.YtjcommodiihcdaaDoorPackTake
import Derived.Test.YtjcommodiihcdaaDoorPtTake
/- What leaf takes ahead in bytes: a key and where its value stands; a size and a pointer. -/
namespace Go.Proofs.YtjcommodiihcdaaDoor
open Go.RowKit
set_option linter.unusedVariables false
set_option linter.unusedSimpArgs false
namespace LeafM
def tkE (b : List (BitVec 8)) : Int := if PackM.tbE b 8 = 0 then PackM.takeE (PackM.tbR b 8) 1 else PackM.tbE b 8
def tkN (b : List (BitVec 8)) : BitVec 64 := if PackM.tbE b 8 = 0 then PackM.takeN (PackM.tbR b 8) 1 else 0#64
def tkR (b : List (BitVec 8)) : List (BitVec 8) := if PackM.tbE b 8 = 0 then PackM.takeR (PackM.tbR b 8) 1 else PackM.tbR b 8
def toE (b : List (BitVec 8)) : Int := if PackM.takeE b 2 = 0 then PtM.takeE (PackM.takeR b 2) else PackM.takeE b 2
def toP (b : List (BitVec 8)) : Pt := if PackM.takeE b 2 = 0 then PtM.takeP (PackM.takeR b 2) else PtM.none
def toR (b : List (BitVec 8)) : List (BitVec 8) := if PackM.takeE b 2 = 0 then PtM.takeR (PackM.takeR b 2) else PackM.takeR b 2
end LeafM
theorem tbR_len' (b : List (BitVec 8)) (m : Int) : (PackM.tbR b m).length ≤ b.length := by
  unfold PackM.tbR; split
  · rw [List.length_drop]; omega
  · exact Nat.le_refl _
theorem takeR_len' (b : List (BitVec 8)) (m : Int) : (PackM.takeR b m).length ≤ b.length := by
  unfold PackM.takeR; split
  · exact Nat.le_refl _
  · rw [List.length_drop]; omega
theorem results_four {w : World} {fn : Func} {o p q r : Tmp} (h : fn.results = #[.tmp o, .tmp p, .tmp q, .tmp r]) (tmps : Array Value) (s t u v : Value) (ho : tmps.getD o undef = s) (hp : tmps.getD p undef = t) (hq : tmps.getD q undef = u) (hv : tmps.getD r undef = v) :
    (results fn tmps).run Tryd.prog w = .ok (.tuple #[s, t, u, v]) w := by
  have ho' : tmps[o]?.getD undef = s := by simpa using ho
  have hp' : tmps[p]?.getD undef = t := by simpa using hp
  have hq' : tmps[q]?.getD undef = u := by simpa using hq
  have hv' : tmps[r]?.getD undef = v := by simpa using hv
  simp [results, h, ho', hp', hq', hv']
theorem results_pt_four {w : World} {g : Nat} {x : Pt} {fn : Func} {o p q r : Tmp} (h : fn.results = #[.tmp o, .cell p 45, .tmp q, .tmp r]) (tmps : Array Value) (t u v : Value) (ho : tmps.getD o undef = t) (hp : tmps.getD p undef = .pointer (some ⟨g, 0, none⟩)) (hq : tmps.getD q undef = u) (hv : tmps.getD r undef = v) (hr : Row w g 45 (ptA x)) :
    (results fn tmps).run Tryd.prog w = .ok (.tuple #[t, .agg (ptA x), u, v]) w := by
  have ho' : tmps[o]?.getD undef = t := by simpa using ho
  have hp' : tmps[p]?.getD undef = .pointer (some ⟨g, 0, none⟩) := by simpa using hp
  have hq' : tmps[q]?.getD undef = u := by simpa using hq
  have hv' : tmps[r]?.getD undef = v := by simpa using hv
  simp [results, h, ho', hp', hq', hv', asAddr, run_load_pt hr]
end Go.Proofs.YtjcommodiihcdaaDoor
