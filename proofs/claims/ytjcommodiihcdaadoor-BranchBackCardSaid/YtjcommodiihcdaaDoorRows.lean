/-
  NARROWER THAN 'FOR EVERY INPUT', by the rows' own cells (each row's printed sentence says how): BranchTells: laid · BranchBack: laid · BranchJust: laid · BranchOwn: laid · BranchBirth: laid.
  DERIVED. THE GIVEN ROWS OF THIS SEAT. 5 by the template 'for every input the law returns true; each argument reads behind the call as it read before'; 0 by the template 'total and deterministic' (their statements: YtjcommodiihcdaaDoorTotals.lean).
  GIVEN WITH THE SEED: the statements are not yours to turn. If you find one false, say at which input.
  Laid BY PROGRAM, IN A SANDBOX (cutbox-rows.mjs): the forced cells as the released guide's own fill.sh prints them over the translation 276899bf60700ef3… (all of the seat's roots in one cut). By AI agents, Wed Nov 11 2026. No macro, syntax, notation, axiom, sorry.
-/
import Derived.Test.YtjcommodiihcdaaDoorChecked
import GoSem.Claim
import GoSem.ClaimJoined
import GoSem.ClaimMapViews
import Derived.JoinedTies
import Derived.KernelRfl
namespace Go.Proofs.YtjcommodiihcdaaDoor
/- THE CELL 'sum', in the pinned program and in every row, IS THE sha256 OF THE DUMP (.gsa) THAT YtjcommodiihcdaaDoorProg.lean LOADS. Nothing in Lean hashes anything: it is a label: what it is worth is what the hold of that sum in a sandbox is worth. -/
noncomputable def Tryd.pinned : Pinned := { name := "ytjcommodiihcdaadoor", sum := "276899bf60700ef36e86fde60e2298afabe947ed9a8c7f3f493eb6c33cbbd34e", checked := Tryd.checked }
namespace Rows
def none {H : Type} : Left H := { results := [], args := [] }

/- WHAT THE LISTED PACKAGE-LEVEL VARIABLES READ AS WHEN THE CALL BEGINS. Each datum BY PROGRAM (the guide's laid-datum.mjs) off the statement by which the dump's own 'gosem.cut.vars' lays the variable. In a bare row this is a premise. The card (YtjcommodiihcdaaDoorCards.lean) ties it to the program's text. -/
def laid_suture_ptr_widths {H : Type} : DataW H := .agg [.lit (.int .i64 1), .lit (.int .i64 2), .lit (.int .i64 2), .lit (.int .i64 4), .lit (.int .i64 8)]

/-- 'suturelaw07.BranchTells': WHATEVER THE INPUT: true; the input reads as it did. -/
def branchTellsSpec : ChangeSpec := { name := "branchTells", fn := fun _ => fun
  | [d1, d2, d3] => { results := [.lit (.bool true)], args := [d1, d2, d3] }
  | _ => none }
def branchTellsRow : OpenClaim := { program := "ytjcommodiihcdaadoor", sum := "276899bf60700ef36e86fde60e2298afabe947ed9a8c7f3f493eb6c33cbbd34e", func := "suture/suturelaw07.BranchTells", spec := "branchTells", inPlace := ["internal/bytealg.Compare"], unfollowed := true, recurses := true, named := ["suture/ptr.widths"], apart := false, laid := [("suture/ptr.widths", laid_suture_ptr_widths)] }
def BranchTellsSaid : Prop := branchTellsRow.holds Tryd.pinned (OpenSpec.ofChange branchTellsSpec)

/-- ITS FALSE NEIGHBOUR: 'it returns false'. Refute it at one input. -/
def branchTellsWrong : ChangeSpec := { name := "branchTells", fn := fun _ => fun
  | [d1, d2, d3] => { results := [.lit (.bool false)], args := [d1, d2, d3] }
  | _ => none }
def BranchTellsWrongFalsely : Prop := branchTellsRow.holds Tryd.pinned (OpenSpec.ofChange branchTellsWrong)

/-- 'suturelaw07.BranchBack': WHATEVER THE INPUT: true; the input reads as it did. -/
def branchBackSpec : ChangeSpec := { name := "branchBack", fn := fun _ => fun
  | [d1, d2, d3] => { results := [.lit (.bool true)], args := [d1, d2, d3] }
  | _ => none }
def branchBackRow : OpenClaim := { program := "ytjcommodiihcdaadoor", sum := "276899bf60700ef36e86fde60e2298afabe947ed9a8c7f3f493eb6c33cbbd34e", func := "suture/suturelaw07.BranchBack", spec := "branchBack", inPlace := ["internal/bytealg.Compare"], unfollowed := true, recurses := true, named := ["suture/ptr.widths"], apart := false, laid := [("suture/ptr.widths", laid_suture_ptr_widths)] }
def BranchBackSaid : Prop := branchBackRow.holds Tryd.pinned (OpenSpec.ofChange branchBackSpec)

/-- ITS FALSE NEIGHBOUR: 'it returns false'. Refute it at one input. -/
def branchBackWrong : ChangeSpec := { name := "branchBack", fn := fun _ => fun
  | [d1, d2, d3] => { results := [.lit (.bool false)], args := [d1, d2, d3] }
  | _ => none }
def BranchBackWrongFalsely : Prop := branchBackRow.holds Tryd.pinned (OpenSpec.ofChange branchBackWrong)

/-- 'suturelaw07.BranchJust': WHATEVER THE INPUT: true; the input reads as it did. -/
def branchJustSpec : ChangeSpec := { name := "branchJust", fn := fun _ => fun
  | [d] => { results := [.lit (.bool true)], args := [d] }
  | _ => none }
def branchJustRow : OpenClaim := { program := "ytjcommodiihcdaadoor", sum := "276899bf60700ef36e86fde60e2298afabe947ed9a8c7f3f493eb6c33cbbd34e", func := "suture/suturelaw07.BranchJust", spec := "branchJust", inPlace := ["internal/bytealg.Compare"], unfollowed := true, recurses := true, named := ["suture/ptr.widths"], apart := false, laid := [("suture/ptr.widths", laid_suture_ptr_widths)] }
def BranchJustSaid : Prop := branchJustRow.holds Tryd.pinned (OpenSpec.ofChange branchJustSpec)

/-- ITS FALSE NEIGHBOUR: 'it returns false'. Refute it at one input. -/
def branchJustWrong : ChangeSpec := { name := "branchJust", fn := fun _ => fun
  | [d] => { results := [.lit (.bool false)], args := [d] }
  | _ => none }
def BranchJustWrongFalsely : Prop := branchJustRow.holds Tryd.pinned (OpenSpec.ofChange branchJustWrong)

/-- 'suturelaw07.BranchOwn': WHATEVER THE INPUT: true; the input reads as it did. -/
def branchOwnSpec : ChangeSpec := { name := "branchOwn", fn := fun _ => fun
  | [d] => { results := [.lit (.bool true)], args := [d] }
  | _ => none }
def branchOwnRow : OpenClaim := { program := "ytjcommodiihcdaadoor", sum := "276899bf60700ef36e86fde60e2298afabe947ed9a8c7f3f493eb6c33cbbd34e", func := "suture/suturelaw07.BranchOwn", spec := "branchOwn", inPlace := ["internal/bytealg.Compare"], unfollowed := true, recurses := true, named := ["suture/ptr.widths"], apart := false, laid := [("suture/ptr.widths", laid_suture_ptr_widths)] }
def BranchOwnSaid : Prop := branchOwnRow.holds Tryd.pinned (OpenSpec.ofChange branchOwnSpec)

/-- ITS FALSE NEIGHBOUR: 'it returns false'. Refute it at one input. -/
def branchOwnWrong : ChangeSpec := { name := "branchOwn", fn := fun _ => fun
  | [d] => { results := [.lit (.bool false)], args := [d] }
  | _ => none }
def BranchOwnWrongFalsely : Prop := branchOwnRow.holds Tryd.pinned (OpenSpec.ofChange branchOwnWrong)

/-- 'suturelaw07.BranchBirth': WHATEVER THE INPUT: true; the input reads as it did. -/
def branchBirthSpec : ChangeSpec := { name := "branchBirth", fn := fun _ => fun
  | [d] => { results := [.lit (.bool true)], args := [d] }
  | _ => none }
def branchBirthRow : OpenClaim := { program := "ytjcommodiihcdaadoor", sum := "276899bf60700ef36e86fde60e2298afabe947ed9a8c7f3f493eb6c33cbbd34e", func := "suture/suturelaw07.BranchBirth", spec := "branchBirth", inPlace := ["internal/bytealg.Compare"], unfollowed := true, recurses := true, named := ["suture/ptr.widths"], apart := false, laid := [("suture/ptr.widths", laid_suture_ptr_widths)] }
def BranchBirthSaid : Prop := branchBirthRow.holds Tryd.pinned (OpenSpec.ofChange branchBirthSpec)

/-- ITS FALSE NEIGHBOUR: 'it returns false'. Refute it at one input. -/
def branchBirthWrong : ChangeSpec := { name := "branchBirth", fn := fun _ => fun
  | [d] => { results := [.lit (.bool false)], args := [d] }
  | _ => none }
def BranchBirthWrongFalsely : Prop := branchBirthRow.holds Tryd.pinned (OpenSpec.ofChange branchBirthWrong)

/- THE SECOND FORM. 'bulk': how many values and letters a reading holds, each counted each time it is reached (what is shared counts as often as it is met; a slice's spare places count too). A statement '..UptoSaid' is the law's where the arguments, and the package variables that the reading takes, are together of bulk at most 1048576: NARROWER than '..Said'. Prove '..Said' where nothing that the law and all that it calls make is longer than what came in: it says more and counts as full. Else prove '..UptoSaid'. A law counts once. -/
mutual
def uptoBulk {H : Type} : DataW H → Nat
  | .lit (.string bytes) => bytes.length + 1
  | .lit _ => 1
  | .nil => 1
  | .ptr d => uptoBulk d + 1
  | .slice elems spare => uptoBulkAll elems + uptoBulkAll spare + 1
  | .agg parts => uptoBulkAll parts + 1
  | .iface _ d => uptoBulk d + 1
  | .map entries => uptoBulkEntries entries + 1
  | .held _ => 1
def uptoBulkAll {H : Type} : List (DataW H) → Nat
  | [] => 0
  | d :: r => uptoBulk d + uptoBulkAll r
def uptoBulkEntries {H : Type} : List (Lit × DataW H) → Nat
  | [] => 0
  | x :: r => uptoBulkEntry x + uptoBulkEntries r
def uptoBulkEntry {H : Type} : Lit × DataW H → Nat
  | (.string bytes, d) => bytes.length + uptoBulk d + 1
  | (_, d) => uptoBulk d + 1
 end
def uptoSmall : (H : Type) → List (DataW H) → Bool := fun _ ds => decide (uptoBulkAll ds ≤ 1048576)
def OpenSpec.upto (s : _root_.Go.ChangeSpec) : _root_.Go.OpenSpec := { _root_.Go.OpenSpec.ofChange s with cond := some uptoSmall }

/-- 'suturelaw07.BranchTells', WHERE WHAT IT READS IS OF BULK AT MOST 1048576: true; the input reads as it did. -/
def branchTellsUptoRow : OpenClaim := { program := "ytjcommodiihcdaadoor", sum := "276899bf60700ef36e86fde60e2298afabe947ed9a8c7f3f493eb6c33cbbd34e", func := "suture/suturelaw07.BranchTells", spec := "branchTells", inPlace := ["internal/bytealg.Compare"], unfollowed := true, recurses := true, named := ["suture/ptr.widths"], apart := false, laid := [("suture/ptr.widths", laid_suture_ptr_widths)], narrowed := true }
def BranchTellsUptoSaid : Prop := branchTellsUptoRow.holds Tryd.pinned (OpenSpec.upto branchTellsSpec)

/-- 'suturelaw07.BranchBack', WHERE WHAT IT READS IS OF BULK AT MOST 1048576: true; the input reads as it did. -/
def branchBackUptoRow : OpenClaim := { program := "ytjcommodiihcdaadoor", sum := "276899bf60700ef36e86fde60e2298afabe947ed9a8c7f3f493eb6c33cbbd34e", func := "suture/suturelaw07.BranchBack", spec := "branchBack", inPlace := ["internal/bytealg.Compare"], unfollowed := true, recurses := true, named := ["suture/ptr.widths"], apart := false, laid := [("suture/ptr.widths", laid_suture_ptr_widths)], narrowed := true }
def BranchBackUptoSaid : Prop := branchBackUptoRow.holds Tryd.pinned (OpenSpec.upto branchBackSpec)

/-- 'suturelaw07.BranchJust', WHERE WHAT IT READS IS OF BULK AT MOST 1048576: true; the input reads as it did. -/
def branchJustUptoRow : OpenClaim := { program := "ytjcommodiihcdaadoor", sum := "276899bf60700ef36e86fde60e2298afabe947ed9a8c7f3f493eb6c33cbbd34e", func := "suture/suturelaw07.BranchJust", spec := "branchJust", inPlace := ["internal/bytealg.Compare"], unfollowed := true, recurses := true, named := ["suture/ptr.widths"], apart := false, laid := [("suture/ptr.widths", laid_suture_ptr_widths)], narrowed := true }
def BranchJustUptoSaid : Prop := branchJustUptoRow.holds Tryd.pinned (OpenSpec.upto branchJustSpec)

/-- 'suturelaw07.BranchOwn', WHERE WHAT IT READS IS OF BULK AT MOST 1048576: true; the input reads as it did. -/
def branchOwnUptoRow : OpenClaim := { program := "ytjcommodiihcdaadoor", sum := "276899bf60700ef36e86fde60e2298afabe947ed9a8c7f3f493eb6c33cbbd34e", func := "suture/suturelaw07.BranchOwn", spec := "branchOwn", inPlace := ["internal/bytealg.Compare"], unfollowed := true, recurses := true, named := ["suture/ptr.widths"], apart := false, laid := [("suture/ptr.widths", laid_suture_ptr_widths)], narrowed := true }
def BranchOwnUptoSaid : Prop := branchOwnUptoRow.holds Tryd.pinned (OpenSpec.upto branchOwnSpec)

/-- 'suturelaw07.BranchBirth', WHERE WHAT IT READS IS OF BULK AT MOST 1048576: true; the input reads as it did. -/
def branchBirthUptoRow : OpenClaim := { program := "ytjcommodiihcdaadoor", sum := "276899bf60700ef36e86fde60e2298afabe947ed9a8c7f3f493eb6c33cbbd34e", func := "suture/suturelaw07.BranchBirth", spec := "branchBirth", inPlace := ["internal/bytealg.Compare"], unfollowed := true, recurses := true, named := ["suture/ptr.widths"], apart := false, laid := [("suture/ptr.widths", laid_suture_ptr_widths)], narrowed := true }
def BranchBirthUptoSaid : Prop := branchBirthUptoRow.holds Tryd.pinned (OpenSpec.upto branchBirthSpec)

end Rows
end Go.Proofs.YtjcommodiihcdaaDoor
