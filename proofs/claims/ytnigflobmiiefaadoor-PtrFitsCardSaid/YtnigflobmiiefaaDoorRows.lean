/-
  NARROWER THAN 'FOR EVERY INPUT', by the rows' own cells (each row's printed sentence says how): PtrTells: laid · PtrBack: laid · PtrFits: laid · PtrWhere: laid.
  DERIVED. THE GIVEN ROWS OF THIS SEAT. 4 by the template 'for every input the law returns true; each argument reads behind the call as it read before'; 0 by the template 'total and deterministic' (their statements: YtnigflobmiiefaaDoorTotals.lean).
  GIVEN WITH THE SEED: the statements are not yours to turn. If you find one false, say at which input.
  Laid BY PROGRAM, IN A SANDBOX (cutbox-rows.mjs): the forced cells as the released guide's own fill.sh prints them over the translation 365ed1b012a33024… (all of the seat's roots in one cut). By AI agents, Wed Nov 11 2026. No macro, syntax, notation, axiom, sorry.
-/
import Derived.Test.YtnigflobmiiefaaDoorChecked
import GoSem.Claim
import GoSem.ClaimJoined
import GoSem.ClaimMapViews
import Derived.JoinedTies
import Derived.KernelRfl
namespace Go.Proofs.YtnigflobmiiefaaDoor
/- THE CELL 'sum', in the pinned program and in every row, IS THE sha256 OF THE DUMP (.gsa) THAT YtnigflobmiiefaaDoorProg.lean LOADS. Nothing in Lean hashes anything: it is a label: what it is worth is what the hold of that sum in a sandbox is worth. -/
noncomputable def Tryd.pinned : Pinned := { name := "ytnigflobmiiefaadoor", sum := "365ed1b012a33024b0ccae74ec4b2cb5539ddfae62f7f96fa4098b6fe2d1f18e", checked := Tryd.checked }
namespace Rows
def none {H : Type} : Left H := { results := [], args := [] }

/- WHAT THE LISTED PACKAGE-LEVEL VARIABLES READ AS WHEN THE CALL BEGINS. Each datum BY PROGRAM (the guide's laid-datum.mjs) off the statement by which the dump's own 'gosem.cut.vars' lays the variable. In a bare row this is a premise. The card (YtnigflobmiiefaaDoorCards.lean) ties it to the program's text. -/
def laid_suture_ptr_widths {H : Type} : DataW H := .agg [.lit (.int .i64 1), .lit (.int .i64 2), .lit (.int .i64 2), .lit (.int .i64 4), .lit (.int .i64 8)]

/-- 'suturelaw05.PtrTells': WHATEVER THE INPUT: true; the input reads as it did. -/
def ptrTellsSpec : ChangeSpec := { name := "ptrTells", fn := fun _ => fun
  | [d1, d2, d3, d4, d5, d6] => { results := [.lit (.bool true)], args := [d1, d2, d3, d4, d5, d6] }
  | _ => none }
def ptrTellsRow : OpenClaim := { program := "ytnigflobmiiefaadoor", sum := "365ed1b012a33024b0ccae74ec4b2cb5539ddfae62f7f96fa4098b6fe2d1f18e", func := "suture/suturelaw05.PtrTells", spec := "ptrTells", unfollowed := true, recurses := true, named := ["suture/ptr.widths"], apart := false, laid := [("suture/ptr.widths", laid_suture_ptr_widths)] }
def PtrTellsSaid : Prop := ptrTellsRow.holds Tryd.pinned (OpenSpec.ofChange ptrTellsSpec)

/-- ITS FALSE NEIGHBOUR: 'it returns false'. Refute it at one input. -/
def ptrTellsWrong : ChangeSpec := { name := "ptrTells", fn := fun _ => fun
  | [d1, d2, d3, d4, d5, d6] => { results := [.lit (.bool false)], args := [d1, d2, d3, d4, d5, d6] }
  | _ => none }
def PtrTellsWrongFalsely : Prop := ptrTellsRow.holds Tryd.pinned (OpenSpec.ofChange ptrTellsWrong)

/-- 'suturelaw05.PtrBack': WHATEVER THE INPUT: true; the input reads as it did. -/
def ptrBackSpec : ChangeSpec := { name := "ptrBack", fn := fun _ => fun
  | [d1, d2, d3] => { results := [.lit (.bool true)], args := [d1, d2, d3] }
  | _ => none }
def ptrBackRow : OpenClaim := { program := "ytnigflobmiiefaadoor", sum := "365ed1b012a33024b0ccae74ec4b2cb5539ddfae62f7f96fa4098b6fe2d1f18e", func := "suture/suturelaw05.PtrBack", spec := "ptrBack", unfollowed := true, recurses := true, named := ["suture/ptr.widths"], apart := false, laid := [("suture/ptr.widths", laid_suture_ptr_widths)] }
def PtrBackSaid : Prop := ptrBackRow.holds Tryd.pinned (OpenSpec.ofChange ptrBackSpec)

/-- ITS FALSE NEIGHBOUR: 'it returns false'. Refute it at one input. -/
def ptrBackWrong : ChangeSpec := { name := "ptrBack", fn := fun _ => fun
  | [d1, d2, d3] => { results := [.lit (.bool false)], args := [d1, d2, d3] }
  | _ => none }
def PtrBackWrongFalsely : Prop := ptrBackRow.holds Tryd.pinned (OpenSpec.ofChange ptrBackWrong)

/-- 'suturelaw05.PtrFits': WHATEVER THE INPUT: true; the input reads as it did. -/
def ptrFitsSpec : ChangeSpec := { name := "ptrFits", fn := fun _ => fun
  | [d1, d2, d3, d4, d5, d6, d7] => { results := [.lit (.bool true)], args := [d1, d2, d3, d4, d5, d6, d7] }
  | _ => none }
def ptrFitsRow : OpenClaim := { program := "ytnigflobmiiefaadoor", sum := "365ed1b012a33024b0ccae74ec4b2cb5539ddfae62f7f96fa4098b6fe2d1f18e", func := "suture/suturelaw05.PtrFits", spec := "ptrFits", unfollowed := true, recurses := true, named := ["suture/ptr.widths"], apart := false, laid := [("suture/ptr.widths", laid_suture_ptr_widths)] }
def PtrFitsSaid : Prop := ptrFitsRow.holds Tryd.pinned (OpenSpec.ofChange ptrFitsSpec)

/-- ITS FALSE NEIGHBOUR: 'it returns false'. Refute it at one input. -/
def ptrFitsWrong : ChangeSpec := { name := "ptrFits", fn := fun _ => fun
  | [d1, d2, d3, d4, d5, d6, d7] => { results := [.lit (.bool false)], args := [d1, d2, d3, d4, d5, d6, d7] }
  | _ => none }
def PtrFitsWrongFalsely : Prop := ptrFitsRow.holds Tryd.pinned (OpenSpec.ofChange ptrFitsWrong)

/-- 'suturelaw05.PtrWhere': WHATEVER THE INPUT: true; the input reads as it did. -/
def ptrWhereSpec : ChangeSpec := { name := "ptrWhere", fn := fun _ => fun
  | [d] => { results := [.lit (.bool true)], args := [d] }
  | _ => none }
def ptrWhereRow : OpenClaim := { program := "ytnigflobmiiefaadoor", sum := "365ed1b012a33024b0ccae74ec4b2cb5539ddfae62f7f96fa4098b6fe2d1f18e", func := "suture/suturelaw05.PtrWhere", spec := "ptrWhere", unfollowed := true, recurses := true, named := ["suture/ptr.widths"], apart := false, laid := [("suture/ptr.widths", laid_suture_ptr_widths)] }
def PtrWhereSaid : Prop := ptrWhereRow.holds Tryd.pinned (OpenSpec.ofChange ptrWhereSpec)

/-- ITS FALSE NEIGHBOUR: 'it returns false'. Refute it at one input. -/
def ptrWhereWrong : ChangeSpec := { name := "ptrWhere", fn := fun _ => fun
  | [d] => { results := [.lit (.bool false)], args := [d] }
  | _ => none }
def PtrWhereWrongFalsely : Prop := ptrWhereRow.holds Tryd.pinned (OpenSpec.ofChange ptrWhereWrong)

/- THE SECOND FORM. 'bulk': how many values and letters a reading holds, each counted each time it is reached (what is shared counts as often as it is met; a slice's spare places count too). A statement '..UptoSaid' is the law's where the arguments, and the package variables that the reading takes, are together of bulk at most 1048576: NARROWER than '..Said'. Prove '..Said' where nothing that the law and all that it calls make is longer than what came in: it says more and counts as full. Else prove '..UptoSaid'. A law counts once. -/
mutual
def uptoBulk {H : Type} : DataW H → Nat
  | .lit (.string bytes) => bytes.length + 1
  | .lit _ => 1
  | .nil => 1
  | .ptr d => uptoBulk d + 1
  | .slice elems spare => uptoBulkAll elems + uptoBulkAll spare + 1
  | .agg parts => uptoBulkAll parts + 1
  | .iface _ d => uptoBulk d + 1
  | .map entries => uptoBulkEntries entries + 1
  | .held _ => 1
def uptoBulkAll {H : Type} : List (DataW H) → Nat
  | [] => 0
  | d :: r => uptoBulk d + uptoBulkAll r
def uptoBulkEntries {H : Type} : List (Lit × DataW H) → Nat
  | [] => 0
  | x :: r => uptoBulkEntry x + uptoBulkEntries r
def uptoBulkEntry {H : Type} : Lit × DataW H → Nat
  | (.string bytes, d) => bytes.length + uptoBulk d + 1
  | (_, d) => uptoBulk d + 1
 end
def uptoSmall : (H : Type) → List (DataW H) → Bool := fun _ ds => decide (uptoBulkAll ds ≤ 1048576)
def OpenSpec.upto (s : _root_.Go.ChangeSpec) : _root_.Go.OpenSpec := { _root_.Go.OpenSpec.ofChange s with cond := some uptoSmall }

/-- 'suturelaw05.PtrTells', WHERE WHAT IT READS IS OF BULK AT MOST 1048576: true; the input reads as it did. -/
def ptrTellsUptoRow : OpenClaim := { program := "ytnigflobmiiefaadoor", sum := "365ed1b012a33024b0ccae74ec4b2cb5539ddfae62f7f96fa4098b6fe2d1f18e", func := "suture/suturelaw05.PtrTells", spec := "ptrTells", unfollowed := true, recurses := true, named := ["suture/ptr.widths"], apart := false, laid := [("suture/ptr.widths", laid_suture_ptr_widths)], narrowed := true }
def PtrTellsUptoSaid : Prop := ptrTellsUptoRow.holds Tryd.pinned (OpenSpec.upto ptrTellsSpec)

/-- 'suturelaw05.PtrBack', WHERE WHAT IT READS IS OF BULK AT MOST 1048576: true; the input reads as it did. -/
def ptrBackUptoRow : OpenClaim := { program := "ytnigflobmiiefaadoor", sum := "365ed1b012a33024b0ccae74ec4b2cb5539ddfae62f7f96fa4098b6fe2d1f18e", func := "suture/suturelaw05.PtrBack", spec := "ptrBack", unfollowed := true, recurses := true, named := ["suture/ptr.widths"], apart := false, laid := [("suture/ptr.widths", laid_suture_ptr_widths)], narrowed := true }
def PtrBackUptoSaid : Prop := ptrBackUptoRow.holds Tryd.pinned (OpenSpec.upto ptrBackSpec)

/-- 'suturelaw05.PtrFits', WHERE WHAT IT READS IS OF BULK AT MOST 1048576: true; the input reads as it did. -/
def ptrFitsUptoRow : OpenClaim := { program := "ytnigflobmiiefaadoor", sum := "365ed1b012a33024b0ccae74ec4b2cb5539ddfae62f7f96fa4098b6fe2d1f18e", func := "suture/suturelaw05.PtrFits", spec := "ptrFits", unfollowed := true, recurses := true, named := ["suture/ptr.widths"], apart := false, laid := [("suture/ptr.widths", laid_suture_ptr_widths)], narrowed := true }
def PtrFitsUptoSaid : Prop := ptrFitsUptoRow.holds Tryd.pinned (OpenSpec.upto ptrFitsSpec)

/-- 'suturelaw05.PtrWhere', WHERE WHAT IT READS IS OF BULK AT MOST 1048576: true; the input reads as it did. -/
def ptrWhereUptoRow : OpenClaim := { program := "ytnigflobmiiefaadoor", sum := "365ed1b012a33024b0ccae74ec4b2cb5539ddfae62f7f96fa4098b6fe2d1f18e", func := "suture/suturelaw05.PtrWhere", spec := "ptrWhere", unfollowed := true, recurses := true, named := ["suture/ptr.widths"], apart := false, laid := [("suture/ptr.widths", laid_suture_ptr_widths)], narrowed := true }
def PtrWhereUptoSaid : Prop := ptrWhereUptoRow.holds Tryd.pinned (OpenSpec.upto ptrWhereSpec)

end Rows
end Go.Proofs.YtnigflobmiiefaaDoor
