/-
  DERIVED. GIVEN WITH THE SEED: THE CARDS: each row of YtnigflobmiiefaaDoorRows.lean that lists a variable, with what it lists TIED to the program's text (the seventh form; the later family's looks); each row that meets fmt, with fmt's text TOLD by the authors' own Lean function (tested against real Go, not proved from fmt's source: count such statements apart). THE CARD IS WHAT COUNTS. Prove the row's statement (the work); the ties are given (YtnigflobmiiefaaDoorTie.lean); close each card by the builder's one call (the guide's Derived/Test/ToyasCard.lean, 'card_holds'). Laid BY PROGRAM, IN A SANDBOX (cutbox-door.mjs). By AI agents, Wed Nov 11 2026. No macro, syntax, notation, axiom, sorry.
-/
import Derived.Test.YtnigflobmiiefaaDoorRows
import GoSem.ClaimSeven
namespace Go.Proofs.YtnigflobmiiefaaDoor
namespace Rows

/-- THE TIED CARD OF 'suturelaw05.PtrTells'. -/
def ptrTellsCard : Claim7 := { stood := { row := ptrTellsRow, standIns := [], harness := (true, "d282172652dbdf34766bf50fd9eccefa1a2210695a8fb66149a472a9153d7991"), looks := false }, kinds := [], alts := [], laidByText := true, laidKinds := [.data], laidTests := true, laidLooks := .later }
def PtrTellsCardSaid : Prop := Claim7.holds Tryd.pinned (.plain (OpenSpec.ofChange ptrTellsSpec)) ptrTellsCard

/-- THE TIED CARD OF 'suturelaw05.PtrBack'. -/
def ptrBackCard : Claim7 := { stood := { row := ptrBackRow, standIns := [], harness := (true, "d282172652dbdf34766bf50fd9eccefa1a2210695a8fb66149a472a9153d7991"), looks := false }, kinds := [], alts := [], laidByText := true, laidKinds := [.data], laidTests := true, laidLooks := .later }
def PtrBackCardSaid : Prop := Claim7.holds Tryd.pinned (.plain (OpenSpec.ofChange ptrBackSpec)) ptrBackCard

/-- THE TIED CARD OF 'suturelaw05.PtrFits'. -/
def ptrFitsCard : Claim7 := { stood := { row := ptrFitsRow, standIns := [], harness := (true, "d282172652dbdf34766bf50fd9eccefa1a2210695a8fb66149a472a9153d7991"), looks := false }, kinds := [], alts := [], laidByText := true, laidKinds := [.data], laidTests := true, laidLooks := .later }
def PtrFitsCardSaid : Prop := Claim7.holds Tryd.pinned (.plain (OpenSpec.ofChange ptrFitsSpec)) ptrFitsCard

/-- THE TIED CARD OF 'suturelaw05.PtrWhere'. -/
def ptrWhereCard : Claim7 := { stood := { row := ptrWhereRow, standIns := [], harness := (true, "d282172652dbdf34766bf50fd9eccefa1a2210695a8fb66149a472a9153d7991"), looks := false }, kinds := [], alts := [], laidByText := true, laidKinds := [.data], laidTests := true, laidLooks := .later }
def PtrWhereCardSaid : Prop := Claim7.holds Tryd.pinned (.plain (OpenSpec.ofChange ptrWhereSpec)) ptrWhereCard

/-- THE SECOND FORM's CARD OF 'suturelaw05.PtrTells'. -/
def ptrTellsUptoCard : Claim7 := { stood := { row := ptrTellsUptoRow, standIns := [], harness := (true, "d282172652dbdf34766bf50fd9eccefa1a2210695a8fb66149a472a9153d7991"), looks := false }, kinds := [], alts := [], laidByText := true, laidKinds := [.data], laidTests := true, laidLooks := .later }
def PtrTellsUptoCardSaid : Prop := Claim7.holds Tryd.pinned (.plain (OpenSpec.upto ptrTellsSpec)) ptrTellsUptoCard

/-- THE SECOND FORM's CARD OF 'suturelaw05.PtrBack'. -/
def ptrBackUptoCard : Claim7 := { stood := { row := ptrBackUptoRow, standIns := [], harness := (true, "d282172652dbdf34766bf50fd9eccefa1a2210695a8fb66149a472a9153d7991"), looks := false }, kinds := [], alts := [], laidByText := true, laidKinds := [.data], laidTests := true, laidLooks := .later }
def PtrBackUptoCardSaid : Prop := Claim7.holds Tryd.pinned (.plain (OpenSpec.upto ptrBackSpec)) ptrBackUptoCard

/-- THE SECOND FORM's CARD OF 'suturelaw05.PtrFits'. -/
def ptrFitsUptoCard : Claim7 := { stood := { row := ptrFitsUptoRow, standIns := [], harness := (true, "d282172652dbdf34766bf50fd9eccefa1a2210695a8fb66149a472a9153d7991"), looks := false }, kinds := [], alts := [], laidByText := true, laidKinds := [.data], laidTests := true, laidLooks := .later }
def PtrFitsUptoCardSaid : Prop := Claim7.holds Tryd.pinned (.plain (OpenSpec.upto ptrFitsSpec)) ptrFitsUptoCard

/-- THE SECOND FORM's CARD OF 'suturelaw05.PtrWhere'. -/
def ptrWhereUptoCard : Claim7 := { stood := { row := ptrWhereUptoRow, standIns := [], harness := (true, "d282172652dbdf34766bf50fd9eccefa1a2210695a8fb66149a472a9153d7991"), looks := false }, kinds := [], alts := [], laidByText := true, laidKinds := [.data], laidTests := true, laidLooks := .later }
def PtrWhereUptoCardSaid : Prop := Claim7.holds Tryd.pinned (.plain (OpenSpec.upto ptrWhereSpec)) ptrWhereUptoCard
end Rows
end Go.Proofs.YtnigflobmiiefaaDoor
