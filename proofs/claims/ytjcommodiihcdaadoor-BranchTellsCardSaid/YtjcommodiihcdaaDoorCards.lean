/-
  DERIVED. GIVEN WITH THE SEED: THE CARDS: each row of YtjcommodiihcdaaDoorRows.lean that lists a variable, with what it lists TIED to the program's text (the seventh form; the later family's looks); each row that meets fmt, with fmt's text TOLD by the authors' own Lean function (tested against real Go, not proved from fmt's source: count such statements apart). THE CARD IS WHAT COUNTS. Prove the row's statement (the work); the ties are given (YtjcommodiihcdaaDoorTie.lean); close each card by the builder's one call (the guide's Derived/Test/ToyasCard.lean, 'card_holds'). Laid BY PROGRAM, IN A SANDBOX (cutbox-door.mjs). By AI agents, Wed Nov 11 2026. No macro, syntax, notation, axiom, sorry.
-/
import Derived.Test.YtjcommodiihcdaaDoorRows
import GoSem.ClaimSeven
namespace Go.Proofs.YtjcommodiihcdaaDoor
namespace Rows

/-- THE TIED CARD OF 'suturelaw07.BranchTells'. -/
def branchTellsCard : Claim7 := { stood := { row := branchTellsRow, standIns := [], harness := (true, "227e8655cb87b76349dd30d60d1e5f9cb9025a3c829ae0ba924790c66ebb5608"), looks := false }, kinds := [], alts := [], laidByText := true, laidKinds := [.data], laidTests := true, laidLooks := .later }
def BranchTellsCardSaid : Prop := Claim7.holds Tryd.pinned (.plain (OpenSpec.ofChange branchTellsSpec)) branchTellsCard

/-- THE TIED CARD OF 'suturelaw07.BranchBack'. -/
def branchBackCard : Claim7 := { stood := { row := branchBackRow, standIns := [], harness := (true, "227e8655cb87b76349dd30d60d1e5f9cb9025a3c829ae0ba924790c66ebb5608"), looks := false }, kinds := [], alts := [], laidByText := true, laidKinds := [.data], laidTests := true, laidLooks := .later }
def BranchBackCardSaid : Prop := Claim7.holds Tryd.pinned (.plain (OpenSpec.ofChange branchBackSpec)) branchBackCard

/-- THE TIED CARD OF 'suturelaw07.BranchJust'. -/
def branchJustCard : Claim7 := { stood := { row := branchJustRow, standIns := [], harness := (true, "227e8655cb87b76349dd30d60d1e5f9cb9025a3c829ae0ba924790c66ebb5608"), looks := false }, kinds := [], alts := [], laidByText := true, laidKinds := [.data], laidTests := true, laidLooks := .later }
def BranchJustCardSaid : Prop := Claim7.holds Tryd.pinned (.plain (OpenSpec.ofChange branchJustSpec)) branchJustCard

/-- THE TIED CARD OF 'suturelaw07.BranchOwn'. -/
def branchOwnCard : Claim7 := { stood := { row := branchOwnRow, standIns := [], harness := (true, "227e8655cb87b76349dd30d60d1e5f9cb9025a3c829ae0ba924790c66ebb5608"), looks := false }, kinds := [], alts := [], laidByText := true, laidKinds := [.data], laidTests := true, laidLooks := .later }
def BranchOwnCardSaid : Prop := Claim7.holds Tryd.pinned (.plain (OpenSpec.ofChange branchOwnSpec)) branchOwnCard

/-- THE TIED CARD OF 'suturelaw07.BranchBirth'. -/
def branchBirthCard : Claim7 := { stood := { row := branchBirthRow, standIns := [], harness := (true, "227e8655cb87b76349dd30d60d1e5f9cb9025a3c829ae0ba924790c66ebb5608"), looks := false }, kinds := [], alts := [], laidByText := true, laidKinds := [.data], laidTests := true, laidLooks := .later }
def BranchBirthCardSaid : Prop := Claim7.holds Tryd.pinned (.plain (OpenSpec.ofChange branchBirthSpec)) branchBirthCard

/-- THE SECOND FORM's CARD OF 'suturelaw07.BranchTells'. -/
def branchTellsUptoCard : Claim7 := { stood := { row := branchTellsUptoRow, standIns := [], harness := (true, "227e8655cb87b76349dd30d60d1e5f9cb9025a3c829ae0ba924790c66ebb5608"), looks := false }, kinds := [], alts := [], laidByText := true, laidKinds := [.data], laidTests := true, laidLooks := .later }
def BranchTellsUptoCardSaid : Prop := Claim7.holds Tryd.pinned (.plain (OpenSpec.upto branchTellsSpec)) branchTellsUptoCard

/-- THE SECOND FORM's CARD OF 'suturelaw07.BranchBack'. -/
def branchBackUptoCard : Claim7 := { stood := { row := branchBackUptoRow, standIns := [], harness := (true, "227e8655cb87b76349dd30d60d1e5f9cb9025a3c829ae0ba924790c66ebb5608"), looks := false }, kinds := [], alts := [], laidByText := true, laidKinds := [.data], laidTests := true, laidLooks := .later }
def BranchBackUptoCardSaid : Prop := Claim7.holds Tryd.pinned (.plain (OpenSpec.upto branchBackSpec)) branchBackUptoCard

/-- THE SECOND FORM's CARD OF 'suturelaw07.BranchJust'. -/
def branchJustUptoCard : Claim7 := { stood := { row := branchJustUptoRow, standIns := [], harness := (true, "227e8655cb87b76349dd30d60d1e5f9cb9025a3c829ae0ba924790c66ebb5608"), looks := false }, kinds := [], alts := [], laidByText := true, laidKinds := [.data], laidTests := true, laidLooks := .later }
def BranchJustUptoCardSaid : Prop := Claim7.holds Tryd.pinned (.plain (OpenSpec.upto branchJustSpec)) branchJustUptoCard

/-- THE SECOND FORM's CARD OF 'suturelaw07.BranchOwn'. -/
def branchOwnUptoCard : Claim7 := { stood := { row := branchOwnUptoRow, standIns := [], harness := (true, "227e8655cb87b76349dd30d60d1e5f9cb9025a3c829ae0ba924790c66ebb5608"), looks := false }, kinds := [], alts := [], laidByText := true, laidKinds := [.data], laidTests := true, laidLooks := .later }
def BranchOwnUptoCardSaid : Prop := Claim7.holds Tryd.pinned (.plain (OpenSpec.upto branchOwnSpec)) branchOwnUptoCard

/-- THE SECOND FORM's CARD OF 'suturelaw07.BranchBirth'. -/
def branchBirthUptoCard : Claim7 := { stood := { row := branchBirthUptoRow, standIns := [], harness := (true, "227e8655cb87b76349dd30d60d1e5f9cb9025a3c829ae0ba924790c66ebb5608"), looks := false }, kinds := [], alts := [], laidByText := true, laidKinds := [.data], laidTests := true, laidLooks := .later }
def BranchBirthUptoCardSaid : Prop := Claim7.holds Tryd.pinned (.plain (OpenSpec.upto branchBirthSpec)) branchBirthUptoCard
end Rows
end Go.Proofs.YtjcommodiihcdaaDoor
