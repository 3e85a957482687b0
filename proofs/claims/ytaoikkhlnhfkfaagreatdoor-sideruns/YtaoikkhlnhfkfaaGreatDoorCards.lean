/-
  DERIVED. GIVEN WITH THE SEED: THE CARDS: each row of YtaoikkhlnhfkfaaGreatDoorRows.lean that lists a variable, with what it lists TIED to the program's text (the seventh form; the later family's looks); each row that meets fmt, with fmt's text TOLD by the authors' own Lean function (tested against real Go, not proved from fmt's source: count such statements apart). THE CARD IS WHAT COUNTS. Prove the row's statement (the work); the ties are given (YtaoikkhlnhfkfaaGreatDoorTie.lean); close each card by the builder's one call (the guide's Derived/Test/ToyasCard.lean, 'card_holds'). Laid BY PROGRAM, IN A SANDBOX (cutbox-door.mjs). By AI agents, Wed Nov 11 2026. No macro, syntax, notation, axiom, sorry.
-/
import Derived.Test.YtaoikkhlnhfkfaaGreatDoorRows
import GoSem.ClaimSeven
namespace Go.Proofs.YtaoikkhlnhfkfaaGreatDoor
namespace Rows

/-- THE TIED CARD OF 'floodgatelaw3.SideRuns'. -/
def sideRunsCard : Claim7 := { stood := { row := sideRunsRow, standIns := [], harness := (true, "6a29eccd824d630e9e0b465fd9a5917e9377546417446cb394ab569e324b4395"), looks := true }, kinds := [], alts := [], goes := true, laidByText := true, laidKinds := [.handle, .sentinel, .sentinel, .sentinel, .sentinel, .sentinel, .sentinel, .sentinel, .sentinel, .sentinel], laidTests := true, laidLooks := .later }
def SideRunsCardSaid : Prop := Claim7.holds Tryz.pinned (.plain (OpenSpec.ofChange sideRunsSpec)) sideRunsCard

/-- THE SECOND FORM's CARD OF 'floodgatelaw3.SideRuns'. -/
def sideRunsUptoCard : Claim7 := { stood := { row := sideRunsUptoRow, standIns := [], harness := (true, "6a29eccd824d630e9e0b465fd9a5917e9377546417446cb394ab569e324b4395"), looks := true }, kinds := [], alts := [], goes := true, laidByText := true, laidKinds := [.handle, .sentinel, .sentinel, .sentinel, .sentinel, .sentinel, .sentinel, .sentinel, .sentinel, .sentinel], laidTests := true, laidLooks := .later }
def SideRunsUptoCardSaid : Prop := Claim7.holds Tryz.pinned (.plain (OpenSpec.upto sideRunsSpec)) sideRunsUptoCard
end Rows
end Go.Proofs.YtaoikkhlnhfkfaaGreatDoor
