/-
  DERIVED. GIVEN WITH THE SEED: THE CARDS: each row of YtbokomeejmnnoaaDoorRows.lean that lists a variable, with what it lists TIED to the program's text (the seventh form; the later family's looks); each row that meets fmt, with fmt's text TOLD by the authors' own Lean function (tested against real Go, not proved from fmt's source: count such statements apart). THE CARD IS WHAT COUNTS. Prove the row's statement (the work); the ties are given (YtbokomeejmnnoaaDoorTie.lean); close each card by the builder's one call (the guide's Derived/Test/ToyasCard.lean, 'card_holds'). Laid BY PROGRAM, IN A SANDBOX (cutbox-door.mjs). By AI agents, Wed Nov 11 2026. No macro, syntax, notation, axiom, sorry.
-/
import Derived.Test.YtbokomeejmnnoaaDoorRows
import GoSem.ClaimSeven
namespace Go.Proofs.YtbokomeejmnnoaaDoor
namespace Rows

/-- THE TIED CARD OF 'floodgatelaw3.SideDelays'. -/
def sideDelaysCard : Claim7 := { stood := { row := sideDelaysRow, standIns := [], harness := (true, "832b8e0cfbfe31914d318b5e0b326a95d3fcc346bc4da87192bdcddd826c79e7"), looks := true }, kinds := [], alts := [], goes := true, laidByText := true, laidKinds := [.handle, .sentinel, .sentinel, .sentinel, .sentinel, .sentinel, .sentinel, .sentinel, .sentinel, .sentinel], laidTests := true, laidLooks := .later }
def SideDelaysCardSaid : Prop := Claim7.holds Tryd.pinned (.plain (OpenSpec.ofChange sideDelaysSpec)) sideDelaysCard

/-- THE SECOND FORM's CARD OF 'floodgatelaw3.SideDelays'. -/
def sideDelaysUptoCard : Claim7 := { stood := { row := sideDelaysUptoRow, standIns := [], harness := (true, "832b8e0cfbfe31914d318b5e0b326a95d3fcc346bc4da87192bdcddd826c79e7"), looks := true }, kinds := [], alts := [], goes := true, laidByText := true, laidKinds := [.handle, .sentinel, .sentinel, .sentinel, .sentinel, .sentinel, .sentinel, .sentinel, .sentinel, .sentinel], laidTests := true, laidLooks := .later }
def SideDelaysUptoCardSaid : Prop := Claim7.holds Tryd.pinned (.plain (OpenSpec.upto sideDelaysSpec)) sideDelaysUptoCard
end Rows
end Go.Proofs.YtbokomeejmnnoaaDoor
