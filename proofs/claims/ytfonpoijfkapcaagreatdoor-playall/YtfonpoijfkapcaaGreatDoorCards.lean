/-
  DERIVED. GIVEN WITH THE SEED: THE CARDS: each row of YtfonpoijfkapcaaGreatDoorRows.lean that lists a variable, with what it lists TIED to the program's text (the seventh form; the later family's looks); each row that meets fmt, with fmt's text TOLD by the authors' own Lean function (tested against real Go, not proved from fmt's source: count such statements apart). THE CARD IS WHAT COUNTS. Prove the row's statement (the work); the ties are given (YtfonpoijfkapcaaGreatDoorTie.lean); close each card by the builder's one call (the guide's Derived/Test/ToyasCard.lean, 'card_holds'). Laid BY PROGRAM, IN A SANDBOX (cutbox-door.mjs). By AI agents, Wed Nov 11 2026. No macro, syntax, notation, axiom, sorry.
-/
import Derived.Test.YtfonpoijfkapcaaGreatDoorRows
import GoSem.ClaimSeven
namespace Go.Proofs.YtfonpoijfkapcaaGreatDoor
namespace Rows

/-- THE TIED CARD OF 'floodgatelaw3.PlayAll'. -/
def playAllCard : Claim7 := { stood := { row := playAllRow, standIns := [], harness := (true, "4ee9558aa246c4ed5ab3f68b66f0ef7d8533ec6ffd7ac60d3a5b1a522ae99700"), looks := true }, kinds := [], alts := [], laidByText := true, laidKinds := [.handle, .sentinel, .sentinel, .sentinel, .sentinel, .sentinel], laidTests := true, laidLooks := .later }
def PlayAllCardSaid : Prop := Claim7.holds Tryz.pinned (.plain (OpenSpec.ofChange playAllSpec)) playAllCard

/-- THE SECOND FORM's CARD OF 'floodgatelaw3.PlayAll'. -/
def playAllUptoCard : Claim7 := { stood := { row := playAllUptoRow, standIns := [], harness := (true, "4ee9558aa246c4ed5ab3f68b66f0ef7d8533ec6ffd7ac60d3a5b1a522ae99700"), looks := true }, kinds := [], alts := [], laidByText := true, laidKinds := [.handle, .sentinel, .sentinel, .sentinel, .sentinel, .sentinel], laidTests := true, laidLooks := .later }
def PlayAllUptoCardSaid : Prop := Claim7.holds Tryz.pinned (.plain (OpenSpec.upto playAllSpec)) playAllUptoCard
end Rows
end Go.Proofs.YtfonpoijfkapcaaGreatDoor
