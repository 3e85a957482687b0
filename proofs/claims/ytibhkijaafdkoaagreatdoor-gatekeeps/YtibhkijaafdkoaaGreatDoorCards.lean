/-
  DERIVED. GIVEN WITH THE SEED: THE CARDS: each row of YtibhkijaafdkoaaGreatDoorRows.lean that lists a variable, with what it lists TIED to the program's text (the seventh form; the later family's looks); each row that meets fmt, with fmt's text TOLD by the authors' own Lean function (tested against real Go, not proved from fmt's source: count such statements apart). THE CARD IS WHAT COUNTS. Prove the row's statement (the work); the ties are given (YtibhkijaafdkoaaGreatDoorTie.lean); close each card by the builder's one call (the guide's Derived/Test/ToyasCard.lean, 'card_holds'). Laid BY PROGRAM, IN A SANDBOX (cutbox-door.mjs). By AI agents, Wed Nov 11 2026. No macro, syntax, notation, axiom, sorry.
-/
import Derived.Test.YtibhkijaafdkoaaGreatDoorRows
import GoSem.ClaimSeven
namespace Go.Proofs.YtibhkijaafdkoaaGreatDoor
namespace Rows

/-- THE TIED CARD OF 'floodgatelaw3.GateBounds'. -/
def gateBoundsCard : Claim7 := { stood := { row := gateBoundsRow, standIns := [], harness := (true, "584a11a1b0b5691e26b7d0b8dd564fefd48f88b500a8397ec4671c630a17839e"), looks := true }, kinds := [], alts := [], laidByText := true, laidKinds := [.handle, .sentinel, .sentinel, .sentinel, .sentinel, .sentinel, .sentinel, .sentinel, .sentinel, .sentinel], laidTests := true, laidLooks := .later }
def GateBoundsCardSaid : Prop := Claim7.holds Tryz.pinned (.plain (OpenSpec.ofChange gateBoundsSpec)) gateBoundsCard

/-- THE TIED CARD OF 'floodgatelaw3.GateKeeps'. -/
def gateKeepsCard : Claim7 := { stood := { row := gateKeepsRow, standIns := [], harness := (true, "584a11a1b0b5691e26b7d0b8dd564fefd48f88b500a8397ec4671c630a17839e"), looks := true }, kinds := [], alts := [], laidByText := true, laidKinds := [.handle, .sentinel, .sentinel, .sentinel, .sentinel, .sentinel, .sentinel, .sentinel], laidTests := true, laidLooks := .later }
def GateKeepsCardSaid : Prop := Claim7.holds Tryz.pinned (.plain (OpenSpec.ofChange gateKeepsSpec)) gateKeepsCard

/-- THE TIED CARD OF 'floodgatelaw3.GateBusy'. -/
def gateBusyCard : Claim7 := { stood := { row := gateBusyRow, standIns := [], harness := (true, "584a11a1b0b5691e26b7d0b8dd564fefd48f88b500a8397ec4671c630a17839e"), looks := true }, kinds := [], alts := [], laidByText := true, laidKinds := [.handle, .sentinel, .sentinel, .sentinel, .sentinel, .sentinel], laidTests := true, laidLooks := .later }
def GateBusyCardSaid : Prop := Claim7.holds Tryz.pinned (.plain (OpenSpec.ofChange gateBusySpec)) gateBusyCard

/-- THE TIED CARD OF 'floodgatelaw3.GateOpen'. -/
def gateOpenCard : Claim7 := { stood := { row := gateOpenRow, standIns := [], harness := (true, "584a11a1b0b5691e26b7d0b8dd564fefd48f88b500a8397ec4671c630a17839e"), looks := true }, kinds := [], alts := [], laidByText := true, laidKinds := [.handle, .sentinel, .sentinel, .sentinel, .sentinel, .sentinel], laidTests := true, laidLooks := .later }
def GateOpenCardSaid : Prop := Claim7.holds Tryz.pinned (.plain (OpenSpec.ofChange gateOpenSpec)) gateOpenCard

/-- THE TIED CARD OF 'floodgatelaw3.GateRuns'. -/
def gateRunsCard : Claim7 := { stood := { row := gateRunsRow, standIns := [], harness := (true, "584a11a1b0b5691e26b7d0b8dd564fefd48f88b500a8397ec4671c630a17839e"), looks := true }, kinds := [], alts := [], laidByText := true, laidKinds := [.handle, .sentinel, .sentinel, .sentinel, .sentinel, .sentinel, .sentinel, .sentinel, .sentinel, .sentinel], laidTests := true, laidLooks := .later }
def GateRunsCardSaid : Prop := Claim7.holds Tryz.pinned (.plain (OpenSpec.ofChange gateRunsSpec)) gateRunsCard

/-- THE TIED CARD OF 'floodgatelaw3.PlayAll'. -/
def playAllCard : Claim7 := { stood := { row := playAllRow, standIns := [], harness := (true, "584a11a1b0b5691e26b7d0b8dd564fefd48f88b500a8397ec4671c630a17839e"), looks := true }, kinds := [], alts := [], laidByText := true, laidKinds := [.handle, .sentinel, .sentinel, .sentinel, .sentinel, .sentinel], laidTests := true, laidLooks := .later }
def PlayAllCardSaid : Prop := Claim7.holds Tryz.pinned (.plain (OpenSpec.ofChange playAllSpec)) playAllCard

/-- THE SECOND FORM's CARD OF 'floodgatelaw3.GateBounds'. -/
def gateBoundsUptoCard : Claim7 := { stood := { row := gateBoundsUptoRow, standIns := [], harness := (true, "584a11a1b0b5691e26b7d0b8dd564fefd48f88b500a8397ec4671c630a17839e"), looks := true }, kinds := [], alts := [], laidByText := true, laidKinds := [.handle, .sentinel, .sentinel, .sentinel, .sentinel, .sentinel, .sentinel, .sentinel, .sentinel, .sentinel], laidTests := true, laidLooks := .later }
def GateBoundsUptoCardSaid : Prop := Claim7.holds Tryz.pinned (.plain (OpenSpec.upto gateBoundsSpec)) gateBoundsUptoCard

/-- THE SECOND FORM's CARD OF 'floodgatelaw3.GateKeeps'. -/
def gateKeepsUptoCard : Claim7 := { stood := { row := gateKeepsUptoRow, standIns := [], harness := (true, "584a11a1b0b5691e26b7d0b8dd564fefd48f88b500a8397ec4671c630a17839e"), looks := true }, kinds := [], alts := [], laidByText := true, laidKinds := [.handle, .sentinel, .sentinel, .sentinel, .sentinel, .sentinel, .sentinel, .sentinel], laidTests := true, laidLooks := .later }
def GateKeepsUptoCardSaid : Prop := Claim7.holds Tryz.pinned (.plain (OpenSpec.upto gateKeepsSpec)) gateKeepsUptoCard

/-- THE SECOND FORM's CARD OF 'floodgatelaw3.GateBusy'. -/
def gateBusyUptoCard : Claim7 := { stood := { row := gateBusyUptoRow, standIns := [], harness := (true, "584a11a1b0b5691e26b7d0b8dd564fefd48f88b500a8397ec4671c630a17839e"), looks := true }, kinds := [], alts := [], laidByText := true, laidKinds := [.handle, .sentinel, .sentinel, .sentinel, .sentinel, .sentinel], laidTests := true, laidLooks := .later }
def GateBusyUptoCardSaid : Prop := Claim7.holds Tryz.pinned (.plain (OpenSpec.upto gateBusySpec)) gateBusyUptoCard

/-- THE SECOND FORM's CARD OF 'floodgatelaw3.GateOpen'. -/
def gateOpenUptoCard : Claim7 := { stood := { row := gateOpenUptoRow, standIns := [], harness := (true, "584a11a1b0b5691e26b7d0b8dd564fefd48f88b500a8397ec4671c630a17839e"), looks := true }, kinds := [], alts := [], laidByText := true, laidKinds := [.handle, .sentinel, .sentinel, .sentinel, .sentinel, .sentinel], laidTests := true, laidLooks := .later }
def GateOpenUptoCardSaid : Prop := Claim7.holds Tryz.pinned (.plain (OpenSpec.upto gateOpenSpec)) gateOpenUptoCard

/-- THE SECOND FORM's CARD OF 'floodgatelaw3.GateRuns'. -/
def gateRunsUptoCard : Claim7 := { stood := { row := gateRunsUptoRow, standIns := [], harness := (true, "584a11a1b0b5691e26b7d0b8dd564fefd48f88b500a8397ec4671c630a17839e"), looks := true }, kinds := [], alts := [], laidByText := true, laidKinds := [.handle, .sentinel, .sentinel, .sentinel, .sentinel, .sentinel, .sentinel, .sentinel, .sentinel, .sentinel], laidTests := true, laidLooks := .later }
def GateRunsUptoCardSaid : Prop := Claim7.holds Tryz.pinned (.plain (OpenSpec.upto gateRunsSpec)) gateRunsUptoCard

/-- THE SECOND FORM's CARD OF 'floodgatelaw3.PlayAll'. -/
def playAllUptoCard : Claim7 := { stood := { row := playAllUptoRow, standIns := [], harness := (true, "584a11a1b0b5691e26b7d0b8dd564fefd48f88b500a8397ec4671c630a17839e"), looks := true }, kinds := [], alts := [], laidByText := true, laidKinds := [.handle, .sentinel, .sentinel, .sentinel, .sentinel, .sentinel], laidTests := true, laidLooks := .later }
def PlayAllUptoCardSaid : Prop := Claim7.holds Tryz.pinned (.plain (OpenSpec.upto playAllSpec)) playAllUptoCard
end Rows
end Go.Proofs.YtibhkijaafdkoaaGreatDoor
