/-
  DERIVED. GIVEN WITH THE SEED: THE CARDS: each row of YtnmkehaalilaiabDoorRows.lean that lists a variable, with what it lists TIED to the program's text (the seventh form; the later family's looks); each row that meets fmt, with fmt's text TOLD by the authors' own Lean function (tested against real Go, not proved from fmt's source: count such statements apart). THE CARD IS WHAT COUNTS. Prove the row's statement (the work); the ties are given (YtnmkehaalilaiabDoorTie.lean); close each card by the builder's one call (the guide's Derived/Test/ToyasCard.lean, 'card_holds'). Laid BY PROGRAM, IN A SANDBOX (cutbox-door.mjs). By AI agents, Wed Nov 11 2026. No macro, syntax, notation, axiom, sorry.
-/
import Derived.Test.YtnmkehaalilaiabDoorRows
import GoSem.ClaimSeven
namespace Go.Proofs.YtnmkehaalilaiabDoor
namespace Rows

/-- THE TIED CARD OF 'floodgatelaw2.FifoTells'. -/
def fifoTellsCard : Claim7 := { stood := { row := fifoTellsRow, standIns := [], harness := (true, "d8363cb325cecc22d8f4ee79f24ac9be237f1b874d4a63ed7426a73c4db09e52"), looks := true }, kinds := [], alts := [], laidByText := true, laidKinds := [.handle, .sentinel, .sentinel, .sentinel, .sentinel, .sentinel, .sentinel, .sentinel, .sentinel, .sentinel], laidTests := true, laidLooks := .later }
def FifoTellsCardSaid : Prop := Claim7.holds Tryd.pinned (.plain (OpenSpec.ofChange fifoTellsSpec)) fifoTellsCard

/-- THE TIED CARD OF 'floodgatelaw2.FifoLindley'. -/
def fifoLindleyCard : Claim7 := { stood := { row := fifoLindleyRow, standIns := [], harness := (true, "d8363cb325cecc22d8f4ee79f24ac9be237f1b874d4a63ed7426a73c4db09e52"), looks := true }, kinds := [], alts := [], laidByText := true, laidKinds := [.sentinel, .sentinel], laidTests := true, laidLooks := .later }
def FifoLindleyCardSaid : Prop := Claim7.holds Tryd.pinned (.plain (OpenSpec.ofChange fifoLindleySpec)) fifoLindleyCard

/-- THE TIED CARD OF 'floodgatelaw2.FifoRuns'. -/
def fifoRunsCard : Claim7 := { stood := { row := fifoRunsRow, standIns := [], harness := (true, "d8363cb325cecc22d8f4ee79f24ac9be237f1b874d4a63ed7426a73c4db09e52"), looks := true }, kinds := [], alts := [], laidByText := true, laidKinds := [.handle, .sentinel, .sentinel, .sentinel, .sentinel, .sentinel, .sentinel, .sentinel, .sentinel, .sentinel], laidTests := true, laidLooks := .later }
def FifoRunsCardSaid : Prop := Claim7.holds Tryd.pinned (.plain (OpenSpec.ofChange fifoRunsSpec)) fifoRunsCard

/-- THE TIED CARD OF 'floodgatelaw2.RankDues'. -/
def rankDuesCard : Claim7 := { stood := { row := rankDuesRow, standIns := [], harness := (true, "d8363cb325cecc22d8f4ee79f24ac9be237f1b874d4a63ed7426a73c4db09e52"), looks := true }, kinds := [], alts := [], laidByText := true, laidKinds := [.sentinel, .sentinel], laidTests := true, laidLooks := .later }
def RankDuesCardSaid : Prop := Claim7.holds Tryd.pinned (.plain (OpenSpec.ofChange rankDuesSpec)) rankDuesCard

/-- THE SECOND FORM's CARD OF 'floodgatelaw2.FifoTells'. -/
def fifoTellsUptoCard : Claim7 := { stood := { row := fifoTellsUptoRow, standIns := [], harness := (true, "d8363cb325cecc22d8f4ee79f24ac9be237f1b874d4a63ed7426a73c4db09e52"), looks := true }, kinds := [], alts := [], laidByText := true, laidKinds := [.handle, .sentinel, .sentinel, .sentinel, .sentinel, .sentinel, .sentinel, .sentinel, .sentinel, .sentinel], laidTests := true, laidLooks := .later }
def FifoTellsUptoCardSaid : Prop := Claim7.holds Tryd.pinned (.plain (OpenSpec.upto fifoTellsSpec)) fifoTellsUptoCard

/-- THE SECOND FORM's CARD OF 'floodgatelaw2.FifoLindley'. -/
def fifoLindleyUptoCard : Claim7 := { stood := { row := fifoLindleyUptoRow, standIns := [], harness := (true, "d8363cb325cecc22d8f4ee79f24ac9be237f1b874d4a63ed7426a73c4db09e52"), looks := true }, kinds := [], alts := [], laidByText := true, laidKinds := [.sentinel, .sentinel], laidTests := true, laidLooks := .later }
def FifoLindleyUptoCardSaid : Prop := Claim7.holds Tryd.pinned (.plain (OpenSpec.upto fifoLindleySpec)) fifoLindleyUptoCard

/-- THE SECOND FORM's CARD OF 'floodgatelaw2.FifoRuns'. -/
def fifoRunsUptoCard : Claim7 := { stood := { row := fifoRunsUptoRow, standIns := [], harness := (true, "d8363cb325cecc22d8f4ee79f24ac9be237f1b874d4a63ed7426a73c4db09e52"), looks := true }, kinds := [], alts := [], laidByText := true, laidKinds := [.handle, .sentinel, .sentinel, .sentinel, .sentinel, .sentinel, .sentinel, .sentinel, .sentinel, .sentinel], laidTests := true, laidLooks := .later }
def FifoRunsUptoCardSaid : Prop := Claim7.holds Tryd.pinned (.plain (OpenSpec.upto fifoRunsSpec)) fifoRunsUptoCard

/-- THE SECOND FORM's CARD OF 'floodgatelaw2.RankDues'. -/
def rankDuesUptoCard : Claim7 := { stood := { row := rankDuesUptoRow, standIns := [], harness := (true, "d8363cb325cecc22d8f4ee79f24ac9be237f1b874d4a63ed7426a73c4db09e52"), looks := true }, kinds := [], alts := [], laidByText := true, laidKinds := [.sentinel, .sentinel], laidTests := true, laidLooks := .later }
def RankDuesUptoCardSaid : Prop := Claim7.holds Tryd.pinned (.plain (OpenSpec.upto rankDuesSpec)) rankDuesUptoCard
end Rows
end Go.Proofs.YtnmkehaalilaiabDoor
