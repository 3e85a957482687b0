/-
  DERIVED. GIVEN WITH THE SEED: THE CARDS: each row of YtcldgpbimaoliabDoorRows.lean that lists a variable, with what it lists TIED to the program's text (the seventh form; the later family's looks); each row that meets fmt, with fmt's text TOLD by the authors' own Lean function (tested against real Go, not proved from fmt's source: count such statements apart). THE CARD IS WHAT COUNTS. Prove the row's statement (the work); the ties are given (YtcldgpbimaoliabDoorTie.lean); close each card by the builder's one call (the guide's Derived/Test/ToyasCard.lean, 'card_holds'). Laid BY PROGRAM, IN A SANDBOX (cutbox-door.mjs). By AI agents, Wed Nov 11 2026. No macro, syntax, notation, axiom, sorry.
-/
import Derived.Test.YtcldgpbimaoliabDoorRows
import GoSem.ClaimSeven
namespace Go.Proofs.YtcldgpbimaoliabDoor
namespace Rows

/-- THE TIED CARD OF 'floodgatelaw2.FifoTells'. -/
def fifoTellsCard : Claim7 := { stood := { row := fifoTellsRow, standIns := [], harness := (true, "3e32cd0692dff4acc1e1dff2158b11f155382eac6d8f7913168a362c2e4b21d1"), looks := true }, kinds := [], alts := [], laidByText := true, laidKinds := [.handle, .sentinel, .sentinel, .sentinel, .sentinel, .sentinel, .sentinel, .sentinel, .sentinel, .sentinel], laidTests := true, laidLooks := .later }
def FifoTellsCardSaid : Prop := Claim7.holds Tryd.pinned (.plain (OpenSpec.ofChange fifoTellsSpec)) fifoTellsCard

/-- THE TIED CARD OF 'floodgatelaw2.FifoLindley'. -/
def fifoLindleyCard : Claim7 := { stood := { row := fifoLindleyRow, standIns := [], harness := (true, "3e32cd0692dff4acc1e1dff2158b11f155382eac6d8f7913168a362c2e4b21d1"), looks := true }, kinds := [], alts := [], laidByText := true, laidKinds := [.sentinel, .sentinel], laidTests := true, laidLooks := .later }
def FifoLindleyCardSaid : Prop := Claim7.holds Tryd.pinned (.plain (OpenSpec.ofChange fifoLindleySpec)) fifoLindleyCard

/-- THE TIED CARD OF 'floodgatelaw2.FifoRuns'. -/
def fifoRunsCard : Claim7 := { stood := { row := fifoRunsRow, standIns := [], harness := (true, "3e32cd0692dff4acc1e1dff2158b11f155382eac6d8f7913168a362c2e4b21d1"), looks := true }, kinds := [], alts := [], laidByText := true, laidKinds := [.handle, .sentinel, .sentinel, .sentinel, .sentinel, .sentinel, .sentinel, .sentinel, .sentinel, .sentinel], laidTests := true, laidLooks := .later }
def FifoRunsCardSaid : Prop := Claim7.holds Tryd.pinned (.plain (OpenSpec.ofChange fifoRunsSpec)) fifoRunsCard

/-- THE TIED CARD OF 'floodgatelaw2.RankLate'. -/
def rankLateCard : Claim7 := { stood := { row := rankLateRow, standIns := [], harness := (true, "3e32cd0692dff4acc1e1dff2158b11f155382eac6d8f7913168a362c2e4b21d1"), looks := true }, kinds := [], alts := [], laidByText := true, laidKinds := [.handle, .sentinel, .sentinel, .sentinel, .sentinel, .sentinel, .sentinel, .sentinel, .sentinel, .sentinel], laidTests := true, laidLooks := .later }
def RankLateCardSaid : Prop := Claim7.holds Tryd.pinned (.plain (OpenSpec.ofChange rankLateSpec)) rankLateCard

/-- THE TIED CARD OF 'floodgatelaw2.RankDues'. -/
def rankDuesCard : Claim7 := { stood := { row := rankDuesRow, standIns := [], harness := (true, "3e32cd0692dff4acc1e1dff2158b11f155382eac6d8f7913168a362c2e4b21d1"), looks := true }, kinds := [], alts := [], laidByText := true, laidKinds := [.sentinel, .sentinel, .sentinel, .sentinel], laidTests := true, laidLooks := .later }
def RankDuesCardSaid : Prop := Claim7.holds Tryd.pinned (.plain (OpenSpec.ofChange rankDuesSpec)) rankDuesCard

/-- THE TIED CARD OF 'floodgatelaw2.RankWaits'. -/
def rankWaitsCard : Claim7 := { stood := { row := rankWaitsRow, standIns := [], harness := (true, "3e32cd0692dff4acc1e1dff2158b11f155382eac6d8f7913168a362c2e4b21d1"), looks := true }, kinds := [], alts := [], laidByText := true, laidKinds := [.sentinel, .sentinel, .sentinel], laidTests := true, laidLooks := .later }
def RankWaitsCardSaid : Prop := Claim7.holds Tryd.pinned (.plain (OpenSpec.ofChange rankWaitsSpec)) rankWaitsCard

/-- THE TIED CARD OF 'floodgatelaw2.RankRuns'. -/
def rankRunsCard : Claim7 := { stood := { row := rankRunsRow, standIns := [], harness := (true, "3e32cd0692dff4acc1e1dff2158b11f155382eac6d8f7913168a362c2e4b21d1"), looks := true }, kinds := [], alts := [], laidByText := true, laidKinds := [.handle, .sentinel, .sentinel, .sentinel, .sentinel, .sentinel, .sentinel, .sentinel, .sentinel, .sentinel], laidTests := true, laidLooks := .later }
def RankRunsCardSaid : Prop := Claim7.holds Tryd.pinned (.plain (OpenSpec.ofChange rankRunsSpec)) rankRunsCard

/-- THE SECOND FORM's CARD OF 'floodgatelaw2.FifoTells'. -/
def fifoTellsUptoCard : Claim7 := { stood := { row := fifoTellsUptoRow, standIns := [], harness := (true, "3e32cd0692dff4acc1e1dff2158b11f155382eac6d8f7913168a362c2e4b21d1"), looks := true }, kinds := [], alts := [], laidByText := true, laidKinds := [.handle, .sentinel, .sentinel, .sentinel, .sentinel, .sentinel, .sentinel, .sentinel, .sentinel, .sentinel], laidTests := true, laidLooks := .later }
def FifoTellsUptoCardSaid : Prop := Claim7.holds Tryd.pinned (.plain (OpenSpec.upto fifoTellsSpec)) fifoTellsUptoCard

/-- THE SECOND FORM's CARD OF 'floodgatelaw2.FifoLindley'. -/
def fifoLindleyUptoCard : Claim7 := { stood := { row := fifoLindleyUptoRow, standIns := [], harness := (true, "3e32cd0692dff4acc1e1dff2158b11f155382eac6d8f7913168a362c2e4b21d1"), looks := true }, kinds := [], alts := [], laidByText := true, laidKinds := [.sentinel, .sentinel], laidTests := true, laidLooks := .later }
def FifoLindleyUptoCardSaid : Prop := Claim7.holds Tryd.pinned (.plain (OpenSpec.upto fifoLindleySpec)) fifoLindleyUptoCard

/-- THE SECOND FORM's CARD OF 'floodgatelaw2.FifoRuns'. -/
def fifoRunsUptoCard : Claim7 := { stood := { row := fifoRunsUptoRow, standIns := [], harness := (true, "3e32cd0692dff4acc1e1dff2158b11f155382eac6d8f7913168a362c2e4b21d1"), looks := true }, kinds := [], alts := [], laidByText := true, laidKinds := [.handle, .sentinel, .sentinel, .sentinel, .sentinel, .sentinel, .sentinel, .sentinel, .sentinel, .sentinel], laidTests := true, laidLooks := .later }
def FifoRunsUptoCardSaid : Prop := Claim7.holds Tryd.pinned (.plain (OpenSpec.upto fifoRunsSpec)) fifoRunsUptoCard

/-- THE SECOND FORM's CARD OF 'floodgatelaw2.RankLate'. -/
def rankLateUptoCard : Claim7 := { stood := { row := rankLateUptoRow, standIns := [], harness := (true, "3e32cd0692dff4acc1e1dff2158b11f155382eac6d8f7913168a362c2e4b21d1"), looks := true }, kinds := [], alts := [], laidByText := true, laidKinds := [.handle, .sentinel, .sentinel, .sentinel, .sentinel, .sentinel, .sentinel, .sentinel, .sentinel, .sentinel], laidTests := true, laidLooks := .later }
def RankLateUptoCardSaid : Prop := Claim7.holds Tryd.pinned (.plain (OpenSpec.upto rankLateSpec)) rankLateUptoCard

/-- THE SECOND FORM's CARD OF 'floodgatelaw2.RankDues'. -/
def rankDuesUptoCard : Claim7 := { stood := { row := rankDuesUptoRow, standIns := [], harness := (true, "3e32cd0692dff4acc1e1dff2158b11f155382eac6d8f7913168a362c2e4b21d1"), looks := true }, kinds := [], alts := [], laidByText := true, laidKinds := [.sentinel, .sentinel, .sentinel, .sentinel], laidTests := true, laidLooks := .later }
def RankDuesUptoCardSaid : Prop := Claim7.holds Tryd.pinned (.plain (OpenSpec.upto rankDuesSpec)) rankDuesUptoCard

/-- THE SECOND FORM's CARD OF 'floodgatelaw2.RankWaits'. -/
def rankWaitsUptoCard : Claim7 := { stood := { row := rankWaitsUptoRow, standIns := [], harness := (true, "3e32cd0692dff4acc1e1dff2158b11f155382eac6d8f7913168a362c2e4b21d1"), looks := true }, kinds := [], alts := [], laidByText := true, laidKinds := [.sentinel, .sentinel, .sentinel], laidTests := true, laidLooks := .later }
def RankWaitsUptoCardSaid : Prop := Claim7.holds Tryd.pinned (.plain (OpenSpec.upto rankWaitsSpec)) rankWaitsUptoCard

/-- THE SECOND FORM's CARD OF 'floodgatelaw2.RankRuns'. -/
def rankRunsUptoCard : Claim7 := { stood := { row := rankRunsUptoRow, standIns := [], harness := (true, "3e32cd0692dff4acc1e1dff2158b11f155382eac6d8f7913168a362c2e4b21d1"), looks := true }, kinds := [], alts := [], laidByText := true, laidKinds := [.handle, .sentinel, .sentinel, .sentinel, .sentinel, .sentinel, .sentinel, .sentinel, .sentinel, .sentinel], laidTests := true, laidLooks := .later }
def RankRunsUptoCardSaid : Prop := Claim7.holds Tryd.pinned (.plain (OpenSpec.upto rankRunsSpec)) rankRunsUptoCard
end Rows
end Go.Proofs.YtcldgpbimaoliabDoor
