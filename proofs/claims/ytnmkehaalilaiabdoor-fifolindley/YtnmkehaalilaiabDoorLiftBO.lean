/- The condition on the two errors of packets, opened; a world that meets it. -/
import Derived.Test.YtnmkehaalilaiabDoorLiftP
namespace Go.Proofs.YtnmkehaalilaiabDoor
open Go.ChangeShapes Go.WideShapes Go.ChangeAt Go.RowKit

def nthBO (a1 a4 : Addr) : Nat → Addr
  | 1 => a1 | _ => a4
/-- What the condition on the two errors gives the walks. -/
theorem errsBO_of_laid {W : World} (h : laidMetH Tryd.prog [("floodgate/api.ErrBound", Rows.laid_floodgate_api_ErrBound), ("floodgate/api.ErrOld", Rows.laid_floodgate_api_ErrOld)] W) : ∃ ad, ErrsBO W ad := by
  rw [MakeChecks.laidMetH_plain _ _ _ (by kernel_rfl)] at h
  obtain ⟨a1, _, h1, _⟩ := laid_sentinel h Tryd.gBound Tryd.tBound Tryd.underlying34 Tryd.rowPES Tryd.underlying111 Tryd.underlying132 rfl rfl Tryd.underlying9 Tryd.cellsES Tryd.cellsStr
  obtain ⟨a4, _, h4, _⟩ := laid_sentinel h.tail Tryd.gOld Tryd.tOld Tryd.underlying34 Tryd.rowPES Tryd.underlying111 Tryd.underlying132 rfl rfl Tryd.underlying9 Tryd.cellsES Tryd.cellsStr
  have g1 : W.cell? ⟨2, 0, none⟩ = some (.iface 111 (.pointer (some a1))) := by simpa using World.var?_cell Tryd.gBound h1 0
  have g4 : W.cell? ⟨4, 0, none⟩ = some (.iface 111 (.pointer (some a4))) := by simpa using World.var?_cell Tryd.gOld h4 0
  exact ⟨nthBO a1 a4, g1, g4⟩

/-- The heap that the initialisers leave meets the condition. -/
theorem door_metBO (os : Os) (args : Array Value) : laidMetH Tryd.prog [("floodgate/api.ErrBound", Rows.laid_floodgate_api_ErrBound), ("floodgate/api.ErrOld", Rows.laid_floodgate_api_ErrOld)] ((World.doorLaid Tryd.prog 187 os).forCall (fun _ _ => 0) ⟨#[], args, []⟩).memory :=
  laidMetH_of_parts3 (fuel := 8) (laidMet_of_run' 8 (by kernel_rfl) (by kernel_rfl)) (by kernel_rfl) (by kernel_rfl)
end Go.Proofs.YtnmkehaalilaiabDoor
