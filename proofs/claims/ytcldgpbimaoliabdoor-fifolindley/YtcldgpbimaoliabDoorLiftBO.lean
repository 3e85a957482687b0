/- The condition on the two errors of packets, opened; a world that meets it. -/
import Derived.Test.YtcldgpbimaoliabDoorLiftP
namespace Go.Proofs.YtcldgpbimaoliabDoor
open Go.ChangeShapes Go.WideShapes Go.ChangeAt Go.RowKit

def nthBO (a1 a4 : Addr) : Nat → Addr
  | 1 => a1 | _ => a4
/-- What the condition on the two errors gives the walks. -/
theorem errsBO_of_laid {W : World} (h : laidMetH Tryd.prog Rows.fifoLindleyRow.laid W) : ∃ ad, ErrsBO W ad := by
  rw [MakeChecks.laidMetH_plain _ _ _ (by kernel_rfl)] at h
  obtain ⟨a1, s1, v1, c1, t1, b1⟩ := sentinel_of_laid (g := 2) h rfl (by kernel_rfl) (by kernel_rfl)
  obtain ⟨a4, s4, v4, c4, t4, b4⟩ := sentinel_of_laid (g := 4) h.tail rfl (by kernel_rfl) (by kernel_rfl)
  exact ⟨nthBO a1 a4, v1, v4⟩

/-- The heap that the initialisers leave meets the condition. -/
theorem door_metBO (os : Os) (args : Array Value) : laidMetH Tryd.prog Rows.fifoLindleyRow.laid ((World.doorLaid Tryd.prog 187 os).forCall (fun _ _ => 0) ⟨#[], args, []⟩).memory :=
  laidMetH_of_parts3 (fuel := 8) (laidMet_of_run' 8 (by kernel_rfl) (by kernel_rfl)) (by kernel_rfl) (by kernel_rfl)
end Go.Proofs.YtcldgpbimaoliabDoor
