/- The condition on the errors of ranks and deadlines, opened; the heap that the initialisers leave meets it. -/
import Derived.Test.YtepnfioldbhffabDoorCLift9
import Derived.Test.YtepnfioldbhffabDoorCAllNums
namespace Go.Proofs.YtepnfioldbhffabDoor
open Go.ChangeShapes Go.WideShapes Go.ChangeAt Go.RowKit

def nthR (a1 a2 a3 a4 : Addr) : Nat → Addr
  | 1 => a1 | 2 => a2 | 3 => a3 | _ => a4
theorem errsW_of_laid {W : World} (h : laidMetH Tryd.prog Rows.rankWaitsRow.laid W) : ∃ ad, ErrsBO W ad ∧ NumErrs W ad := by
  have h' := h
  rw [MakeChecks.laidMetH_plain _ _ _ (by kernel_rfl)] at h'
  obtain ⟨a1, s1, v1, c1, t1, b1⟩ := sentinel_of_laid (g := 2) h' rfl (by kernel_rfl) (by kernel_rfl)
  obtain ⟨a2, s2, v2, c2, t2, b2⟩ := sentinel_of_laid (g := 3) h'.tail rfl (by kernel_rfl) (by kernel_rfl)
  obtain ⟨a4, s4, v4, c4, t4, b4⟩ := sentinel_of_laid (g := 4) h'.tail.tail rfl (by kernel_rfl) (by kernel_rfl)
  exact ⟨nthR a1 a2 a4 a4, ⟨v1, v4⟩, v1, v2⟩
theorem door_metW (os : Os) (args : Array Value) : laidMetH Tryd.prog Rows.rankWaitsRow.laid ((World.doorLaid Tryd.prog 187 os).forCall (fun _ _ => 0) ⟨#[], args, []⟩).memory :=
  laidMetH_of_parts3 (fuel := 8) (laidMet_of_run' 8 (by kernel_rfl) (by kernel_rfl)) (by kernel_rfl) (by kernel_rfl)
theorem errsD_of_laid {W : World} (h : laidMetH Tryd.prog Rows.rankDuesRow.laid W) : ∃ ad : Nat → Addr, ErrsBO W ad ∧ NumErrs W ad ∧ W.cell? ⟨0, 0, none⟩ = some (.iface 157 (.pointer (some (ad 3)))) := by
  have h' := h
  rw [MakeChecks.laidMetH_plain _ _ _ (by kernel_rfl)] at h'
  obtain ⟨a1, s1, v1, c1, t1, b1⟩ := sentinel_of_laid (g := 2) h' rfl (by kernel_rfl) (by kernel_rfl)
  obtain ⟨a2, s2, v2, c2, t2, b2⟩ := sentinel_of_laid (g := 3) h'.tail rfl (by kernel_rfl) (by kernel_rfl)
  obtain ⟨a3, s3, v3, c3, t3, b3⟩ := sentinel_of_laid (g := 0) h'.tail.tail rfl (by kernel_rfl) (by kernel_rfl)
  obtain ⟨a4, s4, v4, c4, t4, b4⟩ := sentinel_of_laid (g := 4) h'.tail.tail.tail rfl (by kernel_rfl) (by kernel_rfl)
  exact ⟨nthR a1 a2 a3 a4, ⟨v1, v4⟩, ⟨v1, v2⟩, v3⟩
theorem door_metD (os : Os) (args : Array Value) : laidMetH Tryd.prog Rows.rankDuesRow.laid ((World.doorLaid Tryd.prog 187 os).forCall (fun _ _ => 0) ⟨#[], args, []⟩).memory :=
  laidMetH_of_parts3 (fuel := 8) (laidMet_of_run' 8 (by kernel_rfl) (by kernel_rfl)) (by kernel_rfl) (by kernel_rfl)
end Go.Proofs.YtepnfioldbhffabDoor
