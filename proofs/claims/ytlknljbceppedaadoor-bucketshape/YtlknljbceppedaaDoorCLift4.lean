/- What the bucket laws' statements want besides their walks: an argument of packets opened; the condition on four errors; a world that meets it. -/
import Derived.Test.YtlknljbceppedaaDoorCLift
import Derived.Test.YtlknljbceppedaaDoorCLiftP
import Derived.Test.YtlknljbceppedaaDoorCAllPkts
import Derived.Test.YtlknljbceppedaaDoorCBucket2
import Derived.Deep.Slices
namespace Go.Proofs.YtlknljbceppedaaDoor
open Go.ChangeShapes Go.WideShapes Go.ChangeAt Go.RowKit Go.Deep

def nth4 (a1 a2 a3 a4 : Addr) : Nat → Addr
  | 1 => a1 | 2 => a2 | 3 => a3 | _ => a4

/-- What the condition on the four errors gives the walks. -/
theorem errs4_of_laid {W : World} (h : laidMetH Tryd.prog Rows.bucketWhenRow.laid W) : ∃ ad, Errs4 W ad := by
  rw [MakeChecks.laidMetH_plain _ _ _ (by kernel_rfl)] at h
  obtain ⟨a1, _, g1, _⟩ := sentinel_of_laid (g := 1) h rfl (by kernel_rfl) (by kernel_rfl)
  obtain ⟨a2, _, g2, _⟩ := sentinel_of_laid (g := 2) h.tail rfl (by kernel_rfl) (by kernel_rfl)
  obtain ⟨a3, _, g3, _⟩ := sentinel_of_laid (g := 3) h.tail.tail rfl (by kernel_rfl) (by kernel_rfl)
  obtain ⟨a4, _, g4, _⟩ := sentinel_of_laid (g := 4) h.tail.tail.tail rfl (by kernel_rfl) (by kernel_rfl)
  exact ⟨nth4 a1 a2 a3 a4, g1, g2, g3, g4⟩

/-- The heap that the initialisers leave meets the condition. -/
theorem door_met4 (os : Os) (args : Array Value) : laidMetH Tryd.prog Rows.bucketWhenRow.laid ((World.doorLaid Tryd.prog 187 os).forCall (fun _ _ => 0) ⟨#[], args, []⟩).memory :=
  laidMetH_of_parts3 (fuel := 8) (laidMet_of_run' 8 (by kernel_rfl) (by kernel_rfl)) (by kernel_rfl) (by kernel_rfl)
end Go.Proofs.YtlknljbceppedaaDoor
