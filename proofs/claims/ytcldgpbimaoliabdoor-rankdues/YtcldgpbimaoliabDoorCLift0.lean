/- What every law's statement wants besides its walk; no argument's kind is spoken of here. -/
import Derived.Test.YtcldgpbimaoliabDoorCUtil
import Derived.Test.YtcldgpbimaoliabDoorTie
import Derived.ProofKit
import Derived.OpenShut
import Derived.ShutString
import Derived.ChangeOld
import Derived.ChangeVars
import Derived.Deep.SlicePairs
import Derived.Lib.SmallJoins
import Derived.LaidMore
import Derived.LaidLaws
import Derived.LaidHandle
import Derived.Stop.LaidErr
import Derived.Stop.Joined
namespace Go.Proofs.YtcldgpbimaoliabDoor
open Go.ChangeShapes Go.WideShapes Go.ChangeAt Go.RowKit

theorem Tryd.own : ownKnob Tryd.prog.godebug = none := by kernel_rfl
theorem Tryd.laidOut : laidOutB Tryd.prog = true := by kernel_rfl
theorem Tryd.cellsInt : Tryd.prog.cellsOf 3 = 1 := by kernel_rfl
theorem Tryd.cellsES : Tryd.prog.cellsOf 141 = 1 := by kernel_rfl
theorem Tryd.cellsStr : Tryd.prog.cellsOf 9 = 1 := by kernel_rfl
theorem Tryd.star : "*" ++ "errors.errorString" = "*errors.errorString" := by decide
theorem Tryd.rowPES (u : TypeId) (h : Tryd.prog.typeName? 3 u = some "*errors.errorString") : u = 120 :=
  typeName_ptr_named (nm := "errors.errorString") (by rw [Tryd.star]; kernel_rfl) (by kernel_rfl) (by decide) u (by rw [Tryd.star]; exact h)
theorem Tryd.gBound : Tryd.prog.globalNamed "floodgate/api.ErrBound" = some 2 := by kernel_rfl
theorem Tryd.gShape : Tryd.prog.globalNamed "floodgate/api.ErrShape" = some 3 := by kernel_rfl
theorem Tryd.tBound : (Tryd.prog.globals[2]?).map (·.type) = some 34 := by kernel_rfl
theorem Tryd.tShape : (Tryd.prog.globals[3]?).map (·.type) = some 34 := by kernel_rfl
theorem Tryd.gNone : Tryd.prog.globalNamed "floodgate/api.ErrNone" = some 0 := by kernel_rfl
theorem Tryd.gOld : Tryd.prog.globalNamed "floodgate/api.ErrOld" = some 4 := by kernel_rfl
theorem Tryd.tNone : (Tryd.prog.globals[0]?).map (·.type) = some 34 := by kernel_rfl
theorem Tryd.tOld : (Tryd.prog.globals[4]?).map (·.type) = some 34 := by kernel_rfl
end Go.Proofs.YtcldgpbimaoliabDoor
