/- The laws' own helper: an error's number, without its place. -/
import Derived.Test.YtepnfioldbhffabDoorCFaulted
namespace Go.Proofs.YtepnfioldbhffabDoor
open Go.RowKit
/-- coded says yes where Code gives that number, and no place. -/
theorem coded_yes (E : Value) (code : Int) (w : World) (h : CodeIs w E code (-1)) :
    Calls Tryd.prog 44 #[E, .int .i64 code] w fun e w' => e = .returned (.bool true) ∧ Below w.heap.size w w' := by
  have HC : Hid (CodeIs w E code (-1)) := h
  clear h
  go_enter Tryd.func44, Tryd.ntmps44
  go_wp2_with fail
  refine (HC.out w (Below.refl _ _)).mono ?_
  rintro e w1 ⟨rfl, hb⟩
  go_wp2_with fail
  go_ret
  exact ⟨rfl, hb⟩
end Go.Proofs.YtepnfioldbhffabDoor
