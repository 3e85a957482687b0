/- The laws' own helpers: an error's number, with or without its place. -/
import Derived.Test.YtlknljbceppedaaDoorCFaulted
import Derived.Test.YtlknljbceppedaaDoorCSameInts
namespace Go.Proofs.YtlknljbceppedaaDoor
open Go.RowKit

/-- coded says yes where Code gives that number, and no place. -/
theorem coded_yes (E : Value) (code : Int) (w : World) (h : CodeIs w E code (-1)) :
    Calls Tryd.prog 17 #[E, .int .i64 code] w fun e w' => e = .returned (.bool true) ∧ Below w.heap.size w w' := by
  have HC : Hid (CodeIs w E code (-1)) := h
  clear h
  go_enter Tryd.func17, Tryd.ntmps17
  go_wp2_with fail
  refine (HC.out w (Below.refl _ _)).mono ?_
  rintro e w1 ⟨rfl, hb⟩
  go_wp2_with fail
  go_ret
  exact ⟨rfl, hb⟩
end Go.Proofs.YtlknljbceppedaaDoor
