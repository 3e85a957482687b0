/- Walks: package link's IsFlow. -/
import Derived.Test.YtolbmkniafkeaaaDoorCUtil
namespace Go.Proofs.YtolbmkniafkeaaaDoor
open Go.RowKit

set_option maxHeartbeats 1000000 in
theorem isFlow_yes (x : Int) (w : World) (h : 0 ≤ x ∧ x < 8) : Calls Tryd.prog 58 #[.int .i64 x] w fun e w' => e = .returned (.bool true) ∧ w' = w := by
  obtain ⟨h1, h2⟩ := h
  go_enter Tryd.func58, Tryd.ntmps58
  go_wp2
  go_ret
  exact ⟨rfl, rfl⟩
set_option maxHeartbeats 1000000 in
theorem isFlow_no (x : Int) (w : World) (h : ¬ (0 ≤ x ∧ x < 8)) : Calls Tryd.prog 58 #[.int .i64 x] w fun e w' => e = .returned (.bool false) ∧ w' = w := by
  by_cases h1 : 0 ≤ x
  · have h2 : ¬ x < 8 := fun h' => h ⟨h1, h'⟩
    clear h
    go_enter Tryd.func58, Tryd.ntmps58
    go_wp2
    go_ret
    exact ⟨rfl, rfl⟩
  · clear h
    go_enter Tryd.func58, Tryd.ntmps58
    go_wp2
    go_ret
    exact ⟨rfl, rfl⟩
end Go.Proofs.YtolbmkniafkeaaaDoor
