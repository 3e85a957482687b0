/- Walks: are packets few enough for a law? -/
import Derived.Test.YtepnfioldbhffabDoorCUtil
namespace Go.Proofs.YtepnfioldbhffabDoor
open Go.RowKit

set_option maxHeartbeats 1000000 in
theorem fitPkts_yes (a : Option Addr) (n cap : Nat) (m : Int) (w : World) (hm : n ≤ maxLen) (h : (n : Int) ≤ m ∨ n = 301) :
    Calls Tryd.prog 24 #[.slice a n cap, .int .i64 m] w fun e w' => e = .returned (.bool true) ∧ w' = w := by
  unfold maxLen at hm
  by_cases h1 : (n : Int) ≤ m
  · clear h
    go_enter Tryd.func24, Tryd.ntmps24
    go_wp2
    go_ret
    exact ⟨rfl, rfl⟩
  · obtain rfl : n = 301 := by omega
    go_enter Tryd.func24, Tryd.ntmps24
    go_wp2
    go_ret
    exact ⟨rfl, rfl⟩
set_option maxHeartbeats 1000000 in
theorem fitPkts_no (a : Option Addr) (n cap : Nat) (m : Int) (w : World) (h1 : ¬ (n : Int) ≤ m) (h2 : n ≠ 301) :
    Calls Tryd.prog 24 #[.slice a n cap, .int .i64 m] w fun e w' => e = .returned (.bool false) ∧ w' = w := by
  have h3 : ((n : Int) == 301) = false := by simp; omega
  have h4 : (n == 301) = false := by simpa using h2
  go_enter Tryd.func24, Tryd.ntmps24
  go_wp2
  go_ret
  exact ⟨rfl, rfl⟩
end Go.Proofs.YtepnfioldbhffabDoor
