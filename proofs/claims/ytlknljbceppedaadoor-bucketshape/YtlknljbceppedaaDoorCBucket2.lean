/- Walks: what is asked amiss; how many ticks until a bucket has enough. -/
import Derived.Test.YtlknljbceppedaaDoorCBucket1
namespace Go.Proofs.YtlknljbceppedaaDoor
open Go.RowKit

/-- Four of the variables of package api that hold errors. -/
structure Errs4 (w : World) (ad : Nat → Addr) : Prop where
  c1 : w.cell? ⟨1, 0, none⟩ = some (.iface 98 (.pointer (some (ad 1))))
  c2 : w.cell? ⟨2, 0, none⟩ = some (.iface 98 (.pointer (some (ad 2))))
  c3 : w.cell? ⟨3, 0, none⟩ = some (.iface 98 (.pointer (some (ad 3))))
  c4 : w.cell? ⟨4, 0, none⟩ = some (.iface 98 (.pointer (some (ad 4))))
theorem Errs4.below {w w' : World} {ad : Nat → Addr} (h : Errs4 w ad) (hb : Below w.heap.size w w') : Errs4 w' ad :=
  ⟨cell_later hb h.c1, cell_later hb h.c2, cell_later hb h.c3, cell_later hb h.c4⟩
theorem Errs4.bo {w : World} {ad : Nat → Addr} (h : Errs4 w ad) : ErrsBO w ad := ⟨h.c1, h.c4⟩

set_option maxHeartbeats 400000 in
theorem checkTick_any (g : Nat) (l t : Int) (w : World) (ad : Nat → Addr) (he : Errs4 w ad) (c3 : w.cell? ⟨g, 3, none⟩ = some (.int .i64 l)) :
    Calls Tryd.prog 79 #[.pointer (some ⟨g, 0, none⟩), .int .i64 t] w fun e w' => e = .returned (sentOf ad (tickErr l t)) ∧ w' = w := by
  have e1 := he.c1
  have e4 := he.c4
  clear he
  by_cases h0 : 0 ≤ t ∧ t ≤ 1099511627776
  · have hd : decide (0 ≤ t ∧ t ≤ 1099511627776) = true := by simpa using h0
    have HT : Hid (Calls Tryd.prog 93 #[.int .i64 t] w fun e w' => e = .returned (.bool true) ∧ w' = w) := by
      have := isTick_any t w
      rw [hd] at this
      exact this
    clear hd
    by_cases h1 : t < l
    · have hs : tickErr l t = 5 := by unfold tickErr; rw [if_pos h0, if_pos h1]
      rw [hs]
      show Calls _ _ _ _ fun e w' => e = .returned (.iface 98 (.pointer (some (ad 4)))) ∧ w' = w
      clear h0 hs
      go_enter Tryd.func79, Tryd.ntmps79
      go_wp2_with (go_at_call 93; refine HT.out.mono ?_; rintro e w1 ⟨rfl, rfl⟩)
      go_ret
      exact ⟨rfl, rfl⟩
    · have hs : tickErr l t = 0 := by unfold tickErr; rw [if_pos h0, if_neg h1]
      rw [hs]
      show Calls _ _ _ _ fun e w' => e = .returned .nilIface ∧ w' = w
      clear h0 hs
      go_enter Tryd.func79, Tryd.ntmps79
      go_wp2_with (go_at_call 93; refine HT.out.mono ?_; rintro e w1 ⟨rfl, rfl⟩)
      go_ret
      exact ⟨rfl, rfl⟩
  · have hd : decide (0 ≤ t ∧ t ≤ 1099511627776) = false := by simpa using h0
    have HT : Hid (Calls Tryd.prog 93 #[.int .i64 t] w fun e w' => e = .returned (.bool false) ∧ w' = w) := by
      have := isTick_any t w
      rw [hd] at this
      exact this
    have hs : tickErr l t = 2 := by unfold tickErr; rw [if_neg h0]
    rw [hs]
    show Calls _ _ _ _ fun e w' => e = .returned (.iface 98 (.pointer (some (ad 1)))) ∧ w' = w
    clear h0 hs hd
    go_enter Tryd.func79, Tryd.ntmps79
    go_wp2_with (go_at_call 93; refine HT.out.mono ?_; rintro e w1 ⟨rfl, rfl⟩)
    go_ret
    exact ⟨rfl, rfl⟩

set_option maxHeartbeats 400000 in
theorem checkTake_any (g : Nat) (l t n : Int) (w : World) (ad : Nat → Addr) (he : Errs4 w ad) (c3 : w.cell? ⟨g, 3, none⟩ = some (.int .i64 l)) :
    Calls Tryd.prog 76 #[.pointer (some ⟨g, 0, none⟩), .int .i64 t, .int .i64 n] w fun e w' => e = .returned (sentOf ad (askErr l t n)) ∧ w' = w := by
  have e1 := he.c1
  have HC : Hid (Calls Tryd.prog 79 #[.pointer (some ⟨g, 0, none⟩), .int .i64 t] w fun e w' => e = .returned (sentOf ad (tickErr l t)) ∧ w' = w) := checkTick_any g l t w ad he c3
  clear he c3
  by_cases h0 : 1 ≤ n ∧ n ≤ 1500
  · have hd : decide (1 ≤ n ∧ n ≤ 1500) = true := by simpa using h0
    have HT : Hid (Calls Tryd.prog 92 #[.int .i64 n] w fun e w' => e = .returned (.bool true) ∧ w' = w) := by
      have := isSize_any n w
      rw [hd] at this
      exact this
    have hs : askErr l t n = tickErr l t := by unfold askErr; rw [if_pos h0]
    rw [hs]
    clear hd hs h0
    generalize sentOf ad (tickErr l t) = E at *
    go_enter Tryd.func76, Tryd.ntmps76
    go_wp2_with (first
      | (go_at_call 92; refine HT.out.mono ?_; rintro e w1 ⟨rfl, rfl⟩)
      | (go_at_call 79; refine HC.out.mono ?_; rintro e w1 ⟨rfl, rfl⟩))
    go_ret
    exact ⟨rfl, rfl⟩
  · have hd : decide (1 ≤ n ∧ n ≤ 1500) = false := by simpa using h0
    have HT : Hid (Calls Tryd.prog 92 #[.int .i64 n] w fun e w' => e = .returned (.bool false) ∧ w' = w) := by
      have := isSize_any n w
      rw [hd] at this
      exact this
    have hs : askErr l t n = 2 := by unfold askErr; rw [if_neg h0]
    rw [hs]
    show Calls _ _ _ _ fun e w' => e = .returned (.iface 98 (.pointer (some (ad 1)))) ∧ w' = w
    clear hd hs h0 HC
    go_enter Tryd.func76, Tryd.ntmps76
    go_wp2_with (go_at_call 92; refine HT.out.mono ?_; rintro e w1 ⟨rfl, rfl⟩)
    go_ret
    exact ⟨rfl, rfl⟩

set_option maxHeartbeats 400000 in
theorem until_have (m r h n : Int) (w : World) (hn : n ≤ h) :
    Calls Tryd.prog 78 #[.agg #[.int .i64 m, .int .i64 r], .int .i64 h, .int .i64 n] w fun e w' => e = .returned (.tuple #[.int .i64 0, .bool true]) ∧ w' = w.alloc (.cells #[.int .i64 m, .int .i64 r] 118) := by
  go_enter Tryd.func78, Tryd.ntmps78
  go_wp2
  go_ret2
  exact ⟨rfl, rfl⟩
set_option maxHeartbeats 400000 in
theorem until_none (m r h n : Int) (w : World) (hn : h < n) (hz : m < n ∨ r = 0) :
    Calls Tryd.prog 78 #[.agg #[.int .i64 m, .int .i64 r], .int .i64 h, .int .i64 n] w fun e w' => e = .returned (.tuple #[.int .i64 0, .bool false]) ∧ w' = w.alloc (.cells #[.int .i64 m, .int .i64 r] 118) := by
  have hn' : ¬ n ≤ h := by omega
  by_cases h1 : m < n
  · clear hz
    go_enter Tryd.func78, Tryd.ntmps78
    go_wp2
    go_ret2
    exact ⟨rfl, rfl⟩
  · obtain rfl : r = 0 := by omega
    clear hz
    go_enter Tryd.func78, Tryd.ntmps78
    go_wp2
    go_ret2
    exact ⟨rfl, rfl⟩
set_option maxHeartbeats 400000 in
theorem until_some (m r h n : Int) (w : World) (hn : h < n) (hm : n ≤ m) (hr : 0 < r) (r1 : r ≤ 100000) (h0 : 0 ≤ h) (m1 : m ≤ 20000000) :
    Calls Tryd.prog 78 #[.agg #[.int .i64 m, .int .i64 r], .int .i64 h, .int .i64 n] w fun e w' => e = .returned (.tuple #[.int .i64 ((n - h + r - 1) / r), .bool true]) ∧ w' = w.alloc (.cells #[.int .i64 m, .int .i64 r] 118) := by
  have hn' : ¬ n ≤ h := by omega
  have hm' : ¬ m < n := by omega
  have hr' : ¬ r = 0 := by omega
  have hr2 : (r == 0) = false := by simpa using hr'
  go_enter Tryd.func78, Tryd.ntmps78
  go_wp2
  go_ret2
  exact ⟨rfl, rfl⟩
end Go.Proofs.YtlknljbceppedaaDoor
