/- CurveRises: the ways that end early. -/
import Derived.Test.YtcldgpbimaoliaaDoorWalk6
import Derived.Test.YtcldgpbimaoliaaDoorPlainRises
namespace Go.Proofs.YtcldgpbimaoliaaDoor
open Go.RowKit

set_option maxHeartbeats 400000 in
theorem rises_len (a : Option Addr) (n cap : Nat) (x y t : Int) (w : World) (hm : n ≤ maxLen) (hn : 6 ≤ n) :
    Calls Tryd.prog 9 #[.slice a n cap, .agg #[.int .i64 x, .int .i64 y], .int .i64 t] w fun e w' => e = .returned (.bool true) ∧ Below w.heap.size w w' := by
  unfold maxLen at hm
  go_enter Tryd.func9, Tryd.ntmps9
  go_wp2_with fail
  refine (drawn_any _).mono ?_
  rintro e w1 ⟨rfl, hb⟩
  have h1 : Below w.heap.size w w1 := ((Below.refl _ _).alloc (Nat.le_refl _) _).trans (hb.mono (by simp))
  have HB : Hid (Below w.heap.size w w1) := h1
  clear hb h1
  go_wp2_with fail
  go_ret
  exact ⟨rfl, HB.out⟩
set_option maxHeartbeats 400000 in
theorem rises_neg (a : Option Addr) (n cap : Nat) (x y t : Int) (w : World) (hn : n < 6) (ht : t < 0) :
    Calls Tryd.prog 9 #[.slice a n cap, .agg #[.int .i64 x, .int .i64 y], .int .i64 t] w fun e w' => e = .returned (.bool true) ∧ Below w.heap.size w w' := by
  go_enter Tryd.func9, Tryd.ntmps9
  go_wp2_with fail
  refine (drawn_any _).mono ?_
  rintro e w1 ⟨rfl, hb⟩
  have h1 : Below w.heap.size w w1 := ((Below.refl _ _).alloc (Nat.le_refl _) _).trans (hb.mono (by simp))
  have HB : Hid (Below w.heap.size w w1) := h1
  clear hb h1
  go_wp2_with fail
  go_ret
  exact ⟨rfl, HB.out⟩
set_option maxHeartbeats 400000 in
theorem rises_late (a : Option Addr) (n cap : Nat) (x y t : Int) (w : World) (hn : n < 6) (ht0 : 0 ≤ t) (ht : 1099511627774 < t) :
    Calls Tryd.prog 9 #[.slice a n cap, .agg #[.int .i64 x, .int .i64 y], .int .i64 t] w fun e w' => e = .returned (.bool true) ∧ Below w.heap.size w w' := by
  go_enter Tryd.func9, Tryd.ntmps9
  go_wp2_with fail
  refine (drawn_any _).mono ?_
  rintro e w1 ⟨rfl, hb⟩
  have h1 : Below w.heap.size w w1 := ((Below.refl _ _).alloc (Nat.le_refl _) _).trans (hb.mono (by simp))
  have HB : Hid (Below w.heap.size w w1) := h1
  clear hb h1
  go_wp2_with fail
  go_ret
  exact ⟨rfl, HB.out⟩
set_option maxHeartbeats 400000 in
theorem rises_line (a : Option Addr) (n cap : Nat) (x y t : Int) (w : World) (hn : n < 6) (ht0 : 0 ≤ t) (ht : t ≤ 1099511627774) (ho : okLine x y = false) :
    Calls Tryd.prog 9 #[.slice a n cap, .agg #[.int .i64 x, .int .i64 y], .int .i64 t] w fun e w' => e = .returned (.bool true) ∧ Below w.heap.size w w' := by
  have HO : Hid (okLine x y = false) := ho
  clear ho
  go_enter Tryd.func9, Tryd.ntmps9
  go_wp2_with fail
  refine (drawn_any _).mono ?_
  rintro e w1 ⟨rfl, hb⟩
  have h1 : Below w.heap.size w w1 := ((Below.refl _ _).alloc (Nat.le_refl _) _).trans (hb.mono (by simp))
  have HB : Hid (Below w.heap.size w w1) := h1
  have c0 : w1.cell? ⟨w.heap.size, 0, none⟩ = some (.int .i64 x) := cell_later hb (by simp)
  have c1 : w1.cell? ⟨w.heap.size, 1, none⟩ = some (.int .i64 y) := cell_later hb (by simp)
  clear hb h1
  go_wp2_with fail
  refine (lineError_no x y _ HO.out).mono ?_
  rintro e w2 ⟨rfl, rfl⟩
  go_wp2_with fail
  go_ret
  exact ⟨rfl, HB.out.alloc HB.out.size _⟩
end Go.Proofs.YtcldgpbimaoliaaDoor
