/- The document's answer: an error's number and place, as it makes them. -/
import Derived.Test.YtepnfioldbhffabDoorCUtil
namespace Go.Proofs.YtepnfioldbhffabDoor
open Go.RowKit

set_option maxHeartbeats 400000 in
theorem bare_any (n : Int) (w : World) : Calls Tryd.prog 31 #[.int .i64 n] w fun e w' => e = .returned (.agg #[.int .i64 n, .int .i64 (-1)]) ∧ Below w.heap.size w w' := by
  go_enter Tryd.func31, Tryd.ntmps31
  go_wp2
  exact bodyPost_ret (v := .agg #[.int .i64 n, .int .i64 (-1)]) (by simp [results, Tryd.results31, go_sem]) rfl ⟨rfl, (Below.refl _ _).alloc (Nat.le_refl _) _⟩
set_option maxHeartbeats 400000 in
theorem fine_any (w : World) : Calls Tryd.prog 40 #[] w fun e w' => e = .returned (.agg #[.int .i64 0, .int .i64 (-1)]) ∧ Below w.heap.size w w' := by
  go_enter Tryd.func40, Tryd.ntmps40
  go_wp2
  exact bodyPost_ret (v := .agg #[.int .i64 0, .int .i64 (-1)]) (by simp [results, Tryd.results40, go_sem]) rfl ⟨rfl, (Below.refl _ _).alloc (Nat.le_refl _) _⟩

/-- A block of two cells that the call has made, behind a callee's own work. -/
structure Two (w w1 : World) (x y : Value) : Prop where
  c0 : w1.cell? ⟨w.heap.size, 0, none⟩ = some x
  c1 : w1.cell? ⟨w.heap.size, 1, none⟩ = some y
  f0 : w1.frozen? ⟨w.heap.size, 0, none⟩ = false
  f1 : w1.frozen? ⟨w.heap.size, 1, none⟩ = false
theorem two_new (w : World) (x y : Value) (t : TypeId) : Two w (w.alloc (.cells #[x, y] t)) x y := ⟨by simp, by simp, by simp, by simp⟩
theorem Two.later {w w1 w2 : World} {x y : Value} (h : Two w w1 x y) (hb : Below w1.heap.size w1 w2) : Two w w2 x y :=
  have l := cell_lt h.c0
  ⟨cell_later hb h.c0, cell_later hb h.c1, by rw [hb.frozen (p := ⟨w.heap.size, 0, none⟩) l]; exact h.f0, by rw [hb.frozen (p := ⟨w.heap.size, 1, none⟩) l]; exact h.f1⟩
end Go.Proofs.YtepnfioldbhffabDoor
