/- Walks: the closed fact of the laws on links. -/
import Derived.Test.YtepnfioldbhffabDoorCFifo1
import Derived.Test.YtepnfioldbhffabDoorCSentEq
namespace Go.Proofs.YtepnfioldbhffabDoor
open Go.RowKit

def pk1 : Pk := ⟨0, 3, 5⟩
theorem okPks_one : OkPks [pk1] := ⟨by decide, fun i p h => by
  match i, h with
  | 0, h => cases h; exact ⟨rfl, by decide⟩
  | i + 1, h => simp at h⟩
theorem lies_one (w : World) : LiesP (w.alloc (.cells #[.int .i64 0, .int .i64 3, .int .i64 5] 27)) (some ⟨w.heap.size, 0, none⟩) [pk1] :=
  .inr ⟨w.heap.size, 0, rfl, by simp, fun i p h => by
    match i, h with
    | 0, h => cases h; exact ⟨by simp [pk1], by simp [pk1], by simp [pk1]⟩
    | i + 1, h => simp at h⟩
theorem lind_one : lindAll 2 [pk1] [pk1].length = [⟨0, 5, 11⟩] := rfl

set_option maxHeartbeats 1000000 in
theorem sends_any (w : World) : Calls Tryd.prog 15 #[] w fun e w' => e = .returned (.bool true) ∧ Below w.heap.size w w' := by
  have q1 := Tryd.eqlSent
  have g1 := fun (w : World) op x y xs ys => run_eqGuard_agg (P := Tryd.prog) w op 43 x y xs ys Tryd.sentGuard
  go_enter Tryd.func15, Tryd.ntmps15
  go_wp2_with fail
  refine (fifoRun_ok (some ⟨w.heap.size, 0, none⟩) 1 [pk1] 2 _ (lies_one w) okPks_one (by decide) (by decide)).mono ?_
  rintro e w1 ⟨v, rfl, hown, hb⟩
  rw [lind_one] at hown
  obtain ⟨a', cap', rfl, h1, h2, h3, -, -⟩ := hown.open
  obtain ⟨b, off, rfl, -, hc⟩ := h3.place (by simp)
  have c1 : w1.cell? ⟨b, off, none⟩ = some (.int .i64 0) := by simpa using (hc 0 _ rfl).1
  have c2 : w1.cell? ⟨b, off + 1, none⟩ = some (.int .i64 5) := by simpa using (hc 0 _ rfl).2.1
  have c3 : w1.cell? ⟨b, off + 2, none⟩ = some (.int .i64 11) := by simpa using (hc 0 _ rfl).2.2
  have HB : Hid (Below w.heap.size w w1) := ((Below.refl _ _).alloc (Nat.le_refl _) _).trans (hb.mono (by simp))
  clear hown h3 hc hb
  simp only [List.length_cons, List.length_nil, Nat.zero_add] at *
  go_wp2_with fail
  go_ret
  exact ⟨rfl, HB.out⟩
end Go.Proofs.YtepnfioldbhffabDoor
