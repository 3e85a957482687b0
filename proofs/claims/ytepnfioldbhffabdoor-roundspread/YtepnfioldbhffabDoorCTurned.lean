/- Walks: the closed fact of the laws on rounds. -/
import Derived.Test.YtepnfioldbhffabDoorCRound1
namespace Go.Proofs.YtepnfioldbhffabDoor
open Go.RowKit

def tk0 : Pk := ⟨0, 10, 0⟩
def tk1 : Pk := ⟨1, 10, 0⟩
def tens : List Int := [10, 10, 10, 10, 10, 10, 10, 10]
theorem okPks_turned : OkPks [tk0, tk0, tk1] := ⟨by decide, fun i p h => by
  match i, h with
  | 0, h => cases h; exact ⟨rfl, by decide⟩
  | 1, h => cases h; exact ⟨rfl, by decide⟩
  | 2, h => cases h; exact ⟨rfl, by decide⟩
  | i + 3, h => simp at h⟩
theorem numsOk_tens : NumsOk 1 3000 tens := ⟨rfl, fun i x h => by
  match i, h with
  | 0, h => cases h; decide
  | 1, h => cases h; decide
  | 2, h => cases h; decide
  | 3, h => cases h; decide
  | 4, h => cases h; decide
  | 5, h => cases h; decide
  | 6, h => cases h; decide
  | 7, h => cases h; decide
  | i + 8, h => simp [tens] at h⟩
/-- What rounds send there. -/
theorem turned_list : RoundSent 1 [tk0, tk0, tk1] tens [⟨0, 0, 10⟩, ⟨2, 10, 20⟩, ⟨1, 20, 30⟩] := by
  have r0 : Reaches (turnsQ [tk0, tk0, tk1] tens) 1 [tk0, tk0, tk1] turns0 ⟨[], 0, 0, turns0⟩ := .start
  have r1 := Reaches.come _ tk0 r0 rfl (by decide)
  have r2 := Reaches.come _ tk0 r1 rfl (by decide)
  have r3 := Reaches.come _ tk1 r2 rfl (by decide)
  have r4 := Reaches.send _ tk0 r3 (fun r h => by cases h) (by decide) rfl
  have r5 := Reaches.send _ tk1 r4 (fun r h => by cases h) (by decide) rfl
  have r6 := Reaches.send _ tk0 r5 (fun r h => by cases h) (by decide) rfl
  exact ⟨_, r6, by decide, rfl, rfl⟩
theorem lies_turned (w : World) (t : TypeId) : LiesP (w.alloc (.cells #[.int .i64 0, .int .i64 10, .int .i64 0, .int .i64 0, .int .i64 10, .int .i64 0, .int .i64 1, .int .i64 10, .int .i64 0] t)) (some ⟨w.heap.size, 0, none⟩) [tk0, tk0, tk1] :=
  .inr ⟨w.heap.size, 0, rfl, by simp, fun i p h => by
    match i, h with
    | 0, h => cases h; exact ⟨by simp [tk0], by simp [tk0], by simp [tk0]⟩
    | 1, h => cases h; exact ⟨by simp [tk0], by simp [tk0], by simp [tk0]⟩
    | 2, h => cases h; exact ⟨by simp [tk1], by simp [tk1], by simp [tk1]⟩
    | i + 3, h => simp at h⟩
theorem lies_tens (w : World) (t : TypeId) : LiesN (w.alloc (.cells #[.int .i64 10, .int .i64 10, .int .i64 10, .int .i64 10, .int .i64 10, .int .i64 10, .int .i64 10, .int .i64 10] t)) (some ⟨w.heap.size, 0, none⟩) tens :=
  .inr ⟨w.heap.size, 0, rfl, by simp, fun i p h => by
    match i, h with
    | 0, h => cases h; simp
    | 1, h => cases h; simp
    | 2, h => cases h; simp
    | 3, h => cases h; simp
    | 4, h => cases h; simp
    | 5, h => cases h; simp
    | 6, h => cases h; simp
    | 7, h => cases h; simp
    | i + 8, h => simp [tens] at h⟩

set_option maxRecDepth 100000 in
set_option maxHeartbeats 2000000 in
theorem turned_any (w : World) : Calls Tryd.prog 38 #[] w fun e w' => e = .returned (.bool true) ∧ Below w.heap.size w w' := by
  have HRun : Hid (Calls Tryd.prog 42 #[.slice (some ⟨w.heap.size + 1, 0, none⟩) 3 3, .int .i64 1, .slice (some ⟨w.heap.size, 0, none⟩) 8 8] ((w.alloc (.cells #[.int .i64 10, .int .i64 10, .int .i64 10, .int .i64 10, .int .i64 10, .int .i64 10, .int .i64 10, .int .i64 10] 3)).alloc (.cells #[.int .i64 0, .int .i64 10, .int .i64 0, .int .i64 0, .int .i64 10, .int .i64 0, .int .i64 1, .int .i64 10, .int .i64 0] 27)) fun e w' => ∃ v, e = .returned (.tuple #[v, .nilIface]) ∧ OwnS w' w.heap.size v [⟨0, 0, 10⟩, ⟨2, 10, 20⟩, ⟨1, 20, 30⟩] ∧ Below w.heap.size w w') := by
    have hs : (w.alloc (.cells #[.int .i64 10, .int .i64 10, .int .i64 10, .int .i64 10, .int .i64 10, .int .i64 10, .int .i64 10, .int .i64 10] 3)).heap.size = w.heap.size + 1 := by simp
    have hlp := lies_turned (w.alloc (.cells #[.int .i64 10, .int .i64 10, .int .i64 10, .int .i64 10, .int .i64 10, .int .i64 10, .int .i64 10, .int .i64 10] 3)) 27
    rw [hs] at hlp
    have hb0 : Below w.heap.size w ((w.alloc (.cells #[.int .i64 10, .int .i64 10, .int .i64 10, .int .i64 10, .int .i64 10, .int .i64 10, .int .i64 10, .int .i64 10] 3)).alloc (.cells #[.int .i64 0, .int .i64 10, .int .i64 0, .int .i64 0, .int .i64 10, .int .i64 0, .int .i64 1, .int .i64 10, .int .i64 0] 27)) := ((Below.refl _ _).alloc (Nat.le_refl _) _).alloc (by rw [hs]; omega) _
    refine (roundRun_ok (some ⟨w.heap.size + 1, 0, none⟩) 3 [tk0, tk0, tk1] 1 (some ⟨w.heap.size, 0, none⟩) 8 tens _ hlp ((lies_tens w 3).below ((Below.refl _ _).alloc (Nat.le_refl _) _)) okPks_turned (by decide) (by decide) numsOk_tens).mono ?_
    rintro e w' ⟨v, rfl, l, g1, g2, g3⟩
    rw [g2.same turned_list] at g1
    exact ⟨v, rfl, ownsRow_mono g1 hb0.size, hb0.trans (g3.mono hb0.size)⟩
  go_enter Tryd.func38, Tryd.ntmps38
  go_wp2_with fail
  refine HRun.out.mono ?_
  rintro e w1 ⟨v, rfl, hown, hb⟩
  obtain ⟨a', cap', rfl, h1, h2, h3, -, -⟩ := hown.open
  obtain ⟨b, off, rfl, -, hc⟩ := h3.place (by simp)
  have c1 : w1.cell? ⟨b, off + 3, none⟩ = some (.int .i64 2) := by simpa using (hc 1 _ rfl).1
  have c2 : w1.cell? ⟨b, off + 6, none⟩ = some (.int .i64 1) := by simpa using (hc 2 _ rfl).1
  have HB : Hid (Below w.heap.size w w1) := hb
  clear hown h3 hc hb
  simp only [List.length_cons, List.length_nil, Nat.zero_add] at *
  go_wp2_with fail
  go_ret
  exact ⟨rfl, HB.out⟩
end Go.Proofs.YtepnfioldbhffabDoor
