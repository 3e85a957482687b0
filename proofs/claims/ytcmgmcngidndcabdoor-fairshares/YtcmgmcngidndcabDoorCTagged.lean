/- Walks: the closed fact of the laws on tags. -/
import Derived.Test.YtcmgmcngidndcabDoorCFair1
import Derived.Test.YtcmgmcngidndcabDoorCSameInts
namespace Go.Proofs.YtcmgmcngidndcabDoor
open Go.RowKit

def tg0 : Pk := ⟨0, 10, 0⟩
def twos : List Int := [2, 1, 1, 1, 1, 1, 1, 1]
theorem okPks_tagged : OkPks [tg0, tg0] := ⟨by decide, fun i p h => by
  match i, h with
  | 0, h => cases h; exact ⟨rfl, by decide⟩
  | 1, h => cases h; exact ⟨rfl, by decide⟩
  | i + 2, h => simp at h⟩
theorem wtsAll_twos : WtsAll twos := ⟨rfl, fun i x h => by
  match i, h with
  | 0, h => cases h; exact ⟨by decide, by decide⟩
  | 1, h => cases h; exact ⟨by decide, by decide⟩
  | 2, h => cases h; exact ⟨by decide, by decide⟩
  | 3, h => cases h; exact ⟨by decide, by decide⟩
  | 4, h => cases h; exact ⟨by decide, by decide⟩
  | 5, h => cases h; exact ⟨by decide, by decide⟩
  | 6, h => cases h; exact ⟨by decide, by decide⟩
  | 7, h => cases h; exact ⟨by decide, by decide⟩
  | i + 8, h => simp [twos] at h⟩
/-- What tags send there. -/
theorem tagged_list : FairSent 1 [tg0, tg0] twos [⟨0, 0, 10⟩, ⟨1, 10, 20⟩] [60, 120] := by
  have r0 : Reaches (fairQ [tg0, tg0] twos) 1 [tg0, tg0] fair0 ⟨[], 0, 0, fair0⟩ := .start
  have r1 := Reaches.come _ tg0 r0 rfl (by decide)
  have r2 := Reaches.come _ tg0 r1 rfl (by decide)
  have r3 := Reaches.send _ tg0 r2 (fun r h => by cases h) (by decide) rfl
  have r4 := Reaches.send _ tg0 r3 (fun r h => by cases h) (by decide) rfl
  exact ⟨_, r4, by decide, rfl, rfl, rfl⟩
theorem lies_tagged (w : World) (t : TypeId) : LiesP (w.alloc (.cells #[.int .i64 0, .int .i64 10, .int .i64 0, .int .i64 0, .int .i64 10, .int .i64 0] t)) (some ⟨w.heap.size, 0, none⟩) [tg0, tg0] :=
  .inr ⟨w.heap.size, 0, rfl, by simp, fun i p h => by
    match i, h with
    | 0, h => cases h; exact ⟨by simp [tg0], by simp [tg0], by simp [tg0]⟩
    | 1, h => cases h; exact ⟨by simp [tg0], by simp [tg0], by simp [tg0]⟩
    | i + 2, h => simp at h⟩
theorem lies_twos (w : World) (t : TypeId) : LiesN (w.alloc (.cells #[.int .i64 2, .int .i64 1, .int .i64 1, .int .i64 1, .int .i64 1, .int .i64 1, .int .i64 1, .int .i64 1] t)) (some ⟨w.heap.size, 0, none⟩) twos :=
  .inr ⟨w.heap.size, 0, rfl, by simp, fun i p h => by
    match i, h with
    | 0, h => cases h; simp
    | 1, h => cases h; simp
    | 2, h => cases h; simp
    | 3, h => cases h; simp
    | 4, h => cases h; simp
    | 5, h => cases h; simp
    | 6, h => cases h; simp
    | 7, h => cases h; simp
    | i + 8, h => simp [twos] at h⟩

set_option maxRecDepth 100000 in
set_option maxHeartbeats 2000000 in
theorem tagged_any (w : World) : Calls Tryd.prog 45 #[] w fun e w' => e = .returned (.bool true) ∧ Below w.heap.size w w' := by
  have HRun : Hid (∀ W pb wb, Below w.heap.size w W → LiesP W (some ⟨pb, 0, none⟩) [tg0, tg0] → LiesN W (some ⟨wb, 0, none⟩) twos → Calls Tryd.prog 47 #[.slice (some ⟨pb, 0, none⟩) 2 2, .int .i64 1, .slice (some ⟨wb, 0, none⟩) 8 8] W fun e w' => ∃ gt, e = .returned (.tuple #[.slice (some ⟨gt, 0, none⟩) 2 2, .nilIface]) ∧ w'.cell? ⟨gt, 0, none⟩ = some (.int .i64 60) ∧ w'.cell? ⟨gt, 1, none⟩ = some (.int .i64 120) ∧ Below w.heap.size w w') := fun W pb wb hb g1 g2 => by
    refine (fairTags_ok (some ⟨pb, 0, none⟩) 2 [tg0, tg0] 1 (some ⟨wb, 0, none⟩) 8 twos W g1 g2 okPks_tagged (by decide) (by decide) wtsAll_twos).mono ?_
    rintro e w' ⟨gt, l, f, rfl, h1, h2, h3⟩
    have hs := (h1.same tagged_list).2
    have e0 : f 0 = 60 ∧ f 1 = 120 := by simpa [List.range_succ] using hs
    have c0 := h2.cell 0 (by decide)
    have c1 := h2.cell 1 (by decide)
    rw [e0.1] at c0
    rw [e0.2] at c1
    exact ⟨gt, rfl, c0, c1, hb.trans (h3.mono hb.size)⟩
  go_enter Tryd.func45, Tryd.ntmps45
  go_wp2_with fail
  have hs : (w.alloc (.cells #[.int .i64 0, .int .i64 10, .int .i64 0, .int .i64 0, .int .i64 10, .int .i64 0] 27)).heap.size = w.heap.size + 1 := by simp
  have hb1 : Below w.heap.size w (w.alloc (.cells #[.int .i64 0, .int .i64 10, .int .i64 0, .int .i64 0, .int .i64 10, .int .i64 0] 27)) := (Below.refl _ _).alloc (Nat.le_refl _) _
  have hb2 : Below (w.alloc (.cells #[.int .i64 0, .int .i64 10, .int .i64 0, .int .i64 0, .int .i64 10, .int .i64 0] 27)).heap.size (w.alloc (.cells #[.int .i64 0, .int .i64 10, .int .i64 0, .int .i64 0, .int .i64 10, .int .i64 0] 27)) ((w.alloc (.cells #[.int .i64 0, .int .i64 10, .int .i64 0, .int .i64 0, .int .i64 10, .int .i64 0] 27)).alloc (.cells #[.int .i64 2, .int .i64 1, .int .i64 1, .int .i64 1, .int .i64 1, .int .i64 1, .int .i64 1, .int .i64 1] 3)) := (Below.refl _ _).alloc (Nat.le_refl _) _
  have hln := lies_twos (w.alloc (.cells #[.int .i64 0, .int .i64 10, .int .i64 0, .int .i64 0, .int .i64 10, .int .i64 0] 27)) 3
  rw [hs] at hln
  refine (HRun.out _ w.heap.size (w.heap.size + 1) (hb1.trans (hb2.mono hb1.size)) ((lies_tagged w 27).below hb2) hln).mono ?_
  rintro e w1 ⟨gt, rfl, c0, c1, hb⟩
  have hba : Below w1.heap.size w1 (w1.alloc (.cells #[.int .i64 60, .int .i64 120] 3)) := (Below.refl _ _).alloc (Nat.le_refl _) _
  have HB : Hid (Below w.heap.size w (w1.alloc (.cells #[.int .i64 60, .int .i64 120] 3))) := hb.trans (hba.mono hb.size)
  have HSame : Hid (Calls Tryd.prog 50 #[.slice (some ⟨gt, 0, none⟩) 2 2, .slice (some ⟨w1.heap.size, 0, none⟩) 2 2] (w1.alloc (.cells #[.int .i64 60, .int .i64 120] 3)) fun e w' => e = .returned (.bool true) ∧ Below (w1.alloc (.cells #[.int .i64 60, .int .i64 120] 3)).heap.size (w1.alloc (.cells #[.int .i64 60, .int .i64 120] 3)) w') := by
    refine sameInts_yes gt 0 w1.heap.size 0 2 2 2 (fun i => if i = 0 then 60 else 120) _ (by decide) (fun i hi => ?_) (fun i hi => ?_)
    · match i, hi with
      | 0, _ => exact cell_later hba c0
      | 1, _ => exact cell_later hba c1
      | i + 2, h => omega
    · match i, hi with
      | 0, _ => simp
      | 1, _ => simp
      | i + 2, h => omega
  clear hs hb1 hb2 hln hb hba c0 c1
  go_wp2_with fail
  refine HSame.out.mono ?_
  rintro e w2 ⟨rfl, hb2⟩
  have HB2 : Hid (Below w.heap.size w w2) := HB.out.trans (hb2.mono HB.out.size)
  clear hb2
  go_wp2_with fail
  go_ret
  exact ⟨rfl, HB2.out⟩
end Go.Proofs.YtcmgmcngidndcabDoor
