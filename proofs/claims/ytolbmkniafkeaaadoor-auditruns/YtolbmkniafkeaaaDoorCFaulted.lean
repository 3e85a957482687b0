/- The laws' own helper: an error's number and place. -/
import Derived.Test.YtolbmkniafkeaaaDoorCAllErrs
namespace Go.Proofs.YtolbmkniafkeaaaDoor
open Go.RowKit

/-- faulted says yes where Code gives that number and that place. -/
theorem faulted_yes (E : Value) (code at_ : Int) (w : World) (h : CodeIs w E code at_) :
    Calls Tryd.prog 8 #[E, .agg #[.int .i64 code, .int .i64 at_]] w fun e w' => e = .returned (.bool true) ∧ Below w.heap.size w w' := by
  have hb0 : Below w.heap.size w (w.alloc (.cells #[.int .i64 code, .int .i64 at_] 34)) := (Below.refl _ _).alloc (Nat.le_refl _) _
  have HC := (show Hid (Calls Tryd.prog 22 #[E] (w.alloc (.cells #[.int .i64 code, .int .i64 at_] 34)) fun e w' => e = .returned (.tuple #[.int .i64 code, .int .i64 at_]) ∧ Below (w.alloc (.cells #[.int .i64 code, .int .i64 at_] 34)).heap.size (w.alloc (.cells #[.int .i64 code, .int .i64 at_] 34)) w') from h _ hb0)
  clear h hb0
  by_cases hz : code = 0
  · subst hz
    go_enter Tryd.func8, Tryd.ntmps8
    go_wp2_with fail
    refine HC.out.mono ?_
    rintro e w1 ⟨rfl, hb⟩
    have HB : Hid (Below w.heap.size w w1) := ((Below.refl _ _).alloc (Nat.le_refl _) _).trans (hb.mono (by simp))
    have c0 : w1.cell? ⟨w.heap.size, 0, none⟩ = some (.int .i64 0) := cell_later hb (by simp)
    clear hb
    go_wp2_with fail
    go_ret
    exact ⟨rfl, HB.out⟩
  · have hz' : (code == 0) = false := by simpa using hz
    go_enter Tryd.func8, Tryd.ntmps8
    go_wp2_with fail
    refine HC.out.mono ?_
    rintro e w1 ⟨rfl, hb⟩
    have HB : Hid (Below w.heap.size w w1) := ((Below.refl _ _).alloc (Nat.le_refl _) _).trans (hb.mono (by simp))
    have c0 : w1.cell? ⟨w.heap.size, 0, none⟩ = some (.int .i64 code) := cell_later hb (by simp)
    have c1 : w1.cell? ⟨w.heap.size, 1, none⟩ = some (.int .i64 at_) := cell_later hb (by simp)
    clear hb
    go_wp2_with fail
    go_ret
    exact ⟨rfl, HB.out⟩
end Go.Proofs.YtolbmkniafkeaaaDoor
