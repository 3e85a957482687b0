/- The laws' own helpers: an error's number, with or without its place. -/
import Derived.Test.YtnkmnohofdpeeaaDoorErrs3
namespace Go.Proofs.YtnkmnohofdpeeaaDoor
open Go.RowKit

/-- From world w0 on, Code gives the number c and the place a of the error E. -/
def CodeIs (w0 : World) (E : Value) (c a : Int) : Prop :=
  ∀ w, Below w0.heap.size w0 w → Calls Tryd.prog 16 #[E] w fun e w' => e = .returned (.tuple #[.int .i64 c, .int .i64 a]) ∧ Below w.heap.size w w'
theorem CodeIs.below {w w' : World} {E : Value} {c a : Int} (h : CodeIs w E c a) (hb : Below w.heap.size w w') : CodeIs w' E c a :=
  fun _ hb' => h _ (hb.trans (hb'.mono hb.size))
theorem codeIs_nil (w : World) : CodeIs w .nilIface 0 (-1) := fun w _ => (code_nil w).mono fun _ _ h => ⟨h.1, by rw [h.2]; exact Below.refl _ _⟩
theorem codeIs_sent {w : World} {ad : Nat → Addr} (he : Errs9 w ad) (k : Nat) (hk : k < 9) : CodeIs w (.iface 98 (.pointer (some (ad k)))) (k + 1) (-1) :=
  fun w' hb => code_sent ad k hk w' (he.below hb)
theorem codeIs_fault {w : World} {ad : Nat → Addr} (he : Errs9 w ad) (k : Nat) (hk : k < 9) (n : Int) (pb : Nat) (h0 : w.cell? ⟨pb, 0, none⟩ = some (.int .i64 n)) (h1 : w.cell? ⟨pb, 1, none⟩ = some (.iface 98 (.pointer (some (ad k))))) :
    CodeIs w (.iface 29 (.pointer (some ⟨pb, 0, none⟩))) (k + 1) n :=
  fun w' hb => code_fault ad k hk n pb w' (he.below hb) (cell_later hb h0) (cell_later hb h1)
theorem codeIs_other {w : World} {ad : Nat → Addr} (he : Errs9 w ad) (a : Addr) (hne : ∀ j, j < 9 → a ≠ ad j) (hba : ∃ c t, w.heap[a.block]? = some (.cells c t (0, 0))) : CodeIs w (.iface 98 (.pointer (some a))) (-1) (-1) :=
  fun w' hb => code_other ad a w' (he.below hb) hne (by obtain ⟨c, t, h⟩ := hba; exact ⟨c, t, block_later hb h⟩)

/-- coded says yes where Code gives that number, and no place. -/
theorem coded_yes (E : Value) (code : Int) (w : World) (h : CodeIs w E code (-1)) :
    Calls Tryd.prog 17 #[E, .int .i64 code] w fun e w' => e = .returned (.bool true) ∧ Below w.heap.size w w' := by
  have HC : Hid (CodeIs w E code (-1)) := h
  clear h
  go_enter Tryd.func17, Tryd.ntmps17
  go_wp2_with fail
  refine (HC.out w (Below.refl _ _)).mono ?_
  rintro e w1 ⟨rfl, hb⟩
  go_wp2_with fail
  go_ret
  exact ⟨rfl, hb⟩
/-- faulted says yes where Code gives that number and that place. -/
theorem faulted_yes (E : Value) (code at_ : Int) (w : World) (h : CodeIs w E code at_) :
    Calls Tryd.prog 23 #[E, .agg #[.int .i64 code, .int .i64 at_]] w fun e w' => e = .returned (.bool true) ∧ Below w.heap.size w w' := by
  have hb0 : Below w.heap.size w (w.alloc (.cells #[.int .i64 code, .int .i64 at_] 40)) := (Below.refl _ _).alloc (Nat.le_refl _) _
  have HC := (show Hid (Calls Tryd.prog 16 #[E] (w.alloc (.cells #[.int .i64 code, .int .i64 at_] 40)) fun e w' => e = .returned (.tuple #[.int .i64 code, .int .i64 at_]) ∧ Below (w.alloc (.cells #[.int .i64 code, .int .i64 at_] 40)).heap.size (w.alloc (.cells #[.int .i64 code, .int .i64 at_] 40)) w') from h _ hb0)
  clear h hb0
  by_cases hz : code = 0
  · subst hz
    go_enter Tryd.func23, Tryd.ntmps23
    go_wp2_with fail
    refine HC.out.mono ?_
    rintro e w1 ⟨rfl, hb⟩
    have HB : Hid (Below w.heap.size w w1) := ((Below.refl _ _).alloc (Nat.le_refl _) _).trans (hb.mono (by simp))
    have c0 : w1.cell? ⟨w.heap.size, 0, none⟩ = some (.int .i64 0) := cell_later hb (by simp)
    clear hb
    go_wp2_with fail
    go_ret
    exact ⟨rfl, HB.out⟩
  · have hz' : (code == 0) = false := by simpa using hz
    go_enter Tryd.func23, Tryd.ntmps23
    go_wp2_with fail
    refine HC.out.mono ?_
    rintro e w1 ⟨rfl, hb⟩
    have HB : Hid (Below w.heap.size w w1) := ((Below.refl _ _).alloc (Nat.le_refl _) _).trans (hb.mono (by simp))
    have c0 : w1.cell? ⟨w.heap.size, 0, none⟩ = some (.int .i64 code) := cell_later hb (by simp)
    have c1 : w1.cell? ⟨w.heap.size, 1, none⟩ = some (.int .i64 at_) := cell_later hb (by simp)
    clear hb
    go_wp2_with fail
    go_ret
    exact ⟨rfl, HB.out⟩

/-- Two rows of the same numbers. -/
theorem sameInts_yes (b1 o1 b2 o2 n c1 c2 : Nat) (f : Nat → Int) (w : World) (hn : n ≤ 9223372036854775807) (h1 : ∀ i, i < n → w.cell? ⟨b1, o1 + i, none⟩ = some (.int .i64 (f i))) (h2 : ∀ i, i < n → w.cell? ⟨b2, o2 + i, none⟩ = some (.int .i64 (f i))) :
    Calls Tryd.prog 15 #[.slice (some ⟨b1, o1, none⟩) n c1, .slice (some ⟨b2, o2, none⟩) n c2] w fun e w' => e = .returned (.bool true) ∧ Below w.heap.size w w' := by
  have H1 : Hid (∀ i, i < n → w.cell? ⟨b1, o1 + i, none⟩ = some (.int .i64 (f i))) := h1
  have H2 : Hid (∀ i, i < n → w.cell? ⟨b2, o2 + i, none⟩ = some (.int .i64 (f i))) := h2
  clear h1 h2
  go_enter Tryd.func15, Tryd.ntmps15
  go_wp2
  go_loopw [5] (fun i wr => ∃ k : Nat, k ≤ n ∧ i = .int .i64 k ∧ ∃ q, wr = w.drewN q) (fun i _ => n - (intOf i).toNat)
  case atStart => exact ⟨0, Nat.zero_le _, rfl, 0, rfl⟩
  case round =>
    obtain ⟨k, hk, rfl, q, rfl⟩ := hrel
    by_cases hkn : k < n
    · have g1 := H1.out k hkn
      have g2 := H2.out k hkn
      go_wp2
      go_quiet (fail)
      go_wp2
      go_roundw
      case rel => exact ⟨k + 1, by omega, by go_num, _, rfl⟩
      case measure => simp [intOf]; omega
    · go_wp2
      go_ret
      exact ⟨rfl, below_drewN (Below.refl _ _) _⟩
end Go.Proofs.YtnkmnohofdpeeaaDoor
