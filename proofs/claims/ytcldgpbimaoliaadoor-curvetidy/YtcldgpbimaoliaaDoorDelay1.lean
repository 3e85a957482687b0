/- Walks: the search by halves, with each of its two closures. -/
import Derived.Test.YtcldgpbimaoliaaDoorWalk6
namespace Go.Proofs.YtcldgpbimaoliaaDoor
open Go.RowKit

set_option maxHeartbeats 400000 in
theorem first_busy (low high : Int) (k1 k2 : Value) (p : Int → Bool) (w0 w : World) (hw : Below w0.heap.size w0 w) (h0 : 0 ≤ low) (h1 : low ≤ high) (h2 : high ≤ 1099511627777)
    (hcall : ∀ (n : Int) (W : World), low ≤ n → n < high → Below w0.heap.size w0 W → Calls Tryd.prog 67 #[.int .i64 n, k1, k2] W fun e w' => e = .returned (.bool (p n)) ∧ Below W.heap.size W w') :
    Calls Tryd.prog 66 #[.int .i64 low, .int .i64 high, .func (.func 67) #[] #[k1, k2]] w fun e w' => ∃ r : Int, e = .returned (.int .i64 r) ∧ low ≤ r ∧ r ≤ high ∧ (r = high ∨ p r = true) ∧ (r = low ∨ p (r - 1) = false) ∧ Below w0.heap.size w0 w' := by
  have HC : Hid (∀ (n : Int) (W : World), low ≤ n → n < high → Below w0.heap.size w0 W → Calls Tryd.prog 67 #[.int .i64 n, k1, k2] W fun e w' => e = .returned (.bool (p n)) ∧ Below W.heap.size W w') := hcall
  clear hcall
  go_enter Tryd.func66, Tryd.ntmps66
  go_wp2_with fail
  go_loopw [0, 1] (fun l h wr => ∃ a b : Int, l = .int .i64 a ∧ h = .int .i64 b ∧ low ≤ a ∧ a ≤ b ∧ b ≤ high ∧ (b = high ∨ p b = true) ∧ (a = low ∨ p (a - 1) = false) ∧ Below w0.heap.size w0 wr) (fun l h _ => (intOf h - intOf l).toNat)
  case atStart => exact ⟨low, high, rfl, rfl, Int.le_refl _, h1, Int.le_refl _, .inl rfl, .inl rfl, hw⟩
  case round =>
    obtain ⟨a, b, rfl, rfl, i1, i2, i3, i4, i5, hb⟩ := hrel
    have HI : Hid ((b = high ∨ p b = true) ∧ (a = low ∨ p (a - 1) = false) ∧ Below w0.heap.size w0 wr) := ⟨i4, i5, hb⟩
    clear i4 i5 hb
    by_cases hab : a < b
    · obtain ⟨m, hm⟩ : ∃ m, a + (b - a) / 2 = m := ⟨_, rfl⟩
      have m1 : a ≤ m := by omega
      have m2 : m < b := by omega
      have HM : Hid (a + (b - a) / 2 = m) := hm
      clear hm
      cases hpm : p m with
      | true =>
        have HP : Hid (p m = true) := hpm
        clear hpm
        go_wp2_with fail
        rw [HM.out]
        refine (HC.out m _ (by omega) (by omega) HI.out.2.2).mono ?_
        rintro e w1 ⟨rfl, hb1⟩
        rw [HP.out]
        have HB1 : Hid (Below w0.heap.size w0 w1) := HI.out.2.2.trans (hb1.mono HI.out.2.2.size)
        clear hb1
        go_wp2_with fail
        go_roundw
        case rel => exact ⟨a, m, rfl, rfl, i1, m1, by omega, .inr HP.out, HI.out.2.1, HB1.out⟩
        case measure => simp [intOf]; omega
      | false =>
        have HP : Hid (p m = false) := hpm
        clear hpm
        go_wp2_with fail
        rw [HM.out]
        refine (HC.out m _ (by omega) (by omega) HI.out.2.2).mono ?_
        rintro e w1 ⟨rfl, hb1⟩
        rw [HP.out]
        have HB1 : Hid (Below w0.heap.size w0 w1) := HI.out.2.2.trans (hb1.mono HI.out.2.2.size)
        clear hb1
        go_wp2_with fail
        go_roundw
        case rel => exact ⟨m + 1, b, rfl, rfl, by omega, by omega, i3, HI.out.1, .inr (by rw [show m + 1 - 1 = m by omega]; exact HP.out), HB1.out⟩
        case measure => simp [intOf]; omega
    · go_wp2_with fail
      go_ret
      obtain ⟨i4, i5, hb⟩ := HI.out
      have e : a = b := by omega
      subst e
      exact ⟨a, rfl, i1, i3, i4, i5, hb⟩

set_option maxHeartbeats 400000 in
theorem first_turn (low high : Int) (k1 k2 : Value) (p : Int → Bool) (w0 w : World) (hw : Below w0.heap.size w0 w) (h0 : 0 ≤ low) (h1 : low ≤ high) (h2 : high ≤ 1099511627777)
    (hcall : ∀ (n : Int) (W : World), low ≤ n → n < high → Below w0.heap.size w0 W → Calls Tryd.prog 88 #[.int .i64 n, k1, k2] W fun e w' => e = .returned (.bool (p n)) ∧ Below W.heap.size W w') :
    Calls Tryd.prog 66 #[.int .i64 low, .int .i64 high, .func (.func 88) #[] #[k1, k2]] w fun e w' => ∃ r : Int, e = .returned (.int .i64 r) ∧ low ≤ r ∧ r ≤ high ∧ (r = high ∨ p r = true) ∧ (r = low ∨ p (r - 1) = false) ∧ Below w0.heap.size w0 w' := by
  have HC : Hid (∀ (n : Int) (W : World), low ≤ n → n < high → Below w0.heap.size w0 W → Calls Tryd.prog 88 #[.int .i64 n, k1, k2] W fun e w' => e = .returned (.bool (p n)) ∧ Below W.heap.size W w') := hcall
  clear hcall
  go_enter Tryd.func66, Tryd.ntmps66
  go_wp2_with fail
  go_loopw [0, 1] (fun l h wr => ∃ a b : Int, l = .int .i64 a ∧ h = .int .i64 b ∧ low ≤ a ∧ a ≤ b ∧ b ≤ high ∧ (b = high ∨ p b = true) ∧ (a = low ∨ p (a - 1) = false) ∧ Below w0.heap.size w0 wr) (fun l h _ => (intOf h - intOf l).toNat)
  case atStart => exact ⟨low, high, rfl, rfl, Int.le_refl _, h1, Int.le_refl _, .inl rfl, .inl rfl, hw⟩
  case round =>
    obtain ⟨a, b, rfl, rfl, i1, i2, i3, i4, i5, hb⟩ := hrel
    have HI : Hid ((b = high ∨ p b = true) ∧ (a = low ∨ p (a - 1) = false) ∧ Below w0.heap.size w0 wr) := ⟨i4, i5, hb⟩
    clear i4 i5 hb
    by_cases hab : a < b
    · obtain ⟨m, hm⟩ : ∃ m, a + (b - a) / 2 = m := ⟨_, rfl⟩
      have m1 : a ≤ m := by omega
      have m2 : m < b := by omega
      have HM : Hid (a + (b - a) / 2 = m) := hm
      clear hm
      cases hpm : p m with
      | true =>
        have HP : Hid (p m = true) := hpm
        clear hpm
        go_wp2_with fail
        rw [HM.out]
        refine (HC.out m _ (by omega) (by omega) HI.out.2.2).mono ?_
        rintro e w1 ⟨rfl, hb1⟩
        rw [HP.out]
        have HB1 : Hid (Below w0.heap.size w0 w1) := HI.out.2.2.trans (hb1.mono HI.out.2.2.size)
        clear hb1
        go_wp2_with fail
        go_roundw
        case rel => exact ⟨a, m, rfl, rfl, i1, m1, by omega, .inr HP.out, HI.out.2.1, HB1.out⟩
        case measure => simp [intOf]; omega
      | false =>
        have HP : Hid (p m = false) := hpm
        clear hpm
        go_wp2_with fail
        rw [HM.out]
        refine (HC.out m _ (by omega) (by omega) HI.out.2.2).mono ?_
        rintro e w1 ⟨rfl, hb1⟩
        rw [HP.out]
        have HB1 : Hid (Below w0.heap.size w0 w1) := HI.out.2.2.trans (hb1.mono HI.out.2.2.size)
        clear hb1
        go_wp2_with fail
        go_roundw
        case rel => exact ⟨m + 1, b, rfl, rfl, by omega, by omega, i3, HI.out.1, .inr (by rw [show m + 1 - 1 = m by omega]; exact HP.out), HB1.out⟩
        case measure => simp [intOf]; omega
    · go_wp2_with fail
      go_ret
      obtain ⟨i4, i5, hb⟩ := HI.out
      have e : a = b := by omega
      subst e
      exact ⟨a, rfl, i1, i3, i4, i5, hb⟩
end Go.Proofs.YtcldgpbimaoliaaDoor
