/- Walks: package curve's Tidy and Sum. -/
import Derived.Test.YtcldgpbimaoliaaDoorEach
namespace Go.Proofs.YtcldgpbimaoliaaDoor
open Go.RowKit

/-- What Tidy leaves of lines, as it lies. -/
def TidyL (w : World) (B : Nat) (v : Value) (ls : List (Int × Int)) : Prop := ∃ ls' : List (Int × Int), ls'.Perm ls ∧ SortedL ls' ∧ OwnL w B v (lowT [] ls').reverse

theorem tidy_ok (a : Option Addr) (cap : Nat) (ls : List (Int × Int)) (w : World) (hl : Lies w a ls) (h : okCurve ls) :
    Calls Tryd.prog 27 #[.slice a ls.length cap] w fun e w' => ∃ v, e = .returned (.tuple #[v, .nilIface]) ∧ TidyL w' w.heap.size v ls ∧ Below w.heap.size w w' := by
  obtain ⟨b, off, rfl, hlt, -⟩ := hl.some h.1
  have HL : Hid (Lies w (some ⟨b, off, none⟩) ls) := hl
  have HO : Hid (okCurve ls) := h
  clear hl h hlt
  go_enter Tryd.func27, Tryd.ntmps27
  go_wp2_with fail
  refine (check_ok _ cap ls _ HL.out HO.out).mono ?_
  rintro e w1 ⟨rfl, hb⟩
  have HB : Hid (Below w.heap.size w w1) := hb
  clear hb
  go_wp2_with fail
  refine (lowest_ok _ cap ls _ (HL.out.below HB.out) HO.out.1 (Nat.le_trans HO.out.2.1 (by decide)) HO.out.2.2).mono ?_
  rintro e w2 ⟨v, ls', rfl, hp, hs, ho, hb2⟩
  obtain ⟨a0, n0, k0, rfl⟩ : ∃ a0 n0 k0, v = .slice a0 n0 k0 := by obtain ⟨a, c, e, _⟩ := OwnL.open ho; exact ⟨_, _, _, e⟩
  have HR : Hid (TidyL w2 w.heap.size (.slice a0 n0 k0) ls ∧ Below w.heap.size w w2) := ⟨⟨ls', hp, hs, ownsRow_mono ho HB.out.size⟩, HB.out.trans (hb2.mono HB.out.size)⟩
  clear hp hs ho hb2
  go_wp2_with fail
  go_ret2
  exact ⟨_, rfl, HR.out.1, HR.out.2⟩

theorem tidy_err {R : TypeId → Value → World → Prop} (a : Option Addr) (n cap : Nat) (w : World)
    (hc : Calls Tryd.prog 24 #[.slice a n cap] w fun e w' => ∃ ty p, e = .returned (.iface ty p) ∧ R ty p w') :
    Calls Tryd.prog 27 #[.slice a n cap] w fun e w' => ∃ ty p, e = .returned (.tuple #[.slice none 0 0, .iface ty p]) ∧ R ty p w' := by
  have HC : Hid (Calls Tryd.prog 24 #[.slice a n cap] w fun e w' => ∃ ty p, e = .returned (.iface ty p) ∧ R ty p w') := hc
  clear hc
  go_enter Tryd.func27, Tryd.ntmps27
  go_wp2_with fail
  refine HC.out.mono ?_
  rintro e w1 ⟨ty, p, rfl, hR⟩
  have HR : Hid (R ty p w1) := hR
  clear hR
  go_wp2_with fail
  go_ret2
  exact ⟨ty, p, rfl, HR.out⟩

theorem sum_err1 {R : TypeId → Value → World → Prop} (a : Option Addr) (n cap : Nat) (v2 : Value) (w : World)
    (hc : Calls Tryd.prog 24 #[.slice a n cap] w fun e w' => ∃ ty p, e = .returned (.iface ty p) ∧ R ty p w') :
    Calls Tryd.prog 28 #[.slice a n cap, v2] w fun e w' => ∃ ty p, e = .returned (.tuple #[.slice none 0 0, .iface ty p]) ∧ R ty p w' := by
  have HC : Hid (Calls Tryd.prog 24 #[.slice a n cap] w fun e w' => ∃ ty p, e = .returned (.iface ty p) ∧ R ty p w') := hc
  clear hc
  go_enter Tryd.func28, Tryd.ntmps28
  go_wp2_with fail
  refine HC.out.mono ?_
  rintro e w1 ⟨ty, p, rfl, hR⟩
  have HR : Hid (R ty p w1) := hR
  clear hR
  go_wp2_with fail
  go_ret2
  exact ⟨ty, p, rfl, HR.out⟩

theorem sum_err2 {R : TypeId → Value → World → Prop} (a1 : Option Addr) (cap1 : Nat) (la : List (Int × Int)) (a : Option Addr) (n cap : Nat) (w : World) (h1 : Lies w a1 la) (k1 : okCurve la)
    (hc : ∀ w1, Below w.heap.size w w1 → Calls Tryd.prog 24 #[.slice a n cap] w1 fun e w' => ∃ ty p, e = .returned (.iface ty p) ∧ R ty p w') :
    Calls Tryd.prog 28 #[.slice a1 la.length cap1, .slice a n cap] w fun e w' => ∃ ty p, e = .returned (.tuple #[.slice none 0 0, .iface ty p]) ∧ R ty p w' := by
  have HC : Hid (∀ w1, Below w.heap.size w w1 → Calls Tryd.prog 24 #[.slice a n cap] w1 fun e w' => ∃ ty p, e = .returned (.iface ty p) ∧ R ty p w') := hc
  have HL : Hid (Lies w a1 la ∧ okCurve la) := ⟨h1, k1⟩
  clear hc h1 k1
  go_enter Tryd.func28, Tryd.ntmps28
  go_wp2_with fail
  refine (check_ok _ _ la _ HL.out.1 HL.out.2).mono ?_
  rintro e w0 ⟨rfl, hb⟩
  have HB : Hid (Below w.heap.size w w0) := hb
  clear hb
  go_wp2_with fail
  refine (HC.out w0 HB.out).mono ?_
  rintro e w1 ⟨ty, p, rfl, hR⟩
  have HR : Hid (R ty p w1) := hR
  clear hR
  go_wp2_with fail
  go_ret2
  exact ⟨ty, p, rfl, HR.out⟩

theorem eachL_pos {la lb : List (Int × Int)} (h1 : 1 ≤ la.length) (h2 : 1 ≤ lb.length) : 1 ≤ (eachL la lb).length := by
  rw [eachL_length]; exact Nat.mul_pos h1 h2
theorem eachL_most {la lb : List (Int × Int)} (h1 : la.length ≤ 6) (h2 : lb.length ≤ 6) : (eachL la lb).length ≤ 36 := by
  rw [eachL_length]; exact Nat.le_trans (Nat.mul_le_mul h1 h2) (by decide)

set_option maxHeartbeats 1000000 in
theorem sum_bound (a1 a2 : Option Addr) (cap1 cap2 : Nat) (la lb : List (Int × Int)) (w : World) (aB : Addr) (hB : w.cell? ⟨1, 0, none⟩ = some (.iface 98 (.pointer (some aB)))) (h1 : Lies w a1 la) (h2 : Lies w a2 lb) (k1 : okCurve la) (k2 : okCurve lb)
    (j : Nat) (hj : j < (eachL la lb).length) (hok : ∀ i x y, i < j → (eachL la lb)[i]? = some (x, y) → okLine x y = true) (hbad : ∀ x y, (eachL la lb)[j]? = some (x, y) → okLine x y = false) :
    Calls Tryd.prog 28 #[.slice a1 la.length cap1, .slice a2 lb.length cap2] w fun e w' => e = .returned (.tuple #[.slice none 0 0, .iface 98 (.pointer (some aB))]) ∧ Below w.heap.size w w' := by
  have HL : Hid (Lies w a1 la ∧ okCurve la) := ⟨h1, k1⟩
  have HM : Hid (Lies w a2 lb ∧ okCurve lb) := ⟨h2, k2⟩
  have HK : Hid (w.cell? ⟨1, 0, none⟩ = some (.iface 98 (.pointer (some aB)))) := hB
  have HN : Hid (∀ i x y, i < j → (eachL la lb)[i]? = some (x, y) → okLine x y = true) := hok
  have HX : Hid (∀ x y, (eachL la lb)[j]? = some (x, y) → okLine x y = false) := hbad
  have hmost := eachL_most k1.2.1 k2.2.1
  clear h1 h2 k1 k2 hB hok hbad
  go_enter Tryd.func28, Tryd.ntmps28
  go_wp2_with fail
  refine (check_ok _ _ la _ HL.out.1 HL.out.2).mono ?_
  rintro e w0 ⟨rfl, hb⟩
  have HB0 : Hid (Below w.heap.size w w0) := hb
  clear hb
  go_wp2_with fail
  refine (check_ok _ _ lb _ (HM.out.1.below HB0.out) HM.out.2).mono ?_
  rintro e w1 ⟨rfl, hb⟩
  have HB1 : Hid (Below w.heap.size w w1) := HB0.out.trans (hb.mono HB0.out.size)
  clear hb
  go_wp2_with fail
  refine (each_ok _ _ _ _ la lb _ (HL.out.1.below HB1.out) (HM.out.1.below HB1.out) HL.out.2.2.1 HM.out.2.2.1 HL.out.2.2.2 HM.out.2.2.2).mono ?_
  rintro e w2 ⟨v, rfl, ho, hb⟩
  have HB2 : Hid (Below w.heap.size w w2) := HB1.out.trans (hb.mono HB1.out.size)
  obtain ⟨a0, n0, k0, rfl⟩ : ∃ a0 n0 k0, v = .slice a0 n0 k0 := by obtain ⟨a, c, e, _⟩ := OwnL.open ho; exact ⟨_, _, _, e⟩
  obtain ⟨rfl, -, -, hL2⟩ := OwnL.lies ho
  generalize eachL la lb = P at *
  obtain ⟨b, off, rfl, hlt, hc⟩ := hL2.some (by omega)
  clear ho hb hL2
  go_wp2_with fail
  go_loopw [27] (fun i wr => ∃ k : Nat, k ≤ j ∧ i = .int .i64 k ∧ Below w2.heap.size w2 wr) (fun i _ => P.length - (intOf i).toNat)
  case atStart => exact ⟨0, Nat.zero_le _, rfl, Below.refl _ _⟩
  case round =>
    obtain ⟨k, hk, rfl, hb⟩ := hrel
    have hs := hb.size
    have hkn : k < P.length := by omega
    obtain ⟨⟨x, y⟩, hp, hm⟩ := get_some P k hkn
    have hc1 : wr.cell? ⟨b, off + k * 2, none⟩ = some (.int .i64 x) := cell_later hb (hc k x y hp).1
    have hc2 : wr.cell? ⟨b, off + k * 2 + 1, none⟩ = some (.int .i64 y) := cell_later hb (hc k x y hp).2
    have HB3 : Hid (Below w.heap.size w wr) := HB2.out.trans (hb.mono HB2.out.size)
    by_cases hkj : k < j
    · have Hxy := (show Hid (okLine x y = true) from HN.out k x y hkj hp)
      clear hc hp hm
      go_wp2_with (go_at_call 59; refine (isLine_yes x y _ Hxy.out).mono ?_; rintro e w' ⟨rfl, rfl⟩)
      go_roundw
      case rel => exact ⟨k + 1, by omega, by go_num, (hb.alloc hs _).alloc (by simp; omega) _⟩
      case measure => simp [intOf]; omega
    · obtain rfl : k = j := by omega
      have Hxy := (show Hid (okLine x y = false) from HX.out x y hp)
      have HB4 : Below w.heap.size w ((wr.alloc (.cells #[.int .i64 x, .int .i64 y] 54)).alloc (.cells #[.int .i64 x, .int .i64 y] 54)) := (HB3.out.alloc HB3.out.size _).alloc (by have := HB3.out.size; simp; omega) _
      have hB4 : ((wr.alloc (.cells #[.int .i64 x, .int .i64 y] 54)).alloc (.cells #[.int .i64 x, .int .i64 y] 54)).cell? ⟨1, 0, none⟩ = some (.iface 98 (.pointer (some aB))) := cell_later HB4 HK.out
      have HB5 : Hid (Below w.heap.size w ((wr.alloc (.cells #[.int .i64 x, .int .i64 y] 54)).alloc (.cells #[.int .i64 x, .int .i64 y] 54))) := HB4
      clear hc hp hm HB4
      go_wp2_with (go_at_call 59; refine (isLine_no x y _ Hxy.out).mono ?_; rintro e w' ⟨rfl, rfl⟩)
      go_quiet (fail)
      go_wp2_with fail
      go_ret2
      exact ⟨rfl, below_drewN HB5.out _⟩

set_option maxHeartbeats 1000000 in
theorem sum_ok (a1 a2 : Option Addr) (cap1 cap2 : Nat) (la lb : List (Int × Int)) (w : World) (aS : Addr) (hS : w.cell? ⟨2, 0, none⟩ = some (.iface 98 (.pointer (some aS)))) (h1 : Lies w a1 la) (h2 : Lies w a2 lb) (k1 : okCurve la) (k2 : okCurve lb) (hok : okAll (eachL la lb)) :
    Calls Tryd.prog 28 #[.slice a1 la.length cap1, .slice a2 lb.length cap2] w fun e w' => ∃ ls', ls'.Perm (eachL la lb) ∧ SortedL ls' ∧ Below w.heap.size w w' ∧
      ((6 < (lowT [] ls').length ∧ e = .returned (.tuple #[.slice none 0 0, .iface 98 (.pointer (some aS))])) ∨
       ((lowT [] ls').length ≤ 6 ∧ ∃ v, e = .returned (.tuple #[v, .nilIface]) ∧ OwnL w' w.heap.size v (lowT [] ls').reverse)) := by
  have HL : Hid (Lies w a1 la ∧ okCurve la) := ⟨h1, k1⟩
  have HM : Hid (Lies w a2 lb ∧ okCurve lb) := ⟨h2, k2⟩
  have HK : Hid (w.cell? ⟨2, 0, none⟩ = some (.iface 98 (.pointer (some aS)))) := hS
  have HN : Hid (okAll (eachL la lb)) := hok
  have hmost := eachL_most k1.2.1 k2.2.1
  have hpos := eachL_pos k1.1 k2.1
  clear h1 h2 k1 k2 hS hok
  go_enter Tryd.func28, Tryd.ntmps28
  go_wp2_with fail
  refine (check_ok _ _ la _ HL.out.1 HL.out.2).mono ?_
  rintro e w0 ⟨rfl, hb⟩
  have HB0 : Hid (Below w.heap.size w w0) := hb
  clear hb
  go_wp2_with fail
  refine (check_ok _ _ lb _ (HM.out.1.below HB0.out) HM.out.2).mono ?_
  rintro e w1 ⟨rfl, hb⟩
  have HB1 : Hid (Below w.heap.size w w1) := HB0.out.trans (hb.mono HB0.out.size)
  clear hb
  go_wp2_with fail
  refine (each_ok _ _ _ _ la lb _ (HL.out.1.below HB1.out) (HM.out.1.below HB1.out) HL.out.2.2.1 HM.out.2.2.1 HL.out.2.2.2 HM.out.2.2.2).mono ?_
  rintro e w2 ⟨v, rfl, ho, hb⟩
  have HB2 : Hid (Below w.heap.size w w2) := HB1.out.trans (hb.mono HB1.out.size)
  obtain ⟨a0, n0, k0, rfl⟩ : ∃ a0 n0 k0, v = .slice a0 n0 k0 := by obtain ⟨a, c, e, _⟩ := OwnL.open ho; exact ⟨_, _, _, e⟩
  obtain ⟨rfl, -, -, hL2⟩ := OwnL.lies ho
  have HPE : Hid (∃ P, eachL la lb = P) := ⟨_, rfl⟩
  obtain ⟨P, hPE⟩ := HPE.out
  have HP : Hid (eachL la lb = P) := hPE
  rw [hPE] at hL2 hmost hpos HN ⊢
  clear hPE
  obtain ⟨b, off, rfl, hlt, hc⟩ := hL2.some (by omega)
  have HL2 : Hid (Lies w2 (some ⟨b, off, none⟩) P) := hL2
  clear ho hb hL2
  go_wp2_with fail
  go_loopw [27] (fun i wr => ∃ k : Nat, k ≤ P.length ∧ i = .int .i64 k ∧ Below w2.heap.size w2 wr) (fun i _ => P.length - (intOf i).toNat)
  case atStart => exact ⟨0, Nat.zero_le _, rfl, Below.refl _ _⟩
  case round =>
    obtain ⟨k, hk, rfl, hb⟩ := hrel
    have hs := hb.size
    by_cases hkn : k < P.length
    · obtain ⟨⟨x, y⟩, hp, hm⟩ := get_some P k hkn
      have hc1 : wr.cell? ⟨b, off + k * 2, none⟩ = some (.int .i64 x) := cell_later hb (hc k x y hp).1
      have hc2 : wr.cell? ⟨b, off + k * 2 + 1, none⟩ = some (.int .i64 y) := cell_later hb (hc k x y hp).2
      have Hxy := (show Hid (okLine x y = true) from HN.out _ hm)
      clear hc hp hm
      go_wp2_with (go_at_call 59; refine (isLine_yes x y _ Hxy.out).mono ?_; rintro e w' ⟨rfl, rfl⟩)
      go_roundw
      case rel => exact ⟨k + 1, by omega, by go_num, (hb.alloc hs _).alloc (by simp; omega) _⟩
      case measure => simp [intOf]; omega
    · have HB3 : Hid (Below w.heap.size w wr) := HB2.out.trans (hb.mono HB2.out.size)
      have HL3 : Hid (Lies wr (some ⟨b, off, none⟩) P) := HL2.out.below hb
      clear hb hc
      go_wp2_with fail
      refine (lowest_ok _ k0 P _ HL3.out hpos (Nat.le_trans hmost (by decide)) HN.out).mono ?_
      rintro e w4 ⟨v, ls', rfl, hp, hso, ho, hb2⟩
      obtain ⟨a4, n4, k4, rfl⟩ : ∃ a0 n0 k0, v = .slice a0 n0 k0 := by obtain ⟨a, c, e, _⟩ := OwnL.open ho; exact ⟨_, _, _, e⟩
      obtain ⟨hn4, -, -, -⟩ := OwnL.lies ho
      rw [List.length_reverse] at hn4
      have hl4 : n4 ≤ 36 := by have := lowT_len ls' []; rw [hp.length_eq] at this; simp at this; omega
      have HB4 : Hid (Below w.heap.size w w4) := HB3.out.trans (hb2.mono HB3.out.size)
      have HR : Hid (ls'.Perm P ∧ SortedL ls' ∧ OwnL w4 w.heap.size (.slice a4 n4 k4) (lowT [] ls').reverse) := ⟨hp, hso, ownsRow_mono ho HB3.out.size⟩
      have HN4 : Hid (n4 = (lowT [] ls').length) := hn4
      have hK4 : w4.cell? ⟨2, 0, none⟩ = some (.iface 98 (.pointer (some aS))) := cell_later HB4.out HK.out
      clear hp hso ho hb2 hn4
      by_cases h6 : 6 < n4
      · go_wp2_with fail
        go_quiet (fail)
        go_wp2_with fail
        go_ret2
        exact ⟨ls', HP.out ▸ HR.out.1, HR.out.2.1, below_drewN HB4.out _, .inl ⟨HN4.out ▸ h6, rfl⟩⟩
      · go_wp2_with fail
        go_ret2
        exact ⟨ls', HP.out ▸ HR.out.1, HR.out.2.1, HB4.out, .inr ⟨by have := HN4.out; omega, _, rfl, HR.out.2.2⟩⟩
end Go.Proofs.YtcldgpbimaoliaaDoor
