/- Walks: how long a byte waits; the longest delay. -/
import Derived.Test.YtcldgpbimaoliaaDoorDelay4
namespace Go.Proofs.YtcldgpbimaoliaaDoor
open Go.RowKit

/-- How long byte n waits. -/
def waitOf (per : Int) (ls : List (Int × Int)) (n : Int) : Int := per * n - comesAt (lastC n ls) n

theorem per_bd {per n : Int} (h1 : 1 ≤ per) (h2 : per ≤ 1000) (n0 : 0 ≤ n) (n1 : n ≤ 20020000) : 0 ≤ per * n ∧ per * n ≤ 20020000000 := by
  refine ⟨Int.mul_nonneg (by omega) n0, ?_⟩
  have a := Int.mul_le_mul_of_nonneg_right h2 n0
  omega
theorem comes_bd {x y n : Int} (hx : 1 ≤ x) (hy : 0 ≤ y) (hy2 : y ≤ 100000) (n0 : 0 ≤ n) (n1 : n ≤ 20020000) (hk : miss x n = 0 ∨ 0 < y) : 0 ≤ comesAt (x, y) n ∧ comesAt (x, y) n ≤ 20020100000 := by
  have mb := miss_bd hx n0
  unfold comesAt
  split
  · omega
  · next h =>
    have hy0 : 0 < y := by
      rcases hk with hk | hk
      · exact absurd hk h
      · exact hk
    refine ⟨Int.ediv_nonneg (by simp only []; omega) hy, ?_⟩
    have := Int.ediv_le_self (a := miss x n * 1000 + y - 1) y (by omega)
    simp only []
    omega

set_option maxHeartbeats 400000 in
theorem wait_ok (a : Option Addr) (cap : Nat) (ls : List (Int × Int)) (per n : Int) (w : World) (hl : Lies w a ls) (h : okCurve ls) (hcap : ls.length ≤ cap) (hm : cap ≤ maxLen) (p1 : 1 ≤ per) (p2 : per ≤ 1000) (n0 : 0 ≤ n) (n1 : n ≤ 20020000)
    (hk : miss (lastC n ls).1 n = 0 ∨ 0 < (lastC n ls).2) :
    Calls Tryd.prog 91 #[.slice a ls.length cap, .int .i64 per, .int .i64 n] w fun e w' => e = .returned (.int .i64 (waitOf per ls n)) ∧ Below w.heap.size w w' := by
  have HL : Hid (Lies w a ls) := hl
  have HK : Hid (okCurve ls) := h
  have Hc : Hid (ls.length ≤ cap ∧ cap ≤ maxLen) := ⟨hcap, hm⟩
  obtain ⟨b1, b2⟩ := per_bd p1 p2 n0 n1
  have hok := okLine_true (h.2.2 _ (lastC_mem n ls h.1))
  have HW : Hid (waitOf per ls n = per * n - comesAt (lastC n ls) n) := rfl
  have HI : Hid (lastC n ls = lastC n ls) := rfl
  generalize hZ : lastC n ls = Z at *
  have HZ : Hid (lastC n ls = Z) := hZ
  obtain ⟨X, Y⟩ := Z
  simp only [] at hok hk
  obtain ⟨q1, q2, q3, q4⟩ := hok
  obtain ⟨d1, d2⟩ := comes_bd q1 q3 q4 n0 n1 hk
  have HD : Hid (miss X n = 0 ∨ 0 < Y) := hk
  clear hl h hcap hm hZ HI hk
  go_enter Tryd.func91, Tryd.ntmps91
  go_wp2_with fail
  refine (last_ok a cap ls n _ HL.out HK.out Hc.out.1 Hc.out.2 n0 n1).mono ?_
  rintro e w1 ⟨rfl, hb1⟩
  rw [HZ.out]
  have HB1 : Hid (Below w.heap.size w w1) := hb1
  clear hb1
  go_wp2_with fail
  refine (comes_any X Y n _ q1 q2 q3 q4 n0 n1 HD.out).mono ?_
  rintro e w2 ⟨rfl, hb2⟩
  have HB2 : Hid (Below w.heap.size w w2) := HB1.out.trans (hb2.mono HB1.out.size)
  clear hb2
  go_wp2_with fail
  go_ret
  exact ⟨congrArg (fun z => Ending.returned (.int .i64 z)) HW.out.symm, HB2.out⟩

set_option maxHeartbeats 400000 in
theorem turn_call (a : Option Addr) (cap : Nat) (ls : List (Int × Int)) (per n : Int) (w : World) (k1 k2 : Nat) (c1 : w.cell? ⟨k1, 0, none⟩ = some (.slice a ls.length cap)) (c2 : w.cell? ⟨k2, 0, none⟩ = some (.int .i64 per))
    (hl : Lies w a ls) (h : okCurve ls) (hcap : ls.length ≤ cap) (hm : cap ≤ maxLen) (p1 : 1 ≤ per) (p2 : per ≤ 1000) (n0 : 0 ≤ n) (n1 : n ≤ 20020000) :
    Calls Tryd.prog 88 #[.int .i64 n, .pointer (some ⟨k1, 0, none⟩), .pointer (some ⟨k2, 0, none⟩)] w fun e w' => e = .returned (.bool (turns per ls n)) ∧ Below w.heap.size w w' := by
  have HL : Hid (Lies w a ls) := hl
  have HK : Hid (okCurve ls) := h
  have Hc : Hid (ls.length ≤ cap ∧ cap ≤ maxLen) := ⟨hcap, hm⟩
  have hok := okLine_true (h.2.2 _ (lastC_mem n ls h.1))
  have HT : Hid (turns per ls n = decide (0 < miss (lastC n ls).1 n ∧ (lastC n ls).2 * per ≤ 1000)) := rfl
  have HI : Hid (lastC n ls = lastC n ls) := rfl
  generalize hZ : lastC n ls = Z at *
  have HZ : Hid (lastC n ls = Z) := hZ
  obtain ⟨X, Y⟩ := Z
  simp only [] at hok
  obtain ⟨q1, q2, q3, q4⟩ := hok
  have mb := miss_bd q1 n0
  have pb1 : 0 ≤ Y * per := Int.mul_nonneg q3 (by omega)
  have pb2 : Y * per ≤ 100000000 := by
    have a1 := Int.mul_le_mul_of_nonneg_left p2 q3
    omega
  have HC2 : Hid (w.cell? ⟨k2, 0, none⟩ = some (.int .i64 per)) := c2
  clear hl h hcap hm hZ HI c2
  go_enter Tryd.func88, Tryd.ntmps88
  go_wp2_with fail
  refine (last_ok a cap ls n _ HL.out HK.out Hc.out.1 Hc.out.2 n0 n1).mono ?_
  rintro e w1 ⟨rfl, hb1⟩
  rw [HZ.out]
  have HB1 : Hid (Below w.heap.size w w1) := hb1
  have hy := twoB_new w1 (.int .i64 X) (.int .i64 Y) 54
  have HY : Hid (TwoB w1.heap.size (w1.alloc (.cells #[.int .i64 X, .int .i64 Y] 54)) (.int .i64 X) (.int .i64 Y)) := hy
  clear hb1 hy c1
  go_wp2_with fail
  refine (missing_any X Y n _ q1 q2 n0 n1).mono ?_
  rintro e w2 ⟨rfl, hb2⟩
  obtain ⟨_, y1, _, _⟩ := HY.out.later hb2
  have HB2 : Hid (Below w.heap.size w w2) := (HB1.out.alloc HB1.out.size _).trans (hb2.mono (by have := HB1.out.size; simp; omega))
  have d2 := cell_later HB2.out HC2.out
  obtain ⟨A, hA⟩ : ∃ A, miss X n = A := ⟨_, rfl⟩
  have HA : Hid (miss X n = A) := hA
  rw [hA] at mb ⊢
  obtain ⟨m1, m2⟩ := mb
  clear hb2 hA
  by_cases hp : 0 < A
  · have HR : Hid (turns per ls n = decide (Y * per ≤ 1000)) := by
      show _ = _
      rw [HT.out]
      simp only [HA.out]
      simp [hp]
    go_wp2_with fail
    go_ret
    exact ⟨congrArg (fun z => Ending.returned (.bool z)) HR.out.symm, HB2.out⟩
  · have HR : Hid (turns per ls n = false) := by
      show _ = _
      rw [HT.out]
      simp only [HA.out]
      simp [hp]
    go_wp2_with fail
    go_ret
    exact ⟨congrArg (fun z => Ending.returned (.bool z)) HR.out.symm, HB2.out⟩
end Go.Proofs.YtcldgpbimaoliaaDoor
