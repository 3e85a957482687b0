/- Walks: the small functions of a delay: missing, isLater, comes. -/
import Derived.Test.YtcldgpbimaoliaaDoorDelay1
import Derived.Test.YtcldgpbimaoliaaDoorPlainDelay2
import Derived.Deep.DeepCutAuto
import Derived.Deep.RegionLaw
namespace Go.Proofs.YtcldgpbimaoliaaDoor
open Go.RowKit

theorem miss_if (x n : Int) : (if n - x < 0 then 0 else n - x) = miss x n := by unfold miss; split <;> omega
theorem miss_bd {x n : Int} (hx : 1 ≤ x) (hn : 0 ≤ n) : 0 ≤ miss x n ∧ miss x n ≤ n := by unfold miss; omega

set_option maxHeartbeats 400000 in
theorem missing_any (x y n : Int) (w : World) (hx : 1 ≤ x) (hx2 : x ≤ 20000) (hn : 0 ≤ n) (hn2 : n ≤ 20020000) :
    Calls Tryd.prog 90 #[.agg #[.int .i64 x, .int .i64 y], .int .i64 n] w fun e w' => e = .returned (.int .i64 (miss x n)) ∧ Below w.heap.size w w' := by
  go_enter Tryd.func90, Tryd.ntmps90
  go_wp2
  all_goals
    go_ret
    exact ⟨congrArg (fun z => Ending.returned (.int .i64 z)) (by unfold miss; omega), (Below.refl _ _).alloc (Nat.le_refl _) _⟩

theorem laterB_zero {p q : Int × Int} {n : Int} (h : miss q.1 n = 0) : laterB p q n = decide (0 < miss p.1 n) := by unfold laterB; rw [if_pos h]
theorem laterB_some {p q : Int × Int} {n : Int} (h : miss q.1 n ≠ 0) : laterB p q n = decide (miss q.1 n * p.2 < miss p.1 n * q.2) := by unfold laterB; rw [if_neg h]
theorem prod_bd {m y : Int} (hm : 0 ≤ m) (hm2 : m ≤ 20020000) (hy : 0 ≤ y) (hy2 : y ≤ 100000) : 0 ≤ m * y ∧ m * y ≤ 2002000000000 := by
  refine ⟨Int.mul_nonneg hm hy, ?_⟩
  have a := Int.mul_le_mul_of_nonneg_right hm2 hy
  omega

set_option maxRecDepth 100000 in
set_option maxHeartbeats 1000000 in
theorem isLater_any (x y x2 y2 n : Int) (w : World) (hx : 1 ≤ x) (hx2 : x ≤ 20000) (hy : 0 ≤ y) (hy2 : y ≤ 100000) (gx : 1 ≤ x2) (gx2 : x2 ≤ 20000) (gy : 0 ≤ y2) (gy2 : y2 ≤ 100000) (hn : 0 ≤ n) (hn2 : n ≤ 20020000) :
    Calls Tryd.prog 102 #[.agg #[.int .i64 x, .int .i64 y], .agg #[.int .i64 x2, .int .i64 y2], .int .i64 n] w fun e w' => e = .returned (.bool (laterB (x, y) (x2, y2) n)) ∧ Below w.heap.size w w' := by
  have hbW : Below w.heap.size w ((w.alloc (.cells #[.int .i64 x, .int .i64 y] 54)).alloc (.cells #[.int .i64 x2, .int .i64 y2] 54)) := ((Below.refl _ _).alloc (Nat.le_refl _) _).alloc (by simp) _
  have c0 : ((w.alloc (.cells #[.int .i64 x, .int .i64 y] 54)).alloc (.cells #[.int .i64 x2, .int .i64 y2] 54)).cell? ⟨w.heap.size, 0, none⟩ = some (.int .i64 x) := by simp
  have c1 : ((w.alloc (.cells #[.int .i64 x, .int .i64 y] 54)).alloc (.cells #[.int .i64 x2, .int .i64 y2] 54)).cell? ⟨w.heap.size, 1, none⟩ = some (.int .i64 y) := by simp
  have c2 : ((w.alloc (.cells #[.int .i64 x, .int .i64 y] 54)).alloc (.cells #[.int .i64 x2, .int .i64 y2] 54)).cell? ⟨w.heap.size + 1, 0, none⟩ = some (.int .i64 x2) := by simp
  have c3 : ((w.alloc (.cells #[.int .i64 x, .int .i64 y] 54)).alloc (.cells #[.int .i64 x2, .int .i64 y2] 54)).cell? ⟨w.heap.size + 1, 1, none⟩ = some (.int .i64 y2) := by simp
  have mb1 := miss_bd hx hn
  have mb2 := miss_bd gx hn
  go_enter Tryd.func102, Tryd.ntmps102
  go_upto_region 1 with fail
  generalize (w.alloc (.cells #[.int .i64 x, .int .i64 y] 54)).alloc (.cells #[.int .i64 x2, .int .i64 y2] 54) = W at *
  have HBW : Hid (Below w.heap.size w W) := hbW
  clear hbW
  go_cut [7, 8] (fun s7 s8 wx => s7 = .int .i64 (miss x n) ∧ s8 = .int .i64 (miss x2 n) ∧ Below W.heap.size W wx)
  case first =>
    go_region_with (first
      | (go_at_call_of 90 (Value.agg #[.int .i64 x2, .int .i64 y2]); go_must (refine (missing_any x2 y2 n _ gx gx2 hn hn2).mono ?_; rintro e wb ⟨rfl, hbb⟩; have HBb : Hid (Below W.heap.size W wb) := HBa.out.trans (hbb.mono HBa.out.size); clear hbb))
      | (go_at_call_of 90 (Value.agg #[.int .i64 x, .int .i64 y]); go_must (refine (missing_any x y n _ hx hx2 hn hn2).mono ?_; rintro e wa ⟨rfl, hba⟩; have HBa : Hid (Below W.heap.size W wa) := ⟨hba.os, hba.tape, hba.output, hba.size, hba.block⟩; have d2 := cell_later HBa.out c2; have d3 := cell_later HBa.out c3; clear hba))
      | fail)
    all_goals (go_wp2_with fail; go_meet; exact ⟨rfl, rfl, HBb.out⟩)
  case rest =>
  obtain ⟨rfl, rfl, hbc⟩ := hcut
  have HBC : Hid (Below w.heap.size w wc) := HBW.out.trans (hbc.mono HBW.out.size)
  have e1 := cell_later hbc c1
  have e3 := cell_later hbc c3
  clear hbc c0 c1 c2 c3
  have HZ : Hid (miss (x2, y2).1 n = 0 → laterB (x, y) (x2, y2) n = decide (0 < miss x n)) := fun h => laterB_zero h
  have HS : Hid (miss (x2, y2).1 n ≠ 0 → laterB (x, y) (x2, y2) n = decide (miss x2 n * y < miss x n * y2)) := fun h => laterB_some h
  obtain ⟨A, hA⟩ : ∃ A, miss x n = A := ⟨_, rfl⟩
  obtain ⟨B, hB⟩ : ∃ B, miss x2 n = B := ⟨_, rfl⟩
  have HA : Hid (miss x n = A) := hA
  have HB : Hid (miss x2 n = B) := hB
  rw [hA] at mb1 ⊢
  rw [hB] at mb2 ⊢
  clear hA hB
  obtain ⟨m1, m2⟩ := mb1
  obtain ⟨m3, m4⟩ := mb2
  obtain ⟨p1, p2⟩ := prod_bd m1 (by omega) gy gy2
  obtain ⟨p3, p4⟩ := prod_bd m3 (by omega) hy hy2
  by_cases hz : B = 0
  · have hz' : (B == 0) = true := by simpa using hz
    have HR : Hid (laterB (x, y) (x2, y2) n = decide (0 < A)) := by show _ = _; rw [HZ.out (by show miss x2 n = 0; rw [HB.out]; exact hz), HA.out]
    clear hz
    go_wp2_with fail
    go_ret
    exact ⟨congrArg (fun z => Ending.returned (.bool z)) HR.out.symm, HBC.out⟩
  · have hz' : (B == 0) = false := by simpa using hz
    have HR : Hid (laterB (x, y) (x2, y2) n = decide (B * y < A * y2)) := by show _ = _; rw [HS.out (by show miss x2 n ≠ 0; rw [HB.out]; exact hz), HA.out, HB.out]
    clear hz
    go_wp2_with fail
    go_ret
    exact ⟨congrArg (fun z => Ending.returned (.bool z)) HR.out.symm, HBC.out⟩

set_option maxHeartbeats 400000 in
theorem comes_any (x y n : Int) (w : World) (hx : 1 ≤ x) (hx2 : x ≤ 20000) (hy : 0 ≤ y) (hy2 : y ≤ 100000) (hn : 0 ≤ n) (hn2 : n ≤ 20020000) (hk : miss x n = 0 ∨ 0 < y) :
    Calls Tryd.prog 103 #[.agg #[.int .i64 x, .int .i64 y], .int .i64 n] w fun e w' => e = .returned (.int .i64 (comesAt (x, y) n)) ∧ Below w.heap.size w w' := by
  have mb := miss_bd hx hn
  obtain ⟨A, hA⟩ : ∃ A, miss x n = A := ⟨_, rfl⟩
  have HA : Hid (miss x n = A) := hA
  have HC : Hid (comesAt (x, y) n = if A = 0 then 0 else (A * 1000 + y - 1) / y) := by show _ = _; unfold comesAt; rw [show miss (x, y).1 n = A from hA]
  rw [hA] at mb hk
  clear hA
  obtain ⟨m1, m2⟩ := mb
  by_cases hz : A = 0
  · subst hz
    go_enter Tryd.func103, Tryd.ntmps103
    go_wp2_with fail
    refine (missing_any x y n _ hx hx2 hn hn2).mono ?_
    rintro e w1 ⟨rfl, hb⟩
    rw [HA.out]
    have HB : Hid (Below w.heap.size w w1) := ((Below.refl _ _).alloc (Nat.le_refl _) _).trans (hb.mono (by simp))
    clear hb
    go_wp2_with fail
    go_ret
    exact ⟨congrArg (fun z => Ending.returned (.int .i64 z)) (by rw [HC.out]; simp), HB.out⟩
  · have hz' : (A == 0) = false := by simpa using hz
    have hy0 : 0 < y := by omega
    have hyne : (y == 0) = false := by simp; omega
    have HR : Hid (comesAt (x, y) n = (A * 1000 + y - 1) / y) := by show _ = _; rw [HC.out, if_neg hz]
    clear hk hz
    go_enter Tryd.func103, Tryd.ntmps103
    go_wp2_with fail
    refine (missing_any x y n _ hx hx2 hn hn2).mono ?_
    rintro e w1 ⟨rfl, hb⟩
    rw [HA.out]
    have HB : Hid (Below w.heap.size w w1) := ((Below.refl _ _).alloc (Nat.le_refl _) _).trans (hb.mono (by simp))
    have d1 : w1.cell? ⟨w.heap.size, 1, none⟩ = some (.int .i64 y) := cell_later hb (by simp)
    clear hb
    go_wp2_with fail
    go_ret
    exact ⟨congrArg (fun z => Ending.returned (.int .i64 z)) HR.out.symm, HB.out⟩
end Go.Proofs.YtcldgpbimaoliaaDoor
