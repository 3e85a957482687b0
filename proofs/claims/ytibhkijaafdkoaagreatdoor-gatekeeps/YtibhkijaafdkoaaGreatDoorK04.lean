/- Own facts, put together: no statement of its own. -/
import Derived.Test.YtibhkijaafdkoaaGreatDoorK03
import Derived.Deep.DeepCutAuto
import Derived.Deep.RegionLaw
import Derived.Deep.LoopGhost
namespace Go.Proofs.YtibhkijaafdkoaaGreatDoor
def leastFold : Int → List (Int × Int) → Int
 | m, [] => m
 | m, p :: r => leastFold (min m p.2) r
def leastR : List (Int × Int) → Int
 | [] => 0
 | p :: r => leastFold p.2 r
theorem leastFold_snoc (l : List (Int × Int)) : ∀ (m : Int) (p : Int × Int), leastFold m (l ++ [p]) = min (leastFold m l) p.2 := by
 induction l with
 | nil => intro m p; rfl
 | cons q r ih => intro m p; exact ih _ p
theorem leastFold_is (l : List (Int × Int)) : ∀ m : Int, leastFold m l = m ∨ ∃ p, p ∈ l ∧ leastFold m l = p.2 := by
 induction l with
 | nil => intro m; exact .inl rfl
 | cons q r ih =>
  intro m
  show leastFold (min m q.2) r = m ∨ ∃ p, p ∈ q :: r ∧ leastFold (min m q.2) r = p.2
  rcases ih (min m q.2) with h | ⟨p, hp, h⟩
  ·
   rw [h]
   by_cases hm : m ≤ q.2
   · exact .inl (by omega)
   · exact .inr ⟨q, List.mem_cons_self .., by omega⟩
  · exact .inr ⟨p, List.mem_cons_of_mem _ hp, h⟩
theorem leastR_is (ls : List (Int × Int)) (h : 1 ≤ ls.length) : ∃ p, p ∈ ls ∧ leastR ls = p.2 := by
 cases ls with
 | nil => simp at h
 | cons q r =>
  rcases leastFold_is r q.2 with h | ⟨p, hp, h⟩
  · exact ⟨q, List.mem_cons_self .., h⟩
  · exact ⟨p, List.mem_cons_of_mem _ hp, h⟩
theorem turns_far {per : Int} {ls : List (Int × Int)} (h : okCurve ls) (hper : 1 ≤ per) (hs : leastR ls * per ≤ 1000) : turns per ls 20019999 = true := by
 have hm := lastC_mem 20019999 ls h.1
 have hpos : ∀ p, p ∈ ls → 0 ≤ p.2 := fun p hp => (okLine_true (h.2.2 p hp)).2.2.1
 have hmax := lastC_max 20019999 ls hpos
 have hok := okLine_true (h.2.2 _ hm)
 obtain ⟨s, hsm, hse⟩ := leastR_is ls h.1
 rw [hse] at hs
 have hsk := okLine_true (h.2.2 s hsm)
 have hl := hmax s hsm
 unfold turns
 generalize lastC 20019999 ls = z at *
 have e1 : miss z.1 20019999 = 20019999 - z.1 := by unfold miss; omega
 have e2 : miss s.1 20019999 = 20019999 - s.1 := by unfold miss; omega
 refine decide_eq_true ⟨by omega, ?_⟩
 rcases Int.lt_or_le 1000 (z.2 * per) with hf | hf
 ·
  exfalso
  have hlt : s.2 < z.2 := by
   rcases Int.lt_or_le s.2 z.2 with h | h
   · exact h
   ·
    have := Int.mul_le_mul_of_nonneg_right h (show 0 ≤ per by omega)
    omega
  have hs1 : s.2 ≤ 1000 := by
   have := Int.mul_le_mul_of_nonneg_left hper hsk.2.2.1
   omega
  have := (laterB_false hl).2 (by omega)
  rw [e1, e2] at this
  have a1 := Int.mul_le_mul_of_nonneg_right (show 19999999 ≤ 20019999 - s.1 by omega) (show 0 ≤ z.2 by omega)
  have a2 := Int.mul_le_mul_of_nonneg_right (show 20019999 - z.1 ≤ 20019998 by omega) hsk.2.2.1
  omega
 · exact hf
theorem turns_one {per : Int} {ls : List (Int × Int)} (h : okCurve ls) : turns per ls 1 = false := by
 have hm := lastC_mem 1 ls h.1
 have hok := okLine_true (h.2.2 _ hm)
 unfold turns
 generalize lastC 1 ls = z at *
 refine decide_eq_false fun h => ?_
 have := h.1
 unfold miss at this
 omega
def busyB (per : Int) (ls : List (Int × Int)) (n : Int) : Bool := decide (curveAt (per * n) ls ≤ n)
theorem busy_slow {per n : Int} {ls : List (Int × Int)} (h : okCurve ls) (hper : 1 ≤ per) (hn : 1 ≤ n) (hq : busyB per ls n = true) :
  ∃ p, p ∈ ls ∧ p.1 ≤ n ∧ p.2 * per < 1000 ∧ p.2 * (per * n) < 1000 * (n - p.1 + 1) := by
 have hq' : curveAt (per * n) ls ≤ n := of_decide_eq_true hq
 obtain ⟨p, hp, e⟩ := curveAt_is (per * n) ls h.1
 rw [e] at hq'
 have hok := okLine_true (h.2.2 p hp)
 unfold lineAt at hq'
 have h1 : p.2 * (per * n) < 1000 * (n - p.1 + 1) := by omega
 have hlt : p.2 * per < 1000 := by
  rcases Int.lt_or_le (p.2 * per) 1000 with h | h
  · exact h
  ·
   have := Int.mul_le_mul_of_nonneg_right h (show 0 ≤ n by omega)
   rw [Int.mul_assoc] at this
   omega
 refine ⟨p, hp, ?_, hlt, h1⟩
 rcases Int.lt_or_le n p.1 with h2 | h2
 ·
  have := Int.mul_nonneg hok.2.2.1 (Int.mul_nonneg (show 0 ≤ per by omega) (show 0 ≤ n by omega))
  omega
 · exact h2
theorem busy_step {per n : Int} {ls : List (Int × Int)} (h : okCurve ls) (hper : 1 ≤ per) (hn : 1 ≤ n) (hq : busyB per ls n = true) : busyB per ls (n + 1) = true := by
 obtain ⟨p, hp, _, h1, h2⟩ := busy_slow h hper hn hq
 have := curveAt_le (per * (n + 1)) ls p hp
 refine decide_eq_true ?_
 unfold lineAt at this
 have e : p.2 * (per * (n + 1)) = p.2 * (per * n) + p.2 * per := by rw [Int.mul_add, Int.mul_add, Int.mul_one]
 rw [e] at this
 omega
theorem busy_on {per : Int} {ls : List (Int × Int)} (h : okCurve ls) (hper : 1 ≤ per) (k : Nat) : ∀ n : Int, 1 ≤ n → busyB per ls n = true → busyB per ls (n + k) = true := by
 induction k with
 | zero => intro n _ hq; simpa using hq
 | succ k ih =>
  intro n hn hq
  have := ih (n + 1) (by omega) (busy_step h hper hn hq)
  rw [show n + ((k + 1 : Nat) : Int) = n + 1 + k by omega]
  exact this
theorem busy_le {per m n : Int} {ls : List (Int × Int)} (h : okCurve ls) (hper : 1 ≤ per) (hm : 1 ≤ m) (hmn : m ≤ n) (hq : busyB per ls m = true) : busyB per ls n = true := by
 have := busy_on (per := per) h hper (n - m).toNat m hm hq
 rw [show m + ((n - m).toNat : Int) = n by omega] at this
 exact this
theorem curve_mono (ls : List (Int × Int)) (h : okCurve ls) (s t : Int) (hst : s ≤ t) : curveAt s ls ≤ curveAt t ls := by
 obtain ⟨p, hp, e⟩ := curveAt_is t ls h.1
 rw [e]
 refine Int.le_trans (curveAt_le s ls p hp) ?_
 unfold lineAt
 have := Int.mul_le_mul_of_nonneg_left hst (okLine_true (h.2.2 p hp)).2.2.1
 omega
end Go.Proofs.YtibhkijaafdkoaaGreatDoor

namespace Go.Proofs.YtibhkijaafdkoaaGreatDoor
open Go.RowKit
theorem miss_if (x n : Int) : (if n - x < 0 then 0 else n - x) = miss x n := by unfold miss; split <;> omega
theorem miss_bd {x n : Int} (hx : 1 ≤ x) (hn : 0 ≤ n) : 0 ≤ miss x n ∧ miss x n ≤ n := by unfold miss; omega
set_option maxHeartbeats 400000 in
theorem missing_any (x y n : Int) (w : World) (hx : 1 ≤ x) (hx2 : x ≤ 20000) (hn : 0 ≤ n) (hn2 : n ≤ 20020000) :
  Calls Tryz.prog 76 #[.agg #[.int .i64 x, .int .i64 y], .int .i64 n] w fun e w' => e = .returned (.int .i64 (miss x n)) ∧ Below w.heap.size w w' := by
 go_enter Tryz.func76, Tryz.ntmps76
 go_wp2
 all_goals
  go_ret
  exact ⟨congrArg (fun z => Ending.returned (.int .i64 z)) (by unfold miss; omega), (Below.refl _ _).alloc (Nat.le_refl _) _⟩
theorem laterB_zero {p q : Int × Int} {n : Int} (h : miss q.1 n = 0) : laterB p q n = decide (0 < miss p.1 n) := by unfold laterB; rw [if_pos h]
theorem laterB_some {p q : Int × Int} {n : Int} (h : miss q.1 n ≠ 0) : laterB p q n = decide (miss q.1 n * p.2 < miss p.1 n * q.2) := by unfold laterB; rw [if_neg h]
theorem prod_bd {m y : Int} (hm : 0 ≤ m) (hm2 : m ≤ 20020000) (hy : 0 ≤ y) (hy2 : y ≤ 100000) : 0 ≤ m * y ∧ m * y ≤ 2002000000000 := by
 refine ⟨Int.mul_nonneg hm hy, ?_⟩
 have a := Int.mul_le_mul_of_nonneg_right hm2 hy
 omega
set_option maxRecDepth 100000 in
set_option maxHeartbeats 1000000 in
theorem isLater_any (x y x2 y2 n : Int) (w : World) (hx : 1 ≤ x) (hx2 : x ≤ 20000) (hy : 0 ≤ y) (hy2 : y ≤ 100000) (gx : 1 ≤ x2) (gx2 : x2 ≤ 20000) (gy : 0 ≤ y2) (gy2 : y2 ≤ 100000) (hn : 0 ≤ n) (hn2 : n ≤ 20020000) :
  Calls Tryz.prog 121 #[.agg #[.int .i64 x, .int .i64 y], .agg #[.int .i64 x2, .int .i64 y2], .int .i64 n] w fun e w' => e = .returned (.bool (laterB (x, y) (x2, y2) n)) ∧ Below w.heap.size w w' := by
 have hbW : Below w.heap.size w ((w.alloc (.cells #[.int .i64 x, .int .i64 y] 133)).alloc (.cells #[.int .i64 x2, .int .i64 y2] 133)) := ((Below.refl _ _).alloc (Nat.le_refl _) _).alloc (by simp) _
 have c0 : ((w.alloc (.cells #[.int .i64 x, .int .i64 y] 133)).alloc (.cells #[.int .i64 x2, .int .i64 y2] 133)).cell? ⟨w.heap.size, 0, none⟩ = some (.int .i64 x) := by simp
 have c1 : ((w.alloc (.cells #[.int .i64 x, .int .i64 y] 133)).alloc (.cells #[.int .i64 x2, .int .i64 y2] 133)).cell? ⟨w.heap.size, 1, none⟩ = some (.int .i64 y) := by simp
 have c2 : ((w.alloc (.cells #[.int .i64 x, .int .i64 y] 133)).alloc (.cells #[.int .i64 x2, .int .i64 y2] 133)).cell? ⟨w.heap.size + 1, 0, none⟩ = some (.int .i64 x2) := by simp
 have c3 : ((w.alloc (.cells #[.int .i64 x, .int .i64 y] 133)).alloc (.cells #[.int .i64 x2, .int .i64 y2] 133)).cell? ⟨w.heap.size + 1, 1, none⟩ = some (.int .i64 y2) := by simp
 have mb1 := miss_bd hx hn
 have mb2 := miss_bd gx hn
 go_enter Tryz.func121, Tryz.ntmps121
 go_upto_region 1 with fail
 generalize (w.alloc (.cells #[.int .i64 x, .int .i64 y] 133)).alloc (.cells #[.int .i64 x2, .int .i64 y2] 133) = W at *
 have HBW : Hid (Below w.heap.size w W) := hbW
 clear hbW
 go_cut [7, 8] (fun s7 s8 wx => s7 = .int .i64 (miss x n) ∧ s8 = .int .i64 (miss x2 n) ∧ Below W.heap.size W wx)
 case first =>
  go_region_with (first
   | (go_at_call_of 76 (Value.agg #[.int .i64 x2, .int .i64 y2]); go_must (refine (missing_any x2 y2 n _ gx gx2 hn hn2).mono ?_; rintro e wb ⟨rfl, hbb⟩; have HBb : Hid (Below W.heap.size W wb) := HBa.out.trans (hbb.mono HBa.out.size); clear hbb))
   | (go_at_call_of 76 (Value.agg #[.int .i64 x, .int .i64 y]); go_must (refine (missing_any x y n _ hx hx2 hn hn2).mono ?_; rintro e wa ⟨rfl, hba⟩; have HBa : Hid (Below W.heap.size W wa) := ⟨hba.os, hba.tape, hba.output, hba.size, hba.block⟩; have d2 := cell_later HBa.out c2; have d3 := cell_later HBa.out c3; clear hba))
   | fail)
  all_goals (go_wp2_with fail; go_meet; exact ⟨rfl, rfl, HBb.out⟩)
 case rest =>
 obtain ⟨rfl, rfl, hbc⟩ := hcut
 have HBC : Hid (Below w.heap.size w wc) := HBW.out.trans (hbc.mono HBW.out.size)
 have e1 := cell_later hbc c1
 have e3 := cell_later hbc c3
 clear hbc c0 c1 c2 c3
 have HZ : Hid (miss (x2, y2).1 n = 0 → laterB (x, y) (x2, y2) n = decide (0 < miss x n)) := fun h => laterB_zero h
 have HS : Hid (miss (x2, y2).1 n ≠ 0 → laterB (x, y) (x2, y2) n = decide (miss x2 n * y < miss x n * y2)) := fun h => laterB_some h
 obtain ⟨A, hA⟩ : ∃ A, miss x n = A := ⟨_, rfl⟩
 obtain ⟨B, hB⟩ : ∃ B, miss x2 n = B := ⟨_, rfl⟩
 have HA : Hid (miss x n = A) := hA
 have HB : Hid (miss x2 n = B) := hB
 rw [hA] at mb1 ⊢
 rw [hB] at mb2 ⊢
 clear hA hB
 obtain ⟨m1, m2⟩ := mb1
 obtain ⟨m3, m4⟩ := mb2
 obtain ⟨p1, p2⟩ := prod_bd m1 (by omega) gy gy2
 obtain ⟨p3, p4⟩ := prod_bd m3 (by omega) hy hy2
 by_cases hz : B = 0
 ·
  have hz' : (B == 0) = true := by simpa using hz
  have HR : Hid (laterB (x, y) (x2, y2) n = decide (0 < A)) := by show _ = _; rw [HZ.out (by show miss x2 n = 0; rw [HB.out]; exact hz), HA.out]
  clear hz
  go_wp2_with fail
  go_ret
  exact ⟨congrArg (fun z => Ending.returned (.bool z)) HR.out.symm, HBC.out⟩
 ·
  have hz' : (B == 0) = false := by simpa using hz
  have HR : Hid (laterB (x, y) (x2, y2) n = decide (B * y < A * y2)) := by show _ = _; rw [HS.out (by show miss x2 n ≠ 0; rw [HB.out]; exact hz), HA.out, HB.out]
  clear hz
  go_wp2_with fail
  go_ret
  exact ⟨congrArg (fun z => Ending.returned (.bool z)) HR.out.symm, HBC.out⟩
set_option maxHeartbeats 400000 in
theorem comes_any (x y n : Int) (w : World) (hx : 1 ≤ x) (hx2 : x ≤ 20000) (hy : 0 ≤ y) (hy2 : y ≤ 100000) (hn : 0 ≤ n) (hn2 : n ≤ 20020000) (hk : miss x n = 0 ∨ 0 < y) :
  Calls Tryz.prog 122 #[.agg #[.int .i64 x, .int .i64 y], .int .i64 n] w fun e w' => e = .returned (.int .i64 (comesAt (x, y) n)) ∧ Below w.heap.size w w' := by
 have mb := miss_bd hx hn
 obtain ⟨A, hA⟩ : ∃ A, miss x n = A := ⟨_, rfl⟩
 have HA : Hid (miss x n = A) := hA
 have HC : Hid (comesAt (x, y) n = if A = 0 then 0 else (A * 1000 + y - 1) / y) := by show _ = _; unfold comesAt; rw [show miss (x, y).1 n = A from hA]
 rw [hA] at mb hk
 clear hA
 obtain ⟨m1, m2⟩ := mb
 by_cases hz : A = 0
 ·
  subst hz
  go_enter Tryz.func122, Tryz.ntmps122
  go_wp2_with fail
  refine (missing_any x y n _ hx hx2 hn hn2).mono ?_
  rintro e w1 ⟨rfl, hb⟩
  rw [HA.out]
  have HB : Hid (Below w.heap.size w w1) := ((Below.refl _ _).alloc (Nat.le_refl _) _).trans (hb.mono (by simp))
  clear hb
  go_wp2_with fail
  go_ret
  exact ⟨congrArg (fun z => Ending.returned (.int .i64 z)) (by rw [HC.out]; simp), HB.out⟩
 ·
  have hz' : (A == 0) = false := by simpa using hz
  have hy0 : 0 < y := by omega
  have hyne : (y == 0) = false := by simp; omega
  have HR : Hid (comesAt (x, y) n = (A * 1000 + y - 1) / y) := by show _ = _; rw [HC.out, if_neg hz]
  clear hk hz
  go_enter Tryz.func122, Tryz.ntmps122
  go_wp2_with fail
  refine (missing_any x y n _ hx hx2 hn hn2).mono ?_
  rintro e w1 ⟨rfl, hb⟩
  rw [HA.out]
  have HB : Hid (Below w.heap.size w w1) := ((Below.refl _ _).alloc (Nat.le_refl _) _).trans (hb.mono (by simp))
  have d1 : w1.cell? ⟨w.heap.size, 1, none⟩ = some (.int .i64 y) := cell_later hb (by simp)
  clear hb
  go_wp2_with fail
  go_ret
  exact ⟨congrArg (fun z => Ending.returned (.int .i64 z)) HR.out.symm, HB.out⟩
end Go.Proofs.YtibhkijaafdkoaaGreatDoor

namespace Go.Proofs.YtibhkijaafdkoaaGreatDoor
open Go.RowKit
theorem lastOf_snoc (n : Int) (r : List (Int × Int)) : ∀ (x y : Int × Int), lastOf n x (r ++ [y]) = if laterB y (lastOf n x r) n = true then y else lastOf n x r := by
 induction r with
 | nil => intro x y; rfl
 | cons z r ih => intro x y; exact ih _ y
theorem lies_tail {w : World} {b off : Nat} {x0 y0 : Int} {r : List (Int × Int)} (hc : ∀ i x y, ((x0, y0) :: r)[i]? = some (x, y) → w.cell? ⟨b, off + i * 2, none⟩ = some (.int .i64 x) ∧ w.cell? ⟨b, off + i * 2 + 1, none⟩ = some (.int .i64 y)) :
  (w.cell? ⟨b, off, none⟩ = some (.int .i64 x0) ∧ w.cell? ⟨b, off + 1, none⟩ = some (.int .i64 y0)) ∧ ∀ i x y, r[i]? = some (x, y) → w.cell? ⟨b, off + 2 + i * 2, none⟩ = some (.int .i64 x) ∧ w.cell? ⟨b, off + 2 + i * 2 + 1, none⟩ = some (.int .i64 y) := by
 have ha := hc 0 x0 y0 rfl
 refine ⟨⟨by simpa using ha.1, by simpa using ha.2⟩, fun i x y hi => ?_⟩
 have := hc (i + 1) x y (by simpa using hi)
 rw [show off + (i + 1) * 2 = off + 2 + i * 2 by omega] at this
 exact this
set_option maxHeartbeats 400000 in
theorem leastRate_ok (a : Option Addr) (cap : Nat) (ls : List (Int × Int)) (w : World) (hl : Lies w a ls) (h : okCurve ls) (hcap : ls.length ≤ cap) (hm : cap ≤ maxLen) :
  Calls Tryz.prog 44 #[.slice a ls.length cap] w fun e w' => e = .returned (.int .i64 (leastR ls)) ∧ Below w.heap.size w w' := by
 obtain ⟨h1, h6, hok⟩ := h
 obtain ⟨b, off, rfl, hlt, hc⟩ := hl.some h1
 clear hl
 unfold maxLen at hm
 obtain ⟨x0, y0, r, rfl⟩ : ∃ x y r, ls = (x, y) :: r := by
  cases ls with
  | nil => simp at h1
  | cons p r => exact ⟨p.1, p.2, r, rfl⟩
 obtain ⟨n, hn⟩ : ∃ n, r.length = n := ⟨_, rfl⟩
 have Hn := (show Hid (r.length = n) from hn)
 have h6' : n ≤ 5 := by simp at h6; omega
 have hcap' : n + 1 ≤ cap := by simp at hcap; omega
 rw [show ((x0, y0) :: r).length = n + 1 by simp [hn]]
 clear h1 h6 hcap hn
 obtain ⟨⟨hx0, hy0⟩, hr⟩ := lies_tail hc
 have HR : Hid (∀ i x y, r[i]? = some (x, y) → w.cell? ⟨b, off + 2 + i * 2, none⟩ = some (.int .i64 x) ∧ w.cell? ⟨b, off + 2 + i * 2 + 1, none⟩ = some (.int .i64 y)) := hr
 have HL : Hid (leastR ((x0, y0) :: r) = leastFold y0 r) := rfl
 clear hok hc hr
 by_cases hc1 : cap = 1
 ·
  subst hc1
  obtain rfl : n = 0 := by omega
  have hr0 : r = [] := List.length_eq_zero_iff.1 Hn.out
  subst hr0
  clear HR Hn
  go_enter Tryz.func44, Tryz.ntmps44
  go_wp2
  refine wp_loop_rounds 1 ?_
  rw [rounds_succ]
  go_wp2
  go_ret
  exact ⟨rfl, Below.refl _ _⟩
 ·
  have hc2 : 1 < cap := by omega
  clear hc1
  go_enter Tryz.func44, Tryz.ntmps44
  go_wp2
  go_loopw [3, 13] (fun m i wr => ∃ k : Nat, k ≤ n ∧ i = .int .i64 k ∧ m = .int .i64 (leastFold y0 (r.take k)) ∧ Below w.heap.size w wr) (fun _ i _ => n - (intOf i).toNat)
  case atStart => exact ⟨0, Nat.zero_le _, rfl, rfl, Below.refl _ _⟩
  case round =>
   obtain ⟨k, hk, rfl, rfl, hb⟩ := hrel
   have hs := hb.size
   by_cases hkn : k < n
   ·
    obtain ⟨⟨x, y⟩, hp, -⟩ := get_some r k (by rw [Hn.out]; exact hkn)
    have hc1 : wr.cell? ⟨b, off + 2 + k * 2, none⟩ = some (.int .i64 x) := by rw [hb.cell (p := ⟨b, off + 2 + k * 2, none⟩) hlt]; exact (HR.out k x y hp).1
    have hc2 : wr.cell? ⟨b, off + 2 + k * 2 + 1, none⟩ = some (.int .i64 y) := by rw [hb.cell (p := ⟨b, off + 2 + k * 2 + 1, none⟩) hlt]; exact (HR.out k x y hp).2
    have hts : r.take (k + 1) = r.take k ++ [(x, y)] := by rw [List.take_add_one, hp]; rfl
    have HS : Hid (leastFold y0 (r.take (k + 1)) = min (leastFold y0 (r.take k)) y) := by show _ = _; rw [hts]; exact leastFold_snoc _ _ _
    obtain ⟨M, hM⟩ : ∃ M, leastFold y0 (r.take k) = M := ⟨_, rfl⟩
    rw [hM]
    have HM : Hid (leastFold y0 (r.take k) = M) := hM
    clear hM hts hp
    go_wp2
    all_goals
     go_roundw
     case rel =>
      refine ⟨k + 1, by omega, by go_num, ?_, hb.alloc hs _⟩
      rw [HS.out, HM.out]
      all_goals first | exact congrArg (Value.int .i64) (min_if _ _) | exact congrArg (Value.int .i64) (by omega)
     case measure => simp [intOf]; omega
   ·
    go_wp2
    go_ret
    refine ⟨congrArg (fun z => Ending.returned (.int .i64 z)) ?_, hb⟩
    rw [List.take_of_length_le (by rw [Hn.out]; omega)]
    exact HL.out.symm
end Go.Proofs.YtibhkijaafdkoaaGreatDoor

namespace Go.Proofs.YtibhkijaafdkoaaGreatDoor
open Go.RowKit
def coveredT (x : Int × Int) : List (Int × Int) → Bool
 | [] => false
 | [t] => decide (x.1 ≤ t.1)
 | t :: u :: _ => decide (x.1 ≤ t.1) || decide ((x.1 - t.1) * (u.2 - t.2) ≤ (t.1 - u.1) * (t.2 - x.2))
def popT (x : Int × Int) : List (Int × Int) → List (Int × Int)
 | [] => []
 | t :: r => if coveredT x (t :: r) = true then popT x r else t :: r
def lowT : List (Int × Int) → List (Int × Int) → List (Int × Int)
 | T, [] => T
 | T, x :: r => lowT (x :: popT x T) r
theorem prodL {a b : Int} (h1 : -20000 ≤ a) (h2 : a ≤ 20000) (h3 : -100000 ≤ b) (h4 : b ≤ 100000) : -2000000000 ≤ a * b ∧ a * b ≤ 2000000000 := by
 have h := Int.natAbs_mul a b
 have ha : a.natAbs ≤ 20000 := by omega
 have hb : b.natAbs ≤ 100000 := by omega
 have := Nat.mul_le_mul ha hb
 omega
set_option maxHeartbeats 400000 in
theorem covered_ok (a : Option Addr) (cap : Nat) (T : List (Int × Int)) (x : Int × Int) (w : World) (hl : Lies w a T.reverse) (h1 : 1 ≤ T.length) (hn : T.length ≤ 1000) (hok : okAll T) (hx : okLine x.1 x.2 = true) :
  Calls Tryz.prog 145 #[.slice a T.length cap, .agg #[.int .i64 x.1, .int .i64 x.2]] w fun e w' => e = .returned (.bool (coveredT x T)) ∧ Below w.heap.size w w' := by
 obtain ⟨b, off, rfl, hlt, hc⟩ := hl.some (by simpa using h1)
 clear hl
 obtain ⟨x1, x2⟩ := x
 obtain ⟨q1, q2, q3, q4⟩ := okLine_true hx
 simp only [] at q1 q2 q3 q4
 match T, h1, hn, hok, hc with
 | [t], _, _, hok, hc =>
  obtain ⟨t1, t2⟩ := t
  have c := hc 0 t1 t2 rfl
  have c0 : w.cell? ⟨b, off, none⟩ = some (.int .i64 t1) := by simpa using c.1
  have c1 : w.cell? ⟨b, off + 1, none⟩ = some (.int .i64 t2) := by simpa using c.2
  have HR : Hid (coveredT (x1, x2) [(t1, t2)] = decide (x1 ≤ t1)) := rfl
  clear hc c hok hx
  by_cases hle : x1 ≤ t1
  ·
   go_enter Tryz.func145, Tryz.ntmps145
   go_wp2
   go_ret
   exact ⟨congrArg (fun z => Ending.returned (.bool z)) (by rw [HR.out]; exact (decide_eq_true hle).symm), ((Below.refl _ _).alloc (Nat.le_refl _) _).alloc (by simp) _⟩
  ·
   go_enter Tryz.func145, Tryz.ntmps145
   go_wp2
   go_ret
   exact ⟨congrArg (fun z => Ending.returned (.bool z)) (by rw [HR.out]; exact (decide_eq_false (by omega)).symm), ((Below.refl _ _).alloc (Nat.le_refl _) _).alloc (by simp) _⟩
 | t :: u :: r, _, hn, hok, hc =>
  obtain ⟨t1, t2⟩ := t
  obtain ⟨u1, u2⟩ := u
  obtain ⟨a1, a2, a3, a4⟩ := okLine_true (hok _ (List.mem_cons_self ..))
  obtain ⟨b1, b2, b3, b4⟩ := okLine_true (hok _ (List.mem_cons_of_mem _ (List.mem_cons_self ..)))
  simp only [] at a1 a2 a3 a4 b1 b2 b3 b4
  have et : ((t1, t2) :: (u1, u2) :: r).reverse = r.reverse ++ [(u1, u2), (t1, t2)] := by simp
  have ct := hc (r.length + 1) t1 t2 (by rw [et]; simp)
  have cu := hc r.length u1 u2 (by rw [et]; simp)
  obtain ⟨m, hm⟩ : ∃ m, r.length = m := ⟨_, rfl⟩
  rw [hm] at ct cu
  rw [show ((t1, t2) :: (u1, u2) :: r).length = m + 2 by simp [hm]]
  have hm' : m ≤ 998 := by simp at hn; omega
  have HR : Hid (coveredT (x1, x2) ((t1, t2) :: (u1, u2) :: r) = (decide (x1 ≤ t1) || decide ((x1 - t1) * (u2 - t2) ≤ (t1 - u1) * (t2 - x2)))) := rfl
  obtain ⟨k1, k2⟩ := ct
  obtain ⟨k3, k4⟩ := cu
  obtain ⟨p1, p2⟩ := prodL (show -20000 ≤ x1 - t1 by omega) (show x1 - t1 ≤ 20000 by omega) (show -100000 ≤ u2 - t2 by omega) (show u2 - t2 ≤ 100000 by omega)
  obtain ⟨p3, p4⟩ := prodL (show -20000 ≤ t1 - u1 by omega) (show t1 - u1 ≤ 20000 by omega) (show -100000 ≤ t2 - x2 by omega) (show t2 - x2 ≤ 100000 by omega)
  clear hc hok hx et hm hn
  by_cases hle : x1 ≤ t1
  ·
   go_enter Tryz.func145, Tryz.ntmps145
   go_wp2
   go_ret
   exact ⟨congrArg (fun z => Ending.returned (.bool z)) (by rw [HR.out, decide_eq_true hle]; rfl), ((Below.refl _ _).alloc (Nat.le_refl _) _).alloc (by simp) _⟩
  ·
   go_enter Tryz.func145, Tryz.ntmps145
   go_wp2
   go_ret
   exact ⟨congrArg (fun z => Ending.returned (.bool z)) (by rw [HR.out, decide_eq_false (show ¬ x1 ≤ t1 by omega), Bool.false_or]), (((Below.refl _ _).alloc (Nat.le_refl _) _).alloc (by simp) _).alloc (by simp; omega) _⟩
end Go.Proofs.YtibhkijaafdkoaaGreatDoor
