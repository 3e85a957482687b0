/- Plain facts on the turn of a delay, and on how long a link is busy. -/
import Derived.Test.YtcldgpbimaoliaaDoorPlainDelay
namespace Go.Proofs.YtcldgpbimaoliaaDoor

/-- The least rate of lines. -/
def leastFold : Int → List (Int × Int) → Int
  | m, [] => m
  | m, p :: r => leastFold (min m p.2) r
def leastR : List (Int × Int) → Int
  | [] => 0
  | p :: r => leastFold p.2 r
theorem leastFold_snoc (l : List (Int × Int)) : ∀ (m : Int) (p : Int × Int), leastFold m (l ++ [p]) = min (leastFold m l) p.2 := by
  induction l with
  | nil => intro m p; rfl
  | cons q r ih => intro m p; exact ih _ p
theorem leastFold_le (l : List (Int × Int)) : ∀ m : Int, leastFold m l ≤ m ∧ ∀ p, p ∈ l → leastFold m l ≤ p.2 := by
  induction l with
  | nil => intro m; exact ⟨Int.le_refl _, fun p hp => by cases hp⟩
  | cons q r ih =>
    intro m
    have := ih (min m q.2)
    refine ⟨?_, fun p hp => ?_⟩
    · show leastFold (min m q.2) r ≤ m
      have := this.1; omega
    · show leastFold (min m q.2) r ≤ _
      rcases List.mem_cons.1 hp with rfl | hp
      · have := this.1; omega
      · exact this.2 p hp
theorem leastFold_is (l : List (Int × Int)) : ∀ m : Int, leastFold m l = m ∨ ∃ p, p ∈ l ∧ leastFold m l = p.2 := by
  induction l with
  | nil => intro m; exact .inl rfl
  | cons q r ih =>
    intro m
    show leastFold (min m q.2) r = m ∨ ∃ p, p ∈ q :: r ∧ leastFold (min m q.2) r = p.2
    rcases ih (min m q.2) with h | ⟨p, hp, h⟩
    · rw [h]
      by_cases hm : m ≤ q.2
      · exact .inl (by omega)
      · exact .inr ⟨q, List.mem_cons_self .., by omega⟩
    · exact .inr ⟨p, List.mem_cons_of_mem _ hp, h⟩
theorem leastR_le (ls : List (Int × Int)) (p : Int × Int) (hp : p ∈ ls) : leastR ls ≤ p.2 := by
  cases ls with
  | nil => cases hp
  | cons q r =>
    have := leastFold_le r q.2
    rcases List.mem_cons.1 hp with rfl | hp
    · exact this.1
    · exact this.2 p hp
theorem leastR_is (ls : List (Int × Int)) (h : 1 ≤ ls.length) : ∃ p, p ∈ ls ∧ leastR ls = p.2 := by
  cases ls with
  | nil => simp at h
  | cons q r =>
    rcases leastFold_is r q.2 with h | ⟨p, hp, h⟩
    · exact ⟨q, List.mem_cons_self .., h⟩
    · exact ⟨p, List.mem_cons_of_mem _ hp, h⟩

/-- Where a line is no faster than the link, the delay turns ahead of 20019999 bytes. -/
theorem turns_far {per : Int} {ls : List (Int × Int)} (h : okCurve ls) (hper : 1 ≤ per) (hs : leastR ls * per ≤ 1000) : turns per ls 20019999 = true := by
  have hm := lastC_mem 20019999 ls h.1
  have hpos : ∀ p, p ∈ ls → 0 ≤ p.2 := fun p hp => (okLine_true (h.2.2 p hp)).2.2.1
  have hmax := lastC_max 20019999 ls hpos
  have hok := okLine_true (h.2.2 _ hm)
  obtain ⟨s, hsm, hse⟩ := leastR_is ls h.1
  rw [hse] at hs
  have hsk := okLine_true (h.2.2 s hsm)
  have hl := hmax s hsm
  unfold turns
  generalize lastC 20019999 ls = z at *
  have e1 : miss z.1 20019999 = 20019999 - z.1 := by unfold miss; omega
  have e2 : miss s.1 20019999 = 20019999 - s.1 := by unfold miss; omega
  refine decide_eq_true ⟨by omega, ?_⟩
  rcases Int.lt_or_le 1000 (z.2 * per) with hf | hf
  · exfalso
    have hlt : s.2 < z.2 := by
      rcases Int.lt_or_le s.2 z.2 with h | h
      · exact h
      · have := Int.mul_le_mul_of_nonneg_right h (show 0 ≤ per by omega)
        omega
    have hs1 : s.2 ≤ 1000 := by
      have := Int.mul_le_mul_of_nonneg_left hper hsk.2.2.1
      omega
    have := (laterB_false hl).2 (by omega)
    rw [e1, e2] at this
    have a1 := Int.mul_le_mul_of_nonneg_right (show 19999999 ≤ 20019999 - s.1 by omega) (show 0 ≤ z.2 by omega)
    have a2 := Int.mul_le_mul_of_nonneg_right (show 20019999 - z.1 ≤ 20019998 by omega) hsk.2.2.1
    omega
  · exact hf
theorem turns_one {per : Int} {ls : List (Int × Int)} (h : okCurve ls) : turns per ls 1 = false := by
  have hm := lastC_mem 1 ls h.1
  have hok := okLine_true (h.2.2 _ hm)
  unfold turns
  generalize lastC 1 ls = z at *
  refine decide_eq_false fun h => ?_
  have := h.1
  unfold miss at this
  omega

/-- Has the link caught up when n bytes are through? -/
def busyB (per : Int) (ls : List (Int × Int)) (n : Int) : Bool := decide (curveAt (per * n) ls ≤ n)
/-- A line that a link has caught up with is slower than the link. -/
theorem busy_slow {per n : Int} {ls : List (Int × Int)} (h : okCurve ls) (hper : 1 ≤ per) (hn : 1 ≤ n) (hq : busyB per ls n = true) :
    ∃ p, p ∈ ls ∧ p.1 ≤ n ∧ p.2 * per < 1000 ∧ p.2 * (per * n) < 1000 * (n - p.1 + 1) := by
  have hq' : curveAt (per * n) ls ≤ n := of_decide_eq_true hq
  obtain ⟨p, hp, e⟩ := curveAt_is (per * n) ls h.1
  rw [e] at hq'
  have hok := okLine_true (h.2.2 p hp)
  unfold lineAt at hq'
  have h1 : p.2 * (per * n) < 1000 * (n - p.1 + 1) := by omega
  have hlt : p.2 * per < 1000 := by
    rcases Int.lt_or_le (p.2 * per) 1000 with h | h
    · exact h
    · have := Int.mul_le_mul_of_nonneg_right h (show 0 ≤ n by omega)
      rw [Int.mul_assoc] at this
      omega
  refine ⟨p, hp, ?_, hlt, h1⟩
  rcases Int.lt_or_le n p.1 with h2 | h2
  · have := Int.mul_nonneg hok.2.2.1 (Int.mul_nonneg (show 0 ≤ per by omega) (show 0 ≤ n by omega))
    omega
  · exact h2
theorem busy_step {per n : Int} {ls : List (Int × Int)} (h : okCurve ls) (hper : 1 ≤ per) (hn : 1 ≤ n) (hq : busyB per ls n = true) : busyB per ls (n + 1) = true := by
  obtain ⟨p, hp, _, h1, h2⟩ := busy_slow h hper hn hq
  have := curveAt_le (per * (n + 1)) ls p hp
  refine decide_eq_true ?_
  unfold lineAt at this
  have e : p.2 * (per * (n + 1)) = p.2 * (per * n) + p.2 * per := by rw [Int.mul_add, Int.mul_add, Int.mul_one]
  rw [e] at this
  omega
theorem busy_on {per : Int} {ls : List (Int × Int)} (h : okCurve ls) (hper : 1 ≤ per) (k : Nat) : ∀ n : Int, 1 ≤ n → busyB per ls n = true → busyB per ls (n + k) = true := by
  induction k with
  | zero => intro n _ hq; simpa using hq
  | succ k ih =>
    intro n hn hq
    have := ih (n + 1) (by omega) (busy_step h hper hn hq)
    rw [show n + ((k + 1 : Nat) : Int) = n + 1 + k by omega]
    exact this
theorem busy_le {per m n : Int} {ls : List (Int × Int)} (h : okCurve ls) (hper : 1 ≤ per) (hm : 1 ≤ m) (hmn : m ≤ n) (hq : busyB per ls m = true) : busyB per ls n = true := by
  have := busy_on (per := per) h hper (n - m).toNat m hm hq
  rw [show m + ((n - m).toNat : Int) = n by omega] at this
  exact this
theorem curve_mono (ls : List (Int × Int)) (h : okCurve ls) (s t : Int) (hst : s ≤ t) : curveAt s ls ≤ curveAt t ls := by
  obtain ⟨p, hp, e⟩ := curveAt_is t ls h.1
  rw [e]
  refine Int.le_trans (curveAt_le s ls p hp) ?_
  unfold lineAt
  have := Int.mul_le_mul_of_nonneg_left hst (okLine_true (h.2.2 p hp)).2.2.1
  omega
/-- While a link is busy, it has not caught up. -/
theorem busy_least {per t n : Int} {ls : List (Int × Int)} (h : okCurve ls) (hper : 1 ≤ per) (t1 : 1 ≤ t) (hn : n = 1 ∨ busyB per ls (n - 1) = false) (htn : t < per * n) (tm : t ≤ 1099511627776) : t < per * curveAt t ls := by
  rcases Int.lt_or_le t (per * curveAt t ls) with h' | h'
  · exact h'
  · exfalso
    have hb := curveAt_bd t ls h (by omega) tm
    have hm := curve_mono ls h (per * curveAt t ls) t h'
    have hq : busyB per ls (curveAt t ls) = true := decide_eq_true hm
    have hlt : curveAt t ls < n := by
      rcases Int.lt_or_le (curveAt t ls) n with h | h
      · exact h
      · have := Int.mul_le_mul_of_nonneg_left h (show 0 ≤ per by omega)
        omega
    rcases hn with rfl | hn
    · omega
    · have := busy_le (n := n - 1) h hper hb.1 (by omega) hq
      rw [hn] at this
      cases this
/-- A delay is at most what is busy. -/
theorem delay_busy {per k n : Int} {ls : List (Int × Int)} (h : okCurve ls) (hper : 1 ≤ per) (hn : 1 ≤ n) (hq : busyB per ls n = true) (hk : miss (lastC k ls).1 k = 0 ∨ 0 < (lastC k ls).2) :
    per * k - comesAt (lastC k ls) k ≤ per * n := by
  obtain ⟨h0, h1⟩ := has_at ls k h hk
  obtain ⟨p, hp, b1, b2, b3⟩ := busy_slow h hper hn hq
  have hl := line_has.1 (Int.le_trans h1 (curveAt_le _ ls p hp))
  have hok := okLine_true (h.2.2 p hp)
  generalize comesAt (lastC k ls) k = C at *
  rcases Int.lt_or_le n k with hkn | hkn
  · rcases Int.lt_or_le (per * n) (per * k - C) with hlt | hge
    · exfalso
      have a1 := Int.mul_le_mul_of_nonneg_left (show C ≤ per * (k - n) by rw [Int.mul_sub]; omega) hok.2.2.1
      have a2 := Int.mul_le_mul_of_nonneg_right (show p.2 * per ≤ 999 by omega) (show 0 ≤ k - n by omega)
      rw [Int.mul_assoc] at a2
      omega
    · exact hge
  · have := Int.mul_le_mul_of_nonneg_left hkn (show 0 ≤ per by omega)
    omega
end Go.Proofs.YtcldgpbimaoliaaDoor
