/- Plain facts for CurveBounds: a delay of small bursts is met within 130000 ticks; a link that is faster than a line catches up. -/
import Derived.Test.YtcldgpbimaoliaaDoorPlainDelay2
namespace Go.Proofs.YtcldgpbimaoliaaDoor

/-- The last line ahead of the turn is not far. -/
theorem near_ahead {per k : Int} {ls : List (Int × Int)} (h : okCurve ls) (hper : 1 ≤ per) (hs : leastR ls * per ≤ 1000) (hb : ∀ p, p ∈ ls → p.1 ≤ 60) (hk : turns per ls k = false) (hz : miss (lastC k ls).1 k ≠ 0) :
    0 < (lastC k ls).2 ∧ miss (lastC k ls).1 k ≤ 59 * (lastC k ls).2 := by
  have hm := lastC_mem k ls h.1
  have hpos : ∀ p, p ∈ ls → 0 ≤ p.2 := fun p hp => (okLine_true (h.2.2 p hp)).2.2.1
  have hmax := lastC_max k ls hpos
  have hok := okLine_true (h.2.2 _ hm)
  obtain ⟨s, hsm, hse⟩ := leastR_is ls h.1
  rw [hse] at hs
  have hsk := okLine_true (h.2.2 s hsm)
  have hl := hmax s hsm
  have hbs := hb s hsm
  have hk' : ¬ (0 < miss (lastC k ls).1 k ∧ (lastC k ls).2 * per ≤ 1000) := of_decide_eq_false hk
  generalize lastC k ls = z at *
  have mn := miss_nonneg z.1 k
  obtain ⟨e1, e2⟩ := miss_pos hz
  have hfast : 1000 < z.2 * per := by
    rcases Int.lt_or_le 1000 (z.2 * per) with h | h
    · exact h
    · exact absurd ⟨by omega, h⟩ hk'
  have hlt : s.2 < z.2 := by
    rcases Int.lt_or_le s.2 z.2 with h | h
    · exact h
    · have := Int.mul_le_mul_of_nonneg_right h (show 0 ≤ per by omega)
      omega
  refine ⟨by omega, ?_⟩
  have hle := (laterB_false hl).2 hz
  have hms : miss z.1 k - 59 ≤ miss s.1 k := by rw [e1]; unfold miss; omega
  have a1 := Int.mul_le_mul_of_nonneg_right hms (show 0 ≤ z.2 by omega)
  have a2 := Int.mul_le_mul_of_nonneg_left (show s.2 ≤ z.2 - 1 by omega) mn
  rw [Int.sub_mul] at a1
  rw [Int.mul_sub, Int.mul_one] at a2
  omega
/-- The tick at which a byte just ahead of the turn, or at it, has come. -/
theorem tick_small {per k : Int} {ls : List (Int × Int)} (h : okCurve ls) (hper : 1 ≤ per) (hs : leastR ls * per ≤ 1000) (hb : ∀ p, p ∈ ls → p.1 ≤ 60) (hk : turns per ls k = false ∨ turns per ls (k - 1) = false) (hr : miss (lastC k ls).1 k = 0 ∨ 0 < (lastC k ls).2) :
    comesAt (lastC k ls) k ≤ 60000 := by
  have hm := lastC_mem k ls h.1
  have hok := okLine_true (h.2.2 _ hm)
  by_cases hz : miss (lastC k ls).1 k = 0
  · unfold comesAt; rw [if_pos hz]; omega
  have hr' : 0 < (lastC k ls).2 := by
    rcases hr with hr | hr
    · exact absurd hr hz
    · exact hr
  have key : miss (lastC k ls).1 k ≤ 60 * (lastC k ls).2 := by
    rcases hk with hk | hk
    · have := (near_ahead h hper hs hb hk hz).2
      omega
    · have hpos : ∀ p, p ∈ ls → 0 ≤ p.2 := fun p hp => (okLine_true (h.2.2 p hp)).2.2.1
      have hl := lastC_max (k - 1) ls hpos _ hm
      have hstep : miss (lastC k ls).1 k ≤ miss (lastC k ls).1 (k - 1) + 1 := by unfold miss; omega
      by_cases hy : miss (lastC (k - 1) ls).1 (k - 1) = 0
      · have := (laterB_false hl).1 hy
        omega
      · obtain ⟨b1, b2⟩ := near_ahead h hper hs hb hk hy
        have b3 := (laterB_false hl).2 hy
        have mz := miss_nonneg (lastC k ls).1 (k - 1)
        generalize miss (lastC k ls).1 (k - 1) = m at *
        generalize miss (lastC (k - 1) ls).1 (k - 1) = n at *
        generalize (lastC (k - 1) ls).2 = u at *
        generalize (lastC k ls).2 = v at *
        have c1 := Int.mul_le_mul_of_nonneg_right b2 (show 0 ≤ v by omega)
        have : m ≤ 59 * v := by
          rcases Int.lt_or_le (59 * v) m with h' | h'
          · have c2 := Int.mul_lt_mul_of_pos_left h' b1
            have e1 : u * (59 * v) = 59 * u * v := by ac_rfl
            have e2 : u * m = m * u := Int.mul_comm _ _
            omega
          · exact h'
        omega
  unfold comesAt
  rw [if_neg hz, ceil_le hr']
  omega

/-- A link that is faster than a line catches up. -/
theorem busy_some {per : Int} {ls : List (Int × Int)} (h : okCurve ls) (p2 : per ≤ 1000) (hs : leastR ls * per < 1000) : ∃ n, 1 ≤ n ∧ per * n ≤ 1099511627776 ∧ busyB per ls n = true := by
  obtain ⟨s, hsm, hse⟩ := leastR_is ls h.1
  rw [hse] at hs
  have hsk := okLine_true (h.2.2 s hsm)
  refine ⟨1000 * s.1, by omega, ?_, decide_eq_true ?_⟩
  · have := Int.mul_le_mul_of_nonneg_right p2 (show 0 ≤ 1000 * s.1 by omega)
    omega
  · refine Int.le_trans (curveAt_le _ ls s hsm) ?_
    unfold lineAt
    have e : s.2 * (per * (1000 * s.1)) = 1000 * (s.2 * per * s.1) := by ac_rfl
    rw [e]
    have := Int.mul_le_mul_of_nonneg_right (show s.2 * per ≤ 999 by omega) (show 0 ≤ s.1 by omega)
    omega
/-- One that is not doesn't. -/
theorem busy_never {per n : Int} {ls : List (Int × Int)} (h : okCurve ls) (p1 : 1 ≤ per) (hn : 1 ≤ n) (hs : 1000 ≤ leastR ls * per) : busyB per ls n = false := by
  cases hq : busyB per ls n with
  | false => rfl
  | true =>
    exfalso
    obtain ⟨p, hp, _, b2, _⟩ := busy_slow h p1 hn hq
    have := Int.mul_le_mul_of_nonneg_right (leastR_le ls p hp) (show 0 ≤ per by omega)
    omega
end Go.Proofs.YtcldgpbimaoliaaDoor
