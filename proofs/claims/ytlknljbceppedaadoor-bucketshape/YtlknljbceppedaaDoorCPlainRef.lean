/- Plain facts on the reference's bucket: it tells what the bucket tells. No Go text is named here. -/
import Derived.Test.YtlknljbceppedaaDoorCPlainShape
namespace Go.Proofs.YtlknljbceppedaaDoor

structure Rb where
  burst : Int
  rate : Int
  has : Int
  tick : Int
  last : Int
def Rb.hasAt (m : Rb) (t : Int) : Int := if m.rate = 0 ∨ m.has = 1000 * m.burst then m.has else if (1000 * m.burst - m.has) / m.rate < t - m.tick then 1000 * m.burst else m.has + (t - m.tick) * m.rate
def Rb.take (m : Rb) (t n : Int) : Rb := if m.hasAt t < 1000 * n then ⟨m.burst, m.rate, m.has, m.tick, t⟩ else ⟨m.burst, m.rate, m.hasAt t - 1000 * n, t, t⟩
def Rb.when (m : Rb) (t n : Int) : Int :=
  if m.burst < n then -1
  else if 1000 * n - m.hasAt t ≤ 0 then t
  else if m.rate = 0 then -1
  else if 1099511627776 < t + (if (1000 * n - m.hasAt t) / m.rate * m.rate < 1000 * n - m.hasAt t then (1000 * n - m.hasAt t) / m.rate + 1 else (1000 * n - m.hasAt t) / m.rate) then -1
  else t + (if (1000 * n - m.hasAt t) / m.rate * m.rate < 1000 * n - m.hasAt t then (1000 * n - m.hasAt t) / m.rate + 1 else (1000 * n - m.hasAt t) / m.rate)
/-- The reference's bucket of a line. -/
def rbOf (p : Int × Int) : Rb := ⟨p.1, p.2, 1000 * p.1, 0, 0⟩

structure RelB (b : Bk) (m : Rb) : Prop where
  most : b.most = 1000 * m.burst
  rate : b.rate = m.rate
  last : m.last = b.last
  t0 : 0 ≤ m.tick
  t1 : m.tick ≤ m.last
  h0 : 0 ≤ m.has
  h1 : m.has ≤ 1000 * m.burst
  has : b.has = min b.most (m.has + m.rate * (m.last - m.tick))

theorem relB_new (p : Int × Int) (h : okLine p.1 p.2 = true) : RelB (bkOf p) (rbOf p) := by
  obtain ⟨a, b, c, d⟩ := okLine_true h
  constructor <;> simp [bkOf, rbOf] <;> omega

theorem RelB.hasAt {b : Bk} {m : Rb} (h : RelB b m) (hb : b.Ok) {t : Int} (ht : b.last ≤ t) : m.hasAt t = b.lev t := by
  have e1 := h.most; have e2 := h.rate; have e3 := h.last; have e4 := h.has; have t1 := h.t1; have h1 := h.h1
  have r0 := hb.r0
  have s1 := mul_split m.rate t m.last m.tick
  have s2 := Int.mul_nonneg (show 0 ≤ m.rate by omega) (show 0 ≤ t - m.last by omega)
  have s3 := Int.mul_nonneg (show 0 ≤ m.rate by omega) (show 0 ≤ m.last - m.tick by omega)
  have hl : b.lev t = min b.most (m.has + m.rate * (t - m.tick)) := by
    unfold Bk.lev; rw [e2, ← e3]; omega
  rw [hl]
  unfold Rb.hasAt
  split
  · rename_i hz
    rcases hz with hz | hz
    · rw [hz]; omega
    · omega
  · rename_i hz
    have hr : 0 < m.rate := by omega
    have d1 := Int.mul_ediv_add_emod (1000 * m.burst - m.has) m.rate
    have d2 := Int.emod_nonneg (1000 * m.burst - m.has) (show m.rate ≠ 0 by omega)
    have d3 := Int.emod_lt_of_pos (1000 * m.burst - m.has) hr
    generalize (1000 * m.burst - m.has) / m.rate = k at *
    split
    · rename_i hk
      have := Int.mul_le_mul_of_nonneg_left (show k + 1 ≤ t - m.tick by omega) (show 0 ≤ m.rate by omega)
      rw [Int.mul_add] at this
      omega
    · rename_i hk
      have := Int.mul_le_mul_of_nonneg_left (show t - m.tick ≤ k by omega) (show 0 ≤ m.rate by omega)
      rw [Int.mul_comm (t - m.tick) m.rate]
      omega

theorem RelB.take {b : Bk} {m : Rb} (h : RelB b m) (hb : b.Ok) {t n : Int} (ht : b.last ≤ t) (hn : 1 ≤ n) : RelB (b.take t n) (m.take t n) := by
  have e := h.hasAt hb ht
  have e1 := h.most; have e2 := h.rate; have e3 := h.last; have t1 := h.t1; have l0 := hb.l0; have bd := hb.lev_bd ht
  have e4 := h.has
  unfold Rb.take Bk.take
  rw [e]
  by_cases hc : n * 1000 ≤ b.lev t
  · rw [if_pos hc, if_neg (by omega)]
    exact ⟨e1, e2, rfl, by simp; omega, Int.le_refl _, by simp; omega, by simp; omega, by simp; omega⟩
  · rw [if_neg hc, if_pos (by omega)]
    refine ⟨e1, e2, rfl, h.t0, by simp; omega, h.h0, h.h1, ?_⟩
    show b.lev t = min b.most (m.has + m.rate * (t - m.tick))
    have r0 := hb.r0
    have s1 := mul_split m.rate t m.last m.tick
    have s2 := Int.mul_nonneg (show 0 ≤ m.rate by omega) (show 0 ≤ t - m.last by omega)
    unfold Bk.lev; rw [e2, ← e3]; omega

theorem div_two {r x : Int} (hr : 0 < r) : (if x / r * r < x then x / r + 1 else x / r) = (x + r - 1) / r := by
  have hd := div_up (r := r) (x := x) hr
  have d1 := Int.mul_ediv_add_emod x r
  have d2 := Int.emod_nonneg x (show r ≠ 0 by omega)
  have d3 := Int.emod_lt_of_pos x hr
  rw [Int.mul_comm (x / r) r]
  generalize x / r = k at *
  generalize (x + r - 1) / r = u at *
  have up : ∀ a c : Int, a < c → r * a + r ≤ r * c := fun a c h => by
    have := Int.mul_le_mul_of_nonneg_left (show a + 1 ≤ c by omega) (show 0 ≤ r by omega)
    rwa [Int.mul_add, Int.mul_one] at this
  split
  · by_cases h1 : u < k + 1
    · have := up u (k + 1) h1
      rw [Int.mul_add, Int.mul_one] at this
      omega
    · by_cases h2 : k + 1 < u
      · have := up (k + 1) u h2
        rw [Int.mul_add, Int.mul_one] at this
        omega
      · omega
  · by_cases h1 : u < k
    · have := up u k h1
      omega
    · by_cases h2 : k < u
      · have := up k u h2
        omega
      · omega

theorem RelB.when {b : Bk} {m : Rb} (h : RelB b m) (hb : b.Ok) {t n : Int} (ht : b.last ≤ t) : m.when t n = match b.when t n with | some T => T | none => -1 := by
  have e := h.hasAt hb ht
  have bd := hb.lev_bd ht
  have e1 := h.most; have e2 := h.rate
  unfold Rb.when Bk.when
  rw [e]
  by_cases h1 : n * 1000 ≤ b.lev t
  · rw [if_neg (by omega), if_pos (by omega), if_pos h1]
  · rw [if_neg h1]
    by_cases h2 : m.burst < n
    · rw [if_pos h2, if_pos (.inl (by omega))]
    · rw [if_neg h2, if_neg (by omega)]
      by_cases h3 : m.rate = 0
      · rw [if_pos h3, if_pos (.inr (by omega))]
      · rw [if_neg h3, div_two (by have := hb.r0; omega), if_neg (show ¬ (b.most < n * 1000 ∨ b.rate = 0) by omega), ← e2, Int.mul_comm n 1000]
        by_cases h4 : 1099511627776 - t < (1000 * n - b.lev t + b.rate - 1) / b.rate
        · rw [if_pos h4, if_pos (by omega)]
        · rw [if_neg h4, if_neg (by omega)]
end Go.Proofs.YtlknljbceppedaaDoor
