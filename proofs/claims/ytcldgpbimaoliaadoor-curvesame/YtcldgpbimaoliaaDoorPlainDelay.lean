/- Plain facts on the delay of a curve at a link: no Go text is named here. -/
import Derived.Test.YtcldgpbimaoliaaDoorPlainRises
namespace Go.Proofs.YtcldgpbimaoliaaDoor

/-- Bytes that a line of burst x lacks of n at tick 0. -/
def miss (x n : Int) : Int := max (n - x) 0
/-- Has line p its n bytes later than line q? -/
def laterB (p q : Int × Int) (n : Int) : Bool :=
  if miss q.1 n = 0 then decide (0 < miss p.1 n) else decide (miss q.1 n * p.2 < miss p.1 n * q.2)
/-- The last line to have n bytes. -/
def lastOf (n : Int) : Int × Int → List (Int × Int) → Int × Int
  | x, [] => x
  | x, y :: r => lastOf n (if laterB y x n = true then y else x) r
def lastC (n : Int) : List (Int × Int) → Int × Int
  | [] => (0, 0)
  | p :: r => lastOf n p r
/-- The tick at which a line has n bytes. -/
def comesAt (p : Int × Int) (n : Int) : Int := if miss p.1 n = 0 then 0 else (miss p.1 n * 1000 + p.2 - 1) / p.2

theorem miss_nonneg (x n : Int) : 0 ≤ miss x n := by unfold miss; omega

theorem mul_pos_lt {a b : Int} (h1 : 0 < a) (h2 : 0 < b) : 0 < a * b := Int.mul_pos h1 h2
theorem laterB_false {p q : Int × Int} {n : Int} (h : laterB p q n = false) : (miss q.1 n = 0 → miss p.1 n = 0) ∧ (miss q.1 n ≠ 0 → miss p.1 n * q.2 ≤ miss q.1 n * p.2) := by
  unfold laterB at h
  have := miss_nonneg p.1 n
  split at h
  · next hq => exact ⟨fun _ => by have := of_decide_eq_false h; omega, fun h' => absurd hq h'⟩
  · next hq => exact ⟨fun h' => absurd h' hq, fun _ => by have := of_decide_eq_false h; omega⟩
theorem laterB_mk {p q : Int × Int} {n : Int} (h1 : miss q.1 n = 0 → miss p.1 n = 0) (h2 : miss q.1 n ≠ 0 → miss p.1 n * q.2 ≤ miss q.1 n * p.2) : laterB p q n = false := by
  unfold laterB
  split
  · next hq => have := h1 hq; exact decide_eq_false (by omega)
  · next hq => have := h2 hq; exact decide_eq_false (by omega)
theorem laterB_true {p q : Int × Int} {n : Int} (h : laterB p q n = true) : (miss q.1 n = 0 → 0 < miss p.1 n) ∧ (miss q.1 n ≠ 0 → miss q.1 n * p.2 < miss p.1 n * q.2) := by
  unfold laterB at h
  split at h
  · next hq => exact ⟨fun _ => of_decide_eq_true h, fun h' => absurd hq h'⟩
  · next hq => exact ⟨fun h' => absurd h' hq, fun _ => of_decide_eq_true h⟩
theorem laterB_self (p : Int × Int) (n : Int) : laterB p p n = false := laterB_mk (fun h => h) (fun _ => Int.le_refl _)

theorem later_num {m k l u v t : Int} (hm : 0 ≤ m) (hk : 0 < k) (hl : 0 ≤ l) (h1 : m * u ≤ k * v) (h2 : k * t < l * u) : m * t ≤ l * v := by
  rcases Int.lt_or_le (l * v) (m * t) with h | h
  · have a := Int.mul_lt_mul_of_pos_left h hk
    have b := Int.mul_le_mul_of_nonneg_left h1 hl
    have c := Int.mul_le_mul_of_nonneg_left (Int.le_of_lt h2) hm
    have e1 : k * (m * t) = m * (k * t) := by ac_rfl
    have e2 : m * (l * u) = l * (m * u) := by ac_rfl
    have e3 : l * (k * v) = k * (l * v) := by ac_rfl
    omega
  · exact h
/-- What is no later than x is no later than what is later than x. -/
theorem later_step {x y z : Int × Int} {n : Int} (hy : 0 ≤ y.2) (hz : 0 ≤ z.2) (h1 : laterB y x n = false) (h2 : laterB z x n = true) : laterB y z n = false := by
  obtain ⟨a1, a2⟩ := laterB_false h1
  obtain ⟨b1, b2⟩ := laterB_true h2
  have my := miss_nonneg y.1 n
  have mz := miss_nonneg z.1 n
  have mx := miss_nonneg x.1 n
  by_cases h0 : miss x.1 n = 0
  · have hm := a1 h0
    refine laterB_mk (fun _ => hm) (fun _ => ?_)
    rw [hm, Int.zero_mul]
    exact Int.mul_nonneg mz hy
  · have p1 := a2 h0
    have p2 := b2 h0
    refine laterB_mk (fun hzz => ?_) (fun _ => later_num my (by omega) mz p1 p2)
    rw [hzz, Int.zero_mul] at p2
    have := Int.mul_nonneg mx hz
    omega
theorem lastOf_mem (n : Int) (r : List (Int × Int)) : ∀ x, lastOf n x r = x ∨ lastOf n x r ∈ r := by
  induction r with
  | nil => intro x; exact .inl rfl
  | cons y r ih =>
    intro x
    show lastOf n (if laterB y x n = true then y else x) r = x ∨ lastOf n (if laterB y x n = true then y else x) r ∈ y :: r
    rcases ih (if laterB y x n = true then y else x) with h | h
    · rw [h]
      split
      · exact .inr (List.mem_cons_self ..)
      · exact .inl rfl
    · exact .inr (List.mem_cons_of_mem _ h)
theorem lastC_mem (n : Int) (ls : List (Int × Int)) (h : 1 ≤ ls.length) : lastC n ls ∈ ls := by
  cases ls with
  | nil => simp at h
  | cons p r =>
    show lastOf n p r ∈ p :: r
    rcases lastOf_mem n r p with h | h
    · rw [h]; exact List.mem_cons_self ..
    · exact List.mem_cons_of_mem _ h
theorem lastOf_max (n : Int) (r : List (Int × Int)) : ∀ x, (∀ p, p ∈ x :: r → 0 ≤ p.2) → ∀ y, (0 ≤ y.2 ∧ laterB y x n = false) ∨ y ∈ r → laterB y (lastOf n x r) n = false := by
  induction r with
  | nil =>
    intro x _ y hy
    rcases hy with hy | hy
    · exact hy.2
    · cases hy
  | cons z r ih =>
    intro x hpos y hy
    show laterB y (lastOf n (if laterB z x n = true then z else x) r) n = false
    have hz := hpos z (List.mem_cons_of_mem _ (List.mem_cons_self ..))
    by_cases h : laterB z x n = true
    · rw [if_pos h]
      refine ih z (fun p hp => hpos p (List.mem_cons_of_mem _ hp)) y ?_
      rcases hy with hy | hy
      · exact .inl ⟨hy.1, later_step hy.1 hz hy.2 h⟩
      · rcases List.mem_cons.1 hy with rfl | hy
        · exact .inl ⟨hz, laterB_self _ _⟩
        · exact .inr hy
    · rw [if_neg h]
      have h' : laterB z x n = false := by simpa using h
      refine ih x (fun p hp => hpos p (by rcases List.mem_cons.1 hp with rfl | hp; exact List.mem_cons_self ..; exact List.mem_cons_of_mem _ (List.mem_cons_of_mem _ hp))) y ?_
      rcases hy with hy | hy
      · exact .inl hy
      · rcases List.mem_cons.1 hy with rfl | hy
        · exact .inl ⟨hz, h'⟩
        · exact .inr hy
theorem lastC_max (n : Int) (ls : List (Int × Int)) (hp : ∀ p, p ∈ ls → 0 ≤ p.2) (y : Int × Int) (hy : y ∈ ls) : laterB y (lastC n ls) n = false := by
  cases ls with
  | nil => cases hy
  | cons p r =>
    refine lastOf_max n r p hp y ?_
    rcases List.mem_cons.1 hy with rfl | hy
    · exact .inl ⟨hp _ (List.mem_cons_self ..), laterB_self _ _⟩
    · exact .inr hy

/-- A number of ticks, rounded up. -/
theorem ceil_le {m r t : Int} (hr : 0 < r) : (m * 1000 + r - 1) / r ≤ t ↔ m * 1000 ≤ r * t := by
  have h1 := Int.mul_ediv_self_le (x := m * 1000 + r - 1) (k := r) (by omega)
  have h2 := Int.lt_mul_ediv_self_add (x := m * 1000 + r - 1) (k := r) hr
  generalize (m * 1000 + r - 1) / r = q at *
  constructor
  · intro h
    have := Int.mul_le_mul_of_nonneg_left h (Int.le_of_lt hr)
    omega
  · intro h
    rcases Int.lt_or_le t q with h' | h'
    · have := Int.mul_le_mul_of_nonneg_left (show t + 1 ≤ q by omega) (Int.le_of_lt hr)
      rw [Int.mul_add] at this
      omega
    · exact h'
/-- A line has n bytes at tick t. -/
theorem line_has {t x y n : Int} : n ≤ lineAt t x y ↔ 1000 * (n - x) ≤ y * t := by
  unfold lineAt
  omega
theorem miss_pos {x n : Int} (h : miss x n ≠ 0) : miss x n = n - x ∧ 0 < n - x := by unfold miss at *; omega
theorem miss_zero {x n : Int} (h : miss x n = 0) : n ≤ x := by unfold miss at h; omega

/-- At the tick at which the last line has n bytes, the curve has. -/
theorem has_at (ls : List (Int × Int)) (n : Int) (h : okCurve ls) (hn : miss (lastC n ls).1 n = 0 ∨ 0 < (lastC n ls).2) : 0 ≤ comesAt (lastC n ls) n ∧ n ≤ curveAt (comesAt (lastC n ls) n) ls := by
  have hpos : ∀ p, p ∈ ls → 0 ≤ p.2 := fun p hp => (okLine_true (h.2.2 p hp)).2.2.1
  have hmax := lastC_max n ls hpos
  generalize lastC n ls = z at *
  have hc : 0 ≤ comesAt z n := by
    unfold comesAt
    split
    · exact Int.le_refl _
    · next hz =>
      obtain ⟨e1, e2⟩ := miss_pos hz
      rcases hn with hn | hn
      · exact absurd hn hz
      · exact Int.ediv_nonneg (by omega) (by omega)
  refine ⟨hc, ?_⟩
  obtain ⟨p, hp, e⟩ := curveAt_is (comesAt z n) ls h.1
  rw [e, line_has]
  obtain ⟨a1, a2⟩ := laterB_false (hmax p hp)
  by_cases hz : miss z.1 n = 0
  · have := miss_zero (a1 hz)
    have := Int.mul_nonneg (hpos p hp) hc
    omega
  · have hr : 0 < z.2 := by
      rcases hn with hn | hn
      · exact absurd hn hz
      · exact hn
    have hcz : z.2 * comesAt z n ≥ miss z.1 n * 1000 := by
      have := (ceil_le (m := miss z.1 n) (t := comesAt z n) hr).1 (by unfold comesAt; rw [if_neg hz]; exact Int.le_refl _)
      exact this
    have hle := a2 hz
    have hmp : n - p.1 ≤ miss p.1 n := by unfold miss; omega
    have hpp := hpos p hp
    generalize comesAt z n = C at *
    generalize miss z.1 n = k at *
    generalize miss p.1 n = m at *
    -- z.2 * (p.2 * C) = p.2 * (z.2 * C) ≥ p.2 * (k * 1000) ≥ 1000 * (m * z.2)
    rcases Int.lt_or_le (p.2 * C) (1000 * (n - p.1)) with hlt | hge
    · have b1 := Int.mul_le_mul_of_nonneg_left (show k * 1000 ≤ z.2 * C from hcz) hpp
      have b2 : p.2 * (k * 1000) = 1000 * (k * p.2) := by ac_rfl
      have b3 : p.2 * (z.2 * C) = z.2 * (p.2 * C) := by ac_rfl
      have b4 : m * z.2 = z.2 * m := Int.mul_comm _ _
      have b5 := Int.mul_lt_mul_of_pos_left (show p.2 * C < 1000 * m by omega) hr
      have b6 : z.2 * (1000 * m) = 1000 * (z.2 * m) := by ac_rfl
      omega
    · exact hge

/-- The byte at which the delay turns: the last line to have it is no faster than the link. -/
def turns (per : Int) (ls : List (Int × Int)) (n : Int) : Bool := decide (0 < miss (lastC n ls).1 n ∧ (lastC n ls).2 * per ≤ 1000)

/-- Bytes ahead of the turn wait no longer than the one just ahead of it. -/
theorem wait_ahead {per t n k : Int} {ls : List (Int × Int)} (h : okCurve ls) (hper : 1 ≤ per) (t0 : 0 ≤ t) (hk : turns per ls k = false) (hn : n ≤ k) (hc : n ≤ curveAt t ls) :
    (miss (lastC k ls).1 k = 0 ∨ 0 < (lastC k ls).2) ∧ per * n - t ≤ per * k - comesAt (lastC k ls) k := by
  have hm := lastC_mem k ls h.1
  have hok := okLine_true (h.2.2 _ hm)
  have hl := Int.le_trans hc (curveAt_le t ls _ hm)
  have hk' : ¬ (0 < miss (lastC k ls).1 k ∧ (lastC k ls).2 * per ≤ 1000) := of_decide_eq_false hk
  generalize lastC k ls = z at *
  have hmul := Int.mul_le_mul_of_nonneg_left hn (show 0 ≤ per by omega)
  have mn := miss_nonneg z.1 k
  by_cases hz : miss z.1 k = 0
  · refine ⟨.inl hz, ?_⟩
    unfold comesAt
    rw [if_pos hz]
    omega
  · have hfast : 1000 < z.2 * per := by
      rcases Int.lt_or_le 1000 (z.2 * per) with h | h
      · exact h
      · exact absurd ⟨by omega, h⟩ hk'
    have hr : 0 < z.2 := by
      rcases Int.lt_or_le 0 z.2 with h | h
      · exact h
      · have : z.2 = 0 := by omega
        rw [this, Int.zero_mul] at hfast
        omega
    refine ⟨.inr hr, ?_⟩
    obtain ⟨e1, e2⟩ := miss_pos hz
    have : comesAt z k ≤ t + per * (k - n) := by
      unfold comesAt
      rw [if_neg hz, ceil_le hr, e1, Int.mul_add]
      have b1 := line_has.1 hl
      have b2 := Int.mul_le_mul_of_nonneg_right (show 1000 ≤ z.2 * per by omega) (show 0 ≤ k - n by omega)
      have b3 : z.2 * per * (k - n) = z.2 * (per * (k - n)) := Int.mul_assoc _ _ _
      omega
    rw [Int.mul_sub] at this
    omega
/-- Bytes from the turn on wait no longer than it. -/
theorem wait_behind {per t n k : Int} {ls : List (Int × Int)} (h : okCurve ls) (hk : turns per ls k = true) (hn : k ≤ n) (hc : n ≤ curveAt t ls) :
    0 < (lastC k ls).2 ∧ per * n - t ≤ per * k - comesAt (lastC k ls) k := by
  have hm := lastC_mem k ls h.1
  have hok := okLine_true (h.2.2 _ hm)
  have hl := Int.le_trans hc (curveAt_le t ls _ hm)
  have hk' : 0 < miss (lastC k ls).1 k ∧ (lastC k ls).2 * per ≤ 1000 := of_decide_eq_true hk
  generalize lastC k ls = z at *
  have hz : miss z.1 k ≠ 0 := by omega
  obtain ⟨e1, e2⟩ := miss_pos hz
  have b1 := line_has.1 hl
  have hr : 0 < z.2 := by
    rcases Int.lt_or_le 0 z.2 with h | h
    · exact h
    · have : z.2 = 0 := by omega
      rw [this, Int.zero_mul] at b1
      omega
  refine ⟨hr, ?_⟩
  have : comesAt z k ≤ t - per * (n - k) := by
    unfold comesAt
    rw [if_neg hz, ceil_le hr, e1, Int.mul_sub]
    have b2 := Int.mul_le_mul_of_nonneg_right hk'.2 (show 0 ≤ n - k by omega)
    have b3 : z.2 * per * (n - k) = z.2 * (per * (n - k)) := Int.mul_assoc _ _ _
    omega
  rw [Int.mul_sub] at this
  omega
end Go.Proofs.YtcldgpbimaoliaaDoor
