/- Plain facts for CurveRises: a curve never falls, with one line more it tells no more, two ticks on it rises no faster than one tick on but for a byte. -/
import Derived.Test.YtcldgpbimaoliaaDoorPlain
namespace Go.Proofs.YtcldgpbimaoliaaDoor

theorem leastAt_le (t : Int) (l : List (Int × Int)) : ∀ m : Int, leastAt t m l ≤ m ∧ ∀ p, p ∈ l → leastAt t m l ≤ lineAt t p.1 p.2 := by
  induction l with
  | nil => intro m; exact ⟨Int.le_refl _, fun p hp => by cases hp⟩
  | cons q r ih =>
    intro m
    have := ih (min m (lineAt t q.1 q.2))
    refine ⟨?_, fun p hp => ?_⟩
    · show leastAt t (min m (lineAt t q.1 q.2)) r ≤ m
      have := this.1; omega
    · show leastAt t (min m (lineAt t q.1 q.2)) r ≤ _
      rcases List.mem_cons.1 hp with rfl | hp
      · have := this.1; omega
      · exact this.2 p hp
theorem leastAt_is (t : Int) (l : List (Int × Int)) : ∀ m : Int, leastAt t m l = m ∨ ∃ p, p ∈ l ∧ leastAt t m l = lineAt t p.1 p.2 := by
  induction l with
  | nil => intro m; exact .inl rfl
  | cons q r ih =>
    intro m
    show leastAt t (min m (lineAt t q.1 q.2)) r = m ∨ ∃ p, p ∈ q :: r ∧ leastAt t (min m (lineAt t q.1 q.2)) r = lineAt t p.1 p.2
    rcases ih (min m (lineAt t q.1 q.2)) with h | ⟨p, hp, h⟩
    · rw [h]
      by_cases hm : m ≤ lineAt t q.1 q.2
      · exact .inl (by omega)
      · exact .inr ⟨q, List.mem_cons_self .., by omega⟩
    · exact .inr ⟨p, List.mem_cons_of_mem _ hp, h⟩
theorem curveAt_le (t : Int) (ls : List (Int × Int)) (p : Int × Int) (hp : p ∈ ls) : curveAt t ls ≤ lineAt t p.1 p.2 := by
  cases ls with
  | nil => cases hp
  | cons q r =>
    have := leastAt_le t r (lineAt t q.1 q.2)
    rcases List.mem_cons.1 hp with rfl | hp
    · exact this.1
    · exact this.2 p hp
theorem curveAt_is (t : Int) (ls : List (Int × Int)) (h : 1 ≤ ls.length) : ∃ p, p ∈ ls ∧ curveAt t ls = lineAt t p.1 p.2 := by
  cases ls with
  | nil => simp at h
  | cons q r =>
    rcases leastAt_is t r (lineAt t q.1 q.2) with h | ⟨p, hp, h⟩
    · exact ⟨q, List.mem_cons_self .., h⟩
    · exact ⟨p, List.mem_cons_of_mem _ hp, h⟩
theorem curveAt_bd (t : Int) (ls : List (Int × Int)) (h : okCurve ls) (t0 : 0 ≤ t) (t1 : t ≤ 1099511627776) : 1 ≤ curveAt t ls ∧ curveAt t ls ≤ 109951162797600000 := by
  obtain ⟨p, hp, e⟩ := curveAt_is t ls h.1
  rw [e]
  exact lineAt_bd (h.2.2 p hp) t0 t1
theorem lineAt_step (t x y : Int) (hy : 0 ≤ y) : lineAt t x y ≤ lineAt (t + 1) x y := by
  unfold lineAt
  have : y * (t + 1) = y * t + y := by rw [Int.mul_add]; omega
  rw [this]
  omega
theorem lineAt_bend (t x y : Int) : lineAt (t + 2) x y + lineAt t x y ≤ 2 * lineAt (t + 1) x y + 1 := by
  unfold lineAt
  have e1 : y * (t + 1) = y * t + y := by rw [Int.mul_add]; omega
  have e2 : y * (t + 2) = y * t + y + y := by rw [Int.mul_add]; omega
  rw [e1, e2]
  omega
theorem curve_rises (t : Int) (ls : List (Int × Int)) (h : okCurve ls) : curveAt t ls ≤ curveAt (t + 1) ls := by
  obtain ⟨p, hp, e⟩ := curveAt_is (t + 1) ls h.1
  have := curveAt_le t ls p hp
  have := lineAt_step t p.1 p.2 (okLine_true (h.2.2 p hp)).2.2.1
  omega
theorem curve_bends (t : Int) (ls : List (Int × Int)) (h : okCurve ls) : curveAt (t + 2) ls - curveAt (t + 1) ls ≤ curveAt (t + 1) ls - curveAt t ls + 1 := by
  obtain ⟨p, hp, e⟩ := curveAt_is (t + 1) ls h.1
  have := curveAt_le t ls p hp
  have := curveAt_le (t + 2) ls p hp
  have := lineAt_bend t p.1 p.2
  omega
theorem curve_more (t : Int) (ls : List (Int × Int)) (p : Int × Int) (h : okCurve ls) : curveAt t (ls ++ [p]) ≤ curveAt t ls := by
  obtain ⟨q, hq, e⟩ := curveAt_is t ls h.1
  rw [e]
  exact curveAt_le t _ q (List.mem_append_left _ hq)
theorem okCurve_more (ls : List (Int × Int)) (x y : Int) (h : okCurve ls) (hn : ls.length < 6) (ho : okLine x y = true) : okCurve (ls ++ [(x, y)]) := by
  refine ⟨by simp, by simp; omega, fun p hp => ?_⟩
  rcases List.mem_append.1 hp with hp | hp
  · exact h.2.2 p hp
  · simp at hp; subst hp; exact ho
end Go.Proofs.YtcldgpbimaoliaaDoor
