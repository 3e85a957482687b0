/- Plain facts on lines and curves: no Go text is named here. A curve is a list of pairs: burst, rate. -/
import Derived.Below
namespace Go.Proofs.YtcldgpbimaoliaaDoor
open Go.RowKit

/-- A line as the document bounds it. -/
def okLine (x y : Int) : Bool := decide (1 ≤ x ∧ x ≤ 20000 ∧ 0 ≤ y ∧ y ≤ 100000)
theorem okLine_true {x y : Int} (h : okLine x y = true) : 1 ≤ x ∧ x ≤ 20000 ∧ 0 ≤ y ∧ y ≤ 100000 := of_decide_eq_true h
theorem okLine_mk {x y : Int} (h : 1 ≤ x ∧ x ≤ 20000 ∧ 0 ≤ y ∧ y ≤ 100000) : okLine x y = true := decide_eq_true h
theorem okLine_not {x y : Int} (h : ¬ (1 ≤ x ∧ x ≤ 20000 ∧ 0 ≤ y ∧ y ≤ 100000)) : okLine x y = false := decide_eq_false h

/-- What one line tells at tick t. -/
def lineAt (t x y : Int) : Int := x + y * t / 1000
/-- The least of m and of what the lines of a list tell at tick t. -/
def leastAt (t : Int) : Int → List (Int × Int) → Int
  | m, [] => m
  | m, p :: r => leastAt t (min m (lineAt t p.1 p.2)) r
/-- What a curve tells at tick t. -/
def curveAt (t : Int) : List (Int × Int) → Int
  | [] => 0
  | p :: r => leastAt t (lineAt t p.1 p.2) r
def okAll (ls : List (Int × Int)) : Prop := ∀ p, p ∈ ls → okLine p.1 p.2 = true
def okCurve (ls : List (Int × Int)) : Prop := 1 ≤ ls.length ∧ ls.length ≤ 6 ∧ okAll ls

theorem leastAt_snoc (t : Int) (l : List (Int × Int)) : ∀ (m : Int) (p : Int × Int), leastAt t m (l ++ [p]) = min (leastAt t m l) (lineAt t p.1 p.2) := by
  induction l with
  | nil => intro m p; rfl
  | cons q r ih => intro m p; exact ih _ p

theorem min_if (a b : Int) : (if b < a then b else a) = min a b := by split <;> omega
theorem max_if (a b : Int) : (if a < b then b else a) = max a b := by split <;> omega
theorem mul_bd {y t : Int} (h0 : 0 ≤ y) (h1 : y ≤ 100000) (t0 : 0 ≤ t) (t1 : t ≤ 1099511627776) : 0 ≤ y * t ∧ y * t ≤ 109951162777600000 := by
  refine ⟨Int.mul_nonneg h0 t0, ?_⟩
  have a : y * t ≤ 100000 * t := Int.mul_le_mul_of_nonneg_right h1 t0
  omega

theorem lineAt_bd {t x y : Int} (h : okLine x y = true) (t0 : 0 ≤ t) (t1 : t ≤ 1099511627776) : 1 ≤ lineAt t x y ∧ lineAt t x y ≤ 109951162797600000 := by
  obtain ⟨a, b, c, d⟩ := okLine_true h
  have := mul_bd c d t0 t1
  unfold lineAt
  omega

theorem leastAt_bd (t : Int) (t0 : 0 ≤ t) (t1 : t ≤ 1099511627776) (l : List (Int × Int)) : ∀ m : Int, 1 ≤ m → m ≤ 109951162797600000 → okAll l → 1 ≤ leastAt t m l ∧ leastAt t m l ≤ 109951162797600000 ∧ leastAt t m l ≤ m := by
  induction l with
  | nil => intro m h1 h2 _; exact ⟨h1, h2, Int.le_refl _⟩
  | cons q r ih =>
    intro m h1 h2 hok
    have hb := lineAt_bd (hok q (List.mem_cons_self ..)) t0 t1
    have := ih (min m (lineAt t q.1 q.2)) (by omega) (by omega) (fun p hp => hok p (List.mem_cons_of_mem _ hp))
    exact ⟨this.1, this.2.1, by show leastAt t (min m (lineAt t q.1 q.2)) r ≤ m; have := this.2.2; omega⟩

end Go.Proofs.YtcldgpbimaoliaaDoor
