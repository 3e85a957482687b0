/- Own facts, put together: no statement of its own. -/
import Derived.Below

/- Plain facts on lines and curves: no Go text is named here. A curve is a list of pairs: burst, rate. -/
namespace Go.Proofs.YtolbmkniafkeaaaDoor
open Go.RowKit

/-- A line as the document bounds it. -/
def okLine (x y : Int) : Bool := decide (1 ≤ x ∧ x ≤ 20000 ∧ 0 ≤ y ∧ y ≤ 100000)
theorem okLine_true {x y : Int} (h : okLine x y = true) : 1 ≤ x ∧ x ≤ 20000 ∧ 0 ≤ y ∧ y ≤ 100000 := of_decide_eq_true h
theorem okLine_mk {x y : Int} (h : 1 ≤ x ∧ x ≤ 20000 ∧ 0 ≤ y ∧ y ≤ 100000) : okLine x y = true := decide_eq_true h
theorem okLine_not {x y : Int} (h : ¬ (1 ≤ x ∧ x ≤ 20000 ∧ 0 ≤ y ∧ y ≤ 100000)) : okLine x y = false := decide_eq_false h

/-- What one line tells at tick t. -/
def lineAt (t x y : Int) : Int := x + y * t / 1000
/-- The least of m and of what the lines of a list tell at tick t. -/
def leastAt (t : Int) : Int → List (Int × Int) → Int
  | m, [] => m
  | m, p :: r => leastAt t (min m (lineAt t p.1 p.2)) r
/-- What a curve tells at tick t. -/
def curveAt (t : Int) : List (Int × Int) → Int
  | [] => 0
  | p :: r => leastAt t (lineAt t p.1 p.2) r
def okAll (ls : List (Int × Int)) : Prop := ∀ p, p ∈ ls → okLine p.1 p.2 = true
def okCurve (ls : List (Int × Int)) : Prop := 1 ≤ ls.length ∧ ls.length ≤ 6 ∧ okAll ls

theorem leastAt_snoc (t : Int) (l : List (Int × Int)) : ∀ (m : Int) (p : Int × Int), leastAt t m (l ++ [p]) = min (leastAt t m l) (lineAt t p.1 p.2) := by
  induction l with
  | nil => intro m p; rfl
  | cons q r ih => intro m p; exact ih _ p

theorem min_if (a b : Int) : (if b < a then b else a) = min a b := by split <;> omega
theorem max_if (a b : Int) : (if a < b then b else a) = max a b := by split <;> omega
theorem mul_bd {y t : Int} (h0 : 0 ≤ y) (h1 : y ≤ 100000) (t0 : 0 ≤ t) (t1 : t ≤ 1099511627776) : 0 ≤ y * t ∧ y * t ≤ 109951162777600000 := by
  refine ⟨Int.mul_nonneg h0 t0, ?_⟩
  have a : y * t ≤ 100000 * t := Int.mul_le_mul_of_nonneg_right h1 t0
  omega

theorem lineAt_bd {t x y : Int} (h : okLine x y = true) (t0 : 0 ≤ t) (t1 : t ≤ 1099511627776) : 1 ≤ lineAt t x y ∧ lineAt t x y ≤ 109951162797600000 := by
  obtain ⟨a, b, c, d⟩ := okLine_true h
  have := mul_bd c d t0 t1
  unfold lineAt
  omega

theorem leastAt_bd (t : Int) (t0 : 0 ≤ t) (t1 : t ≤ 1099511627776) (l : List (Int × Int)) : ∀ m : Int, 1 ≤ m → m ≤ 109951162797600000 → okAll l → 1 ≤ leastAt t m l ∧ leastAt t m l ≤ 109951162797600000 ∧ leastAt t m l ≤ m := by
  induction l with
  | nil => intro m h1 h2 _; exact ⟨h1, h2, Int.le_refl _⟩
  | cons q r ih =>
    intro m h1 h2 hok
    have hb := lineAt_bd (hok q (List.mem_cons_self ..)) t0 t1
    have := ih (min m (lineAt t q.1 q.2)) (by omega) (by omega) (fun p hp => hok p (List.mem_cons_of_mem _ hp))
    exact ⟨this.1, this.2.1, by show leastAt t (min m (lineAt t q.1 q.2)) r ≤ m; have := this.2.2; omega⟩

end Go.Proofs.YtolbmkniafkeaaaDoor

/- Plain facts for CurveRises: a curve never falls, with one line more it tells no more, two ticks on it rises no faster than one tick on but for a byte. -/
namespace Go.Proofs.YtolbmkniafkeaaaDoor

theorem leastAt_le (t : Int) (l : List (Int × Int)) : ∀ m : Int, leastAt t m l ≤ m ∧ ∀ p, p ∈ l → leastAt t m l ≤ lineAt t p.1 p.2 := by
  induction l with
  | nil => intro m; exact ⟨Int.le_refl _, fun p hp => by cases hp⟩
  | cons q r ih =>
    intro m
    have := ih (min m (lineAt t q.1 q.2))
    refine ⟨?_, fun p hp => ?_⟩
    · show leastAt t (min m (lineAt t q.1 q.2)) r ≤ m
      have := this.1; omega
    · show leastAt t (min m (lineAt t q.1 q.2)) r ≤ _
      rcases List.mem_cons.1 hp with rfl | hp
      · have := this.1; omega
      · exact this.2 p hp
theorem leastAt_is (t : Int) (l : List (Int × Int)) : ∀ m : Int, leastAt t m l = m ∨ ∃ p, p ∈ l ∧ leastAt t m l = lineAt t p.1 p.2 := by
  induction l with
  | nil => intro m; exact .inl rfl
  | cons q r ih =>
    intro m
    show leastAt t (min m (lineAt t q.1 q.2)) r = m ∨ ∃ p, p ∈ q :: r ∧ leastAt t (min m (lineAt t q.1 q.2)) r = lineAt t p.1 p.2
    rcases ih (min m (lineAt t q.1 q.2)) with h | ⟨p, hp, h⟩
    · rw [h]
      by_cases hm : m ≤ lineAt t q.1 q.2
      · exact .inl (by omega)
      · exact .inr ⟨q, List.mem_cons_self .., by omega⟩
    · exact .inr ⟨p, List.mem_cons_of_mem _ hp, h⟩
theorem curveAt_le (t : Int) (ls : List (Int × Int)) (p : Int × Int) (hp : p ∈ ls) : curveAt t ls ≤ lineAt t p.1 p.2 := by
  cases ls with
  | nil => cases hp
  | cons q r =>
    have := leastAt_le t r (lineAt t q.1 q.2)
    rcases List.mem_cons.1 hp with rfl | hp
    · exact this.1
    · exact this.2 p hp
theorem curveAt_is (t : Int) (ls : List (Int × Int)) (h : 1 ≤ ls.length) : ∃ p, p ∈ ls ∧ curveAt t ls = lineAt t p.1 p.2 := by
  cases ls with
  | nil => simp at h
  | cons q r =>
    rcases leastAt_is t r (lineAt t q.1 q.2) with h | ⟨p, hp, h⟩
    · exact ⟨q, List.mem_cons_self .., h⟩
    · exact ⟨p, List.mem_cons_of_mem _ hp, h⟩
theorem curveAt_bd (t : Int) (ls : List (Int × Int)) (h : okCurve ls) (t0 : 0 ≤ t) (t1 : t ≤ 1099511627776) : 1 ≤ curveAt t ls ∧ curveAt t ls ≤ 109951162797600000 := by
  obtain ⟨p, hp, e⟩ := curveAt_is t ls h.1
  rw [e]
  exact lineAt_bd (h.2.2 p hp) t0 t1
theorem lineAt_step (t x y : Int) (hy : 0 ≤ y) : lineAt t x y ≤ lineAt (t + 1) x y := by
  unfold lineAt
  have : y * (t + 1) = y * t + y := by rw [Int.mul_add]; omega
  rw [this]
  omega
theorem lineAt_bend (t x y : Int) : lineAt (t + 2) x y + lineAt t x y ≤ 2 * lineAt (t + 1) x y + 1 := by
  unfold lineAt
  have e1 : y * (t + 1) = y * t + y := by rw [Int.mul_add]; omega
  have e2 : y * (t + 2) = y * t + y + y := by rw [Int.mul_add]; omega
  rw [e1, e2]
  omega
theorem curve_rises (t : Int) (ls : List (Int × Int)) (h : okCurve ls) : curveAt t ls ≤ curveAt (t + 1) ls := by
  obtain ⟨p, hp, e⟩ := curveAt_is (t + 1) ls h.1
  have := curveAt_le t ls p hp
  have := lineAt_step t p.1 p.2 (okLine_true (h.2.2 p hp)).2.2.1
  omega
theorem curve_bends (t : Int) (ls : List (Int × Int)) (h : okCurve ls) : curveAt (t + 2) ls - curveAt (t + 1) ls ≤ curveAt (t + 1) ls - curveAt t ls + 1 := by
  obtain ⟨p, hp, e⟩ := curveAt_is (t + 1) ls h.1
  have := curveAt_le t ls p hp
  have := curveAt_le (t + 2) ls p hp
  have := lineAt_bend t p.1 p.2
  omega
theorem curve_more (t : Int) (ls : List (Int × Int)) (p : Int × Int) (h : okCurve ls) : curveAt t (ls ++ [p]) ≤ curveAt t ls := by
  obtain ⟨q, hq, e⟩ := curveAt_is t ls h.1
  rw [e]
  exact curveAt_le t _ q (List.mem_append_left _ hq)
theorem okCurve_more (ls : List (Int × Int)) (x y : Int) (h : okCurve ls) (hn : ls.length < 6) (ho : okLine x y = true) : okCurve (ls ++ [(x, y)]) := by
  refine ⟨by simp, by simp; omega, fun p hp => ?_⟩
  rcases List.mem_append.1 hp with hp | hp
  · exact h.2.2 p hp
  · simp at hp; subst hp; exact ho
end Go.Proofs.YtolbmkniafkeaaaDoor

/- Plain facts on buckets: no Go text is named here. A bucket counts in thousandths: what it has at most, what it gets in a tick, what it has at its last tick. -/
namespace Go.Proofs.YtolbmkniafkeaaaDoor

structure Bk where
  most : Int
  rate : Int
  has : Int
  last : Int

structure Bk.Ok (b : Bk) : Prop where
  m0 : 1000 ≤ b.most
  m1 : b.most ≤ 20000000
  r0 : 0 ≤ b.rate
  r1 : b.rate ≤ 100000
  h0 : 0 ≤ b.has
  h1 : b.has ≤ b.most
  l0 : 0 ≤ b.last
  l1 : b.last ≤ 1099511627776

/-- What it has at a tick. -/
def Bk.lev (b : Bk) (t : Int) : Int := min b.most (b.has + b.rate * (t - b.last))
/-- The bucket behind an asking at tick t for n bytes. -/
def Bk.take (b : Bk) (t n : Int) : Bk := if n * 1000 ≤ b.lev t then ⟨b.most, b.rate, b.lev t - n * 1000, t⟩ else ⟨b.most, b.rate, b.lev t, t⟩
/-- The first tick from t on at which it has n bytes. -/
def Bk.when (b : Bk) (t n : Int) : Option Int :=
  if n * 1000 ≤ b.lev t then some t
  else if b.most < n * 1000 ∨ b.rate = 0 then none
  else if 1099511627776 - t < (n * 1000 - b.lev t + b.rate - 1) / b.rate then none
  else some (t + (n * 1000 - b.lev t + b.rate - 1) / b.rate)
/-- What is asked amiss: an error's number. -/
def tickErr (last t : Int) : Nat := if 0 ≤ t ∧ t ≤ 1099511627776 then (if t < last then 5 else 0) else 2
def askErr (last t n : Int) : Nat := if 1 ≤ n ∧ n ≤ 1500 then tickErr last t else 2
theorem tickErr_ok {last t : Int} : tickErr last t = 0 ↔ 0 ≤ t ∧ t ≤ 1099511627776 ∧ last ≤ t := by unfold tickErr; split <;> (try split) <;> simp <;> omega
theorem askErr_ok {last t n : Int} : askErr last t n = 0 ↔ 1 ≤ n ∧ n ≤ 1500 ∧ 0 ≤ t ∧ t ≤ 1099511627776 ∧ last ≤ t := by unfold askErr; split <;> simp [tickErr_ok] <;> omega
/-- The bucket of a line. -/
def bkOf (p : Int × Int) : Bk := ⟨p.1 * 1000, p.2, p.1 * 1000, 0⟩

theorem bkOf_ok {p : Int × Int} (h : okLine p.1 p.2 = true) : (bkOf p).Ok := by
  obtain ⟨a, b, c, d⟩ := okLine_true h
  constructor <;> simp [bkOf] <;> omega

theorem mul_split (r a b c : Int) : r * (a - c) = r * (b - c) + r * (a - b) := by
  simp only [Int.mul_sub]; omega
theorem Bk.Ok.grow {b : Bk} (h : b.Ok) {t : Int} (ht : b.last ≤ t) (t1 : t ≤ 1099511627776) : 0 ≤ b.rate * (t - b.last) ∧ b.rate * (t - b.last) ≤ 109951162777600000 :=
  mul_bd h.r0 h.r1 (by omega) (by have := h.l0; omega)
theorem Bk.Ok.lev_bd {b : Bk} (h : b.Ok) {t : Int} (ht : b.last ≤ t) : 0 ≤ b.lev t ∧ b.lev t ≤ b.most := by
  have := Int.mul_nonneg h.r0 (show 0 ≤ t - b.last by omega)
  have := h.h0; have := h.h1; have := h.m0
  unfold Bk.lev; omega
theorem Bk.lev_mono {b : Bk} (h : 0 ≤ b.rate) {s t : Int} (hs : s ≤ t) : b.lev s ≤ b.lev t := by
  have := mul_split b.rate t s b.last
  have := Int.mul_nonneg h (show 0 ≤ t - s by omega)
  unfold Bk.lev; omega
theorem Bk.Ok.take {b : Bk} (h : b.Ok) {t n : Int} (ht : b.last ≤ t) (t1 : t ≤ 1099511627776) (hn : 0 ≤ n) : (b.take t n).Ok := by
  have := h.lev_bd ht
  have := h.l0
  unfold Bk.take
  split <;> exact ⟨h.m0, h.m1, h.r0, h.r1, by simp; omega, by simp; omega, by simp; omega, by simp; omega⟩
theorem Bk.take_last (b : Bk) (t n : Int) : (b.take t n).last = t := by unfold Bk.take; split <;> rfl
theorem Bk.take_most (b : Bk) (t n : Int) : (b.take t n).most = b.most := by unfold Bk.take; split <;> rfl
theorem Bk.take_rate (b : Bk) (t n : Int) : (b.take t n).rate = b.rate := by unfold Bk.take; split <;> rfl

/-- Division up. -/
theorem div_up {r x : Int} (hr : 0 < r) : x ≤ r * ((x + r - 1) / r) ∧ r * ((x + r - 1) / r) < x + r := by
  have h1 := Int.mul_ediv_add_emod (x + r - 1) r
  have h2 := Int.emod_nonneg (x + r - 1) (show r ≠ 0 by omega)
  have h3 := Int.emod_lt_of_pos (x + r - 1) hr
  omega

theorem Bk.when_some {b : Bk} (h : b.Ok) {t n T : Int} (t1 : t ≤ 1099511627776) (e : b.when t n = some T) :
    t ≤ T ∧ T ≤ 1099511627776 ∧ n * 1000 ≤ b.lev T ∧ ∀ s, t ≤ s → s < T → b.lev s < n * 1000 := by
  unfold Bk.when at e
  split at e
  · rename_i h1
    cases e
    exact ⟨Int.le_refl _, t1, h1, fun s h2 h3 => by omega⟩
  · rename_i h1
    split at e
    · cases e
    · rename_i h2
      split at e
      · cases e
      · rename_i h3
        have hr : 0 < b.rate := by have := h.r0; omega
        have hd := div_up (r := b.rate) (x := n * 1000 - b.lev t) hr
        have hm : ¬ b.most < n * 1000 := fun h => h2 (.inl h)
        generalize hk : (n * 1000 - b.lev t + b.rate - 1) / b.rate = k at e h3 hd
        cases e
        have hk0 : 0 < k := by
          by_cases h0 : 0 < k
          · exact h0
          · have := Int.mul_le_mul_of_nonneg_left (show k ≤ 0 by omega) h.r0
            simp at this; omega
        have hlt : b.lev t = b.has + b.rate * (t - b.last) := by unfold Bk.lev at h1 ⊢; omega
        have hT := mul_split b.rate (t + k) t b.last
        rw [show t + k - t = k by omega] at hT
        refine ⟨by omega, by omega, ?_, fun s h4 h5 => ?_⟩
        · unfold Bk.lev; omega
        · have hS := mul_split b.rate s t b.last
          have h6 : b.rate * (s - t) ≤ b.rate * (k - 1) := Int.mul_le_mul_of_nonneg_left (by omega) h.r0
          have h7 : b.rate * (k - 1) = b.rate * k - b.rate := by simp [Int.mul_sub]
          unfold Bk.lev; omega
theorem Bk.when_none {b : Bk} (h : b.Ok) {t n : Int} (e : b.when t n = none) :
    ∀ s, t ≤ s → s ≤ 1099511627776 → b.lev s < n * 1000 := by
  intro s hs s1
  unfold Bk.when at e
  split at e
  · cases e
  · rename_i h1
    split at e
    · rename_i h2
      rcases h2 with h2 | h2
      · unfold Bk.lev; omega
      · have := h.h1
        unfold Bk.lev at h1 ⊢; rw [h2] at h1 ⊢; omega
    · rename_i h2
      split at e
      · rename_i h3
        have hr : 0 < b.rate := by have := h.r0; omega
        have hd := div_up (r := b.rate) (x := n * 1000 - b.lev t) hr
        have hm : ¬ b.most < n * 1000 := fun h => h2 (.inl h)
        generalize hk : (n * 1000 - b.lev t + b.rate - 1) / b.rate = k at e h3 hd
        have hlt : b.lev t = b.has + b.rate * (t - b.last) := by unfold Bk.lev at h1 ⊢; omega
        have hS := mul_split b.rate s t b.last
        have h6 : b.rate * (s - t) ≤ b.rate * (k - 1) := Int.mul_le_mul_of_nonneg_left (by omega) h.r0
        have h7 : b.rate * (k - 1) = b.rate * k - b.rate := by simp [Int.mul_sub]
        unfold Bk.lev; omega
      · cases e
end Go.Proofs.YtolbmkniafkeaaaDoor

/- Plain facts on packets: what fits a curve, and what a bucket passes. No Go text is named here. -/
namespace Go.Proofs.YtolbmkniafkeaaaDoor

structure Pk where
  flow : Int
  size : Int
  tick : Int

def okPk (p : Pk) : Bool := decide (0 ≤ p.flow ∧ p.flow < 8 ∧ 1 ≤ p.size ∧ p.size ≤ 1500 ∧ 0 ≤ p.tick ∧ p.tick ≤ 1099511627776)
theorem okPk_true {p : Pk} (h : okPk p = true) : 0 ≤ p.flow ∧ p.flow < 8 ∧ 1 ≤ p.size ∧ p.size ≤ 1500 ∧ 0 ≤ p.tick ∧ p.tick ≤ 1099511627776 := of_decide_eq_true h
theorem okPk_mk {p : Pk} (h : 0 ≤ p.flow ∧ p.flow < 8 ∧ 1 ≤ p.size ∧ p.size ≤ 1500 ∧ 0 ≤ p.tick ∧ p.tick ≤ 1099511627776) : okPk p = true := decide_eq_true h
/-- The tick of the packet ahead. -/
def ahead (ps : List Pk) : Nat → Int
  | 0 => 0
  | i + 1 => match ps[i]? with | some p => p.tick | none => 0
/-- Right packets. -/
structure OkPks (ps : List Pk) : Prop where
  few : ps.length ≤ 300
  each : ∀ i p, ps[i]? = some p → okPk p = true ∧ ahead ps i ≤ p.tick

theorem okPks_none : OkPks [] := ⟨by simp, fun i p h => by simp at h⟩

/-- Bytes of packets. -/
def total : List Pk → Int
  | [] => 0
  | p :: r => p.size + total r
theorem total_snoc (ps : List Pk) (p : Pk) : total (ps ++ [p]) = total ps + p.size := by
  induction ps with
  | nil => simp [total]
  | cons q r ih => simp [total, ih]; omega
/-- Of each end of a list of packets: its first tick, its bytes. -/
def ends : List Pk → List (Int × Int)
  | [] => []
  | p :: r => (p.tick, total (p :: r)) :: ends r
theorem ends_snoc (ps : List Pk) (p : Pk) (a s : Int) : (a, s) ∈ ends (ps ++ [p]) ↔ (a, s - p.size) ∈ ends ps ∨ (a = p.tick ∧ s = p.size) := by
  induction ps with
  | nil => simp [ends, total]
  | cons q r ih =>
    show (a, s) ∈ (q.tick, total (q :: (r ++ [p]))) :: ends (r ++ [p]) ↔ (a, s - p.size) ∈ (q.tick, total (q :: r)) :: ends r ∨ _
    have ht : total (q :: (r ++ [p])) = total (q :: r) + p.size := total_snoc (q :: r) p
    simp only [List.mem_cons, Prod.mk.injEq, ht, ih]
    constructor
    · rintro (⟨h1, h2⟩ | h | h)
      · exact .inl (.inl ⟨h1, by omega⟩)
      · exact .inl (.inr h)
      · exact .inr h
    · rintro ((⟨h1, h2⟩ | h) | h)
      · exact .inl ⟨h1, by omega⟩
      · exact .inr (.inl h)
      · exact .inr (.inr h)
/-- Does the last packet fit behind those ahead? -/
def lastFits (ls : List (Int × Int)) (ps : List Pk) (p : Pk) : Prop := ∀ a s, (a, s) ∈ ends (ps ++ [p]) → s ≤ curveAt (p.tick - a) ls

/-- What a run from a tick on, with so many bytes behind it, asks of a curve. -/
def startB (ls : List (Int × Int)) (a c : Int) : List Pk → Bool
  | [] => true
  | p :: r => decide (c + p.size ≤ curveAt (p.tick - a) ls) && startB ls a (c + p.size) r
def fitsB (ls : List (Int × Int)) : List Pk → Bool
  | [] => true
  | p :: r => startB ls p.tick 0 (p :: r) && fitsB ls r
theorem startB_snoc (ls : List (Int × Int)) (a : Int) (ps : List Pk) (p : Pk) : ∀ c, startB ls a c (ps ++ [p]) = true ↔ startB ls a c ps = true ∧ c + total (ps ++ [p]) ≤ curveAt (p.tick - a) ls := by
  induction ps with
  | nil => intro c; simp [startB, total]
  | cons q r ih =>
    intro c
    have ht : total (q :: r ++ [p]) = q.size + total (r ++ [p]) := rfl
    simp only [List.cons_append, startB, Bool.and_eq_true, ih] at *
    rw [ht, Int.add_assoc, and_assoc]
theorem fitsB_snoc (ls : List (Int × Int)) (ps : List Pk) (p : Pk) : fitsB ls (ps ++ [p]) = true ↔ fitsB ls ps = true ∧ lastFits ls ps p := by
  induction ps with
  | nil => simp [fitsB, startB, lastFits, ends, total]
  | cons q r ih =>
    have h1 := startB_snoc ls q.tick (q :: r) p 0
    simp only [List.cons_append] at h1
    simp only [List.cons_append, fitsB, Bool.and_eq_true, h1, ih]
    have h2 : lastFits ls (q :: r) p ↔ 0 + total (q :: (r ++ [p])) ≤ curveAt (p.tick - q.tick) ls ∧ lastFits ls r p := by
      show (∀ a s, (a, s) ∈ (q.tick, total (q :: (r ++ [p]))) :: ends (r ++ [p]) → _) ↔ _
      simp only [List.mem_cons, Prod.mk.injEq, Int.zero_add]
      constructor
      · intro h
        exact ⟨h _ _ (.inl ⟨rfl, rfl⟩), fun a s hm => h a s (.inr hm)⟩
      · rintro ⟨h, h'⟩ a s (⟨rfl, rfl⟩ | hm)
        · exact h
        · exact h' a s hm
    rw [h2]
    exact ⟨fun ⟨⟨a, b⟩, c, d⟩ => ⟨⟨a, c⟩, b, d⟩, fun ⟨⟨a, c⟩, b, d⟩ => ⟨⟨a, b⟩, c, d⟩⟩

theorem le_curveAt (t s : Int) (ls : List (Int × Int)) (h : 1 ≤ ls.length) : s ≤ curveAt t ls ↔ ∀ p, p ∈ ls → s ≤ lineAt t p.1 p.2 := by
  constructor
  · intro hs p hp
    have := curveAt_le t ls p hp
    omega
  · intro hs
    obtain ⟨p, hp, e⟩ := curveAt_is t ls h
    rw [e]
    exact hs p hp
theorem lastFits_lines (ls : List (Int × Int)) (h : 1 ≤ ls.length) (ps : List Pk) (p : Pk) : lastFits ls ps p ↔ ∀ q, q ∈ ls → lastFits [q] ps p := by
  have h1 : ∀ q : Int × Int, ∀ t s, s ≤ curveAt t [q] ↔ s ≤ lineAt t q.1 q.2 := fun q t s => by simp [curveAt, leastAt]
  simp only [lastFits, le_curveAt _ _ ls h, h1]
  exact ⟨fun H q hq a s hm => H a s hm q hq, fun H a s hm q hq => H q hq a s hm⟩

/-- What a bucket of a line has, when so many packets have passed it. -/
structure Passed (q : Int × Int) (ps : List Pk) (b : Bk) : Prop where
  most : b.most = q.1 * 1000
  rate : b.rate = q.2
  lev : ∀ t v, b.last ≤ t → (v ≤ b.lev t ↔ v ≤ q.1 * 1000 ∧ ∀ a s, (a, s) ∈ ends ps → v + s * 1000 ≤ q.1 * 1000 + q.2 * (t - a))
theorem passed_none (q : Int × Int) (h : 0 ≤ q.2) : Passed q [] (bkOf q) := by
  refine ⟨rfl, rfl, fun t v ht => ?_⟩
  have := Int.mul_nonneg h (show 0 ≤ t - 0 by simpa [bkOf] using ht)
  simp only [Bk.lev, bkOf, ends] at *
  constructor
  · intro hv; exact ⟨by omega, fun a s hm => by cases hm⟩
  · intro hv; omega
theorem Passed.fits {q : Int × Int} {ps : List Pk} {b : Bk} (h : Passed q ps b) (p : Pk) (hp : b.last ≤ p.tick) : p.size * 1000 ≤ b.lev p.tick ↔ lastFits [q] ps p := by
  rw [h.lev _ _ hp]
  have h1 : ∀ t s, s ≤ curveAt t [q] ↔ s * 1000 ≤ q.1 * 1000 + q.2 * t := fun t s => by simp [curveAt, leastAt, lineAt]; omega
  simp only [lastFits, h1, ends_snoc]
  constructor
  · rintro ⟨h2, h3⟩ a s (hm | ⟨rfl, rfl⟩)
    · have := h3 a _ hm; omega
    · simp; omega
  · intro H
    refine ⟨by have := H p.tick p.size (.inr ⟨rfl, rfl⟩); simp at this; omega, fun a s hm => ?_⟩
    have := H a (s + p.size) (.inl (by simpa using hm))
    omega
/-- It does not pass: nothing is taken. -/
theorem Passed.wait {q : Int × Int} {ps : List Pk} {b : Bk} (h : Passed q ps b) (r0 : 0 ≤ b.rate) (t n : Int) (ht : b.last ≤ t) (hn : ¬ n * 1000 ≤ b.lev t) : Passed q ps (b.take t n) := by
  have e : b.take t n = ⟨b.most, b.rate, b.lev t, t⟩ := by unfold Bk.take; rw [if_neg hn]
  refine ⟨by rw [e]; exact h.most, by rw [e]; exact h.rate, fun s v hs => ?_⟩
  rw [e] at hs ⊢
  simp only at hs
  rw [← h.lev s v (by omega)]
  have h1 := mul_split b.rate s t b.last
  have h2 := Int.mul_nonneg r0 (show 0 ≤ s - t by omega)
  simp only [Bk.lev]
  omega
/-- It passes. -/
theorem Passed.pass {q : Int × Int} {ps : List Pk} {b : Bk} (h : Passed q ps b) (r0 : 0 ≤ b.rate) (p : Pk) (ht : b.last ≤ p.tick) (hn : p.size * 1000 ≤ b.lev p.tick) : Passed q (ps ++ [p]) (b.take p.tick p.size) := by
  have e : b.take p.tick p.size = ⟨b.most, b.rate, b.lev p.tick - p.size * 1000, p.tick⟩ := by unfold Bk.take; rw [if_pos hn]
  refine ⟨by rw [e]; exact h.most, by rw [e]; exact h.rate, fun s v hs => ?_⟩
  rw [e] at hs ⊢
  simp only at hs
  have h2 := Int.mul_nonneg r0 (show 0 ≤ s - p.tick by omega)
  have hl := h.lev p.tick (v + p.size * 1000 - b.rate * (s - p.tick)) ht
  have hm := h.most
  have hr := h.rate
  have key : v ≤ (Bk.mk b.most b.rate (b.lev p.tick - p.size * 1000) p.tick).lev s ↔ v ≤ b.most ∧ v + p.size * 1000 - b.rate * (s - p.tick) ≤ b.lev p.tick := by simp only [Bk.lev]; omega
  rw [key, hl, hm, hr]
  simp only [ends_snoc]
  constructor
  · rintro ⟨h3, h4, h5⟩
    refine ⟨h3, fun a z hz => ?_⟩
    rcases hz with hz | ⟨rfl, rfl⟩
    · have := h5 a _ hz
      have := mul_split q.2 s p.tick a
      omega
    · omega
  · rintro ⟨h3, h4⟩
    refine ⟨h3, ?_, fun a z hz => ?_⟩
    · have := h4 p.tick p.size (.inr ⟨rfl, rfl⟩); omega
    · have := h4 a (z + p.size) (.inl (by simpa using hz))
      have := mul_split q.2 s p.tick a
      omega
end Go.Proofs.YtolbmkniafkeaaaDoor

/- Plain facts on a link that sends as a queue picks. No Go text is named here. -/
namespace Go.Proofs.YtolbmkniafkeaaaDoor

/-- What was sent: a packet's number, the tick at which it begins, the one at which it is through. -/
structure Sn where
  num : Int
  beg : Int
  fin : Int

/-- A queue, told by its ways. -/
structure Que (σ : Type) where
  come : σ → Nat → σ
  pick : σ → Nat
  left : σ → σ
  rest : σ → Nat
  idle : σ → σ := fun q => q

/-- What a link knows while it sends. -/
structure St (σ : Type) where
  out : List Sn
  now : Int
  next : Nat
  q : σ

/-- What holds at the start, and behind each step of a link where it held ahead of it. -/
structure Steps {σ : Type} (Q : Que σ) (per : Int) (ps : List Pk) (q0 : σ) (C : St σ → Prop) : Prop where
  start : C ⟨[], 0, 0, q0⟩
  come : ∀ s p, C s → ps[s.next]? = some p → p.tick ≤ s.now → C ⟨s.out, s.now, s.next + 1, Q.come s.q s.next⟩
  send : ∀ s p, C s → (∀ r, ps[s.next]? = some r → s.now < r.tick) → 0 < Q.rest s.q → ps[Q.pick s.q]? = some p → C ⟨s.out ++ [⟨Q.pick s.q, s.now, s.now + per * p.size⟩], s.now + per * p.size, s.next, Q.left s.q⟩
  idle : ∀ s p, C s → ps[s.next]? = some p → s.now < p.tick → Q.rest s.q = 0 → C ⟨s.out, p.tick, s.next, Q.idle s.q⟩
/-- The states that a link comes to: whatever holds at the start and behind each step holds there. -/
def Reaches {σ : Type} (Q : Que σ) (per : Int) (ps : List Pk) (q0 : σ) (s : St σ) : Prop := ∀ C : St σ → Prop, Steps Q per ps q0 C → C s
section
variable {σ : Type} {Q : Que σ} {per : Int} {ps : List Pk} {q0 : σ}
theorem Reaches.start : Reaches Q per ps q0 ⟨[], 0, 0, q0⟩ := fun _ h => h.start
theorem Reaches.come (s : St σ) (p : Pk) (hs : Reaches Q per ps q0 s) (h1 : ps[s.next]? = some p) (h2 : p.tick ≤ s.now) : Reaches Q per ps q0 ⟨s.out, s.now, s.next + 1, Q.come s.q s.next⟩ :=
  fun C h => h.come s p (hs C h) h1 h2
theorem Reaches.send (s : St σ) (p : Pk) (hs : Reaches Q per ps q0 s) (h1 : ∀ r, ps[s.next]? = some r → s.now < r.tick) (h2 : 0 < Q.rest s.q) (h3 : ps[Q.pick s.q]? = some p) : Reaches Q per ps q0 ⟨s.out ++ [⟨Q.pick s.q, s.now, s.now + per * p.size⟩], s.now + per * p.size, s.next, Q.left s.q⟩ :=
  fun C h => h.send s p (hs C h) h1 h2 h3
theorem Reaches.idle (s : St σ) (p : Pk) (hs : Reaches Q per ps q0 s) (h1 : ps[s.next]? = some p) (h2 : s.now < p.tick) (h3 : Q.rest s.q = 0) : Reaches Q per ps q0 ⟨s.out, p.tick, s.next, Q.idle s.q⟩ :=
  fun C h => h.idle s p (hs C h) h1 h2 h3
/-- By steps. -/
theorem Reaches.by_steps {C : St σ → Prop} {s : St σ} (h : Reaches Q per ps q0 s) (h0 : C ⟨[], 0, 0, q0⟩)
    (h1 : ∀ s p, Reaches Q per ps q0 s → ps[s.next]? = some p → p.tick ≤ s.now → C s → C ⟨s.out, s.now, s.next + 1, Q.come s.q s.next⟩)
    (h2 : ∀ s p, Reaches Q per ps q0 s → (∀ r, ps[s.next]? = some r → s.now < r.tick) → 0 < Q.rest s.q → ps[Q.pick s.q]? = some p → C s → C ⟨s.out ++ [⟨Q.pick s.q, s.now, s.now + per * p.size⟩], s.now + per * p.size, s.next, Q.left s.q⟩)
    (h3 : ∀ s p, Reaches Q per ps q0 s → ps[s.next]? = some p → s.now < p.tick → Q.rest s.q = 0 → C s → C ⟨s.out, p.tick, s.next, Q.idle s.q⟩) : C s :=
  (h (fun s => Reaches Q per ps q0 s ∧ C s) ⟨⟨.start, h0⟩, fun s p hs a b => ⟨.come s p hs.1 a b, h1 s p hs.1 a b hs.2⟩, fun s p hs a b c => ⟨.send s p hs.1 a b c, h2 s p hs.1 a b c hs.2⟩, fun s p hs a b c => ⟨.idle s p hs.1 a b c, h3 s p hs.1 a b c hs.2⟩⟩).2
end

/-- What a queue must keep to. -/
structure QueLaw {σ : Type} (Q : Que σ) (per : Int) (ps : List Pk) (q0 : σ) : Prop where
  none : Q.rest q0 = 0
  come : ∀ s, Reaches Q per ps q0 s → s.next < ps.length → Q.rest (Q.come s.q s.next) = Q.rest s.q + 1
  left : ∀ s, Reaches Q per ps q0 s → 0 < Q.rest s.q → Q.rest (Q.left s.q) + 1 = Q.rest s.q
  pick : ∀ s, Reaches Q per ps q0 s → 0 < Q.rest s.q → Q.pick s.q < s.next
  idle : ∀ s, Reaches Q per ps q0 s → Q.rest s.q = 0 → Q.rest (Q.idle s.q) = 0
/-- What is left where it was asked how many wait. -/
def Que.asked {σ : Type} (Q : Que σ) (q : σ) : σ := if Q.rest q = 0 then Q.idle q else q
theorem asked_same {σ : Type} (Q : Que σ) (h : ∀ q, Q.idle q = q) (q : σ) : Q.asked q = q := by
  unfold Que.asked
  split
  · exact h q
  · rfl

theorem lt_of_get {α : Type} {l : List α} {k : Nat} {x : α} (h : l[k]? = some x) : k < l.length := by
  rcases Nat.lt_or_ge k l.length with h' | h'
  · exact h'
  · simp [List.getElem?_eq_none h'] at h

section
variable {σ : Type} {Q : Que σ} {per : Int} {ps : List Pk} {q0 : σ} {s : St σ}
theorem Reaches.next_le (h : Reaches Q per ps q0 s) : s.next ≤ ps.length := by
  refine h.by_steps (C := fun s => s.next ≤ ps.length) (Nat.zero_le _) ?_ ?_ ?_
  · intro s p _ hp _ _
    exact lt_of_get hp
  · intro s p _ _ _ _ ih
    exact ih
  · intro s p _ _ _ _ ih
    exact ih
theorem Reaches.count (hq : QueLaw Q per ps q0) (h : Reaches Q per ps q0 s) : s.out.length + Q.rest s.q = s.next := by
  refine h.by_steps (C := fun s => s.out.length + Q.rest s.q = s.next) (by simp [hq.none]) ?_ ?_ ?_
  · intro s p hs hp _ ih
    have := hq.come s hs (lt_of_get hp)
    simp only
    omega
  · intro s p hs _ h0 _ ih
    have := hq.left s hs h0
    simp only [List.length_append, List.length_cons, List.length_nil]
    omega
  · intro s p hs _ _ h0 ih
    have := hq.idle s hs h0
    simp only
    omega
theorem Reaches.now_in (hper : 1 ≤ per ∧ per ≤ 1000) (ho : OkPks ps) (h : Reaches Q per ps q0 s) : 0 ≤ s.now ∧ s.now ≤ 1099511627776 + 1500000 * s.out.length := by
  refine h.by_steps (C := fun s => 0 ≤ s.now ∧ s.now ≤ 1099511627776 + 1500000 * s.out.length) ⟨Int.le_refl _, by simp⟩ ?_ ?_ ?_
  · intro s p _ _ _ ih
    exact ih
  · intro s p _ _ _ hp ih
    obtain ⟨-, -, h1, h2, -, -⟩ := okPk_true (ho.each _ p hp).1
    have a1 : 0 ≤ per * p.size := Int.mul_nonneg (by omega) (by omega)
    have a2 : per * p.size ≤ 1000 * 1500 := Int.mul_le_mul (by omega) h2 (by omega) (by omega)
    simp only [List.length_append, List.length_cons, List.length_nil]
    omega
  · intro s p _ hp _ _ ih
    obtain ⟨-, -, -, -, h1, h2⟩ := okPk_true (ho.each _ p hp).1
    simp only
    omega
end

/-- The tick, and the size, of a packet by its number. -/
def tickOf (ps : List Pk) (j : Nat) : Int := match ps[j]? with | some p => p.tick | none => 0
def bytesOf (ps : List Pk) (j : Nat) : Int := match ps[j]? with | some p => p.size | none => 0
theorem tickOf_get {ps : List Pk} {j : Nat} {p : Pk} (h : ps[j]? = some p) : tickOf ps j = p.tick := by simp [tickOf, h]
theorem bytesOf_get {ps : List Pk} {j : Nat} {p : Pk} (h : ps[j]? = some p) : bytesOf ps j = p.size := by simp [bytesOf, h]
theorem ticks_rise {ps : List Pk} (ho : OkPks ps) : ∀ (d i : Nat), i + d < ps.length → tickOf ps i ≤ tickOf ps (i + d) := by
  intro d
  induction d with
  | zero => intro i _; exact Int.le_refl _
  | succ d ih =>
    intro i h
    have h1 := ih i (by omega)
    have e1 : ps[i + d]? = some ps[i + d] := List.getElem?_eq_getElem (by omega)
    have e2 : ps[i + d + 1]? = some ps[i + d + 1] := List.getElem?_eq_getElem (by omega)
    have h2 := (ho.each (i + d + 1) _ e2).2
    simp only [ahead, e1] at h2
    rw [tickOf_get e1] at h1
    rw [show i + (d + 1) = i + d + 1 by omega, tickOf_get e2]
    omega
theorem ticks_le {ps : List Pk} (ho : OkPks ps) {i k : Nat} (h : i ≤ k) (hk : k < ps.length) : tickOf ps i ≤ tickOf ps k := by
  have := ticks_rise ho (k - i) i (by omega)
  rwa [show i + (k - i) = k by omega] at this
end Go.Proofs.YtolbmkniafkeaaaDoor

/- Plain facts on a link in order: when each packet is through. No Go text is named here. -/
namespace Go.Proofs.YtolbmkniafkeaaaDoor

/-- When all ahead of a packet are through. -/
def lto (per : Int) (ps : List Pk) : Nat → Int
  | 0 => 0
  | j + 1 => max (lto per ps j) (tickOf ps j) + per * bytesOf ps j
def lind (per : Int) (ps : List Pk) (j : Nat) : Sn := ⟨j, max (lto per ps j) (tickOf ps j), lto per ps (j + 1)⟩
def lindAll (per : Int) (ps : List Pk) (j : Nat) : List Sn := (List.range j).map (lind per ps)
theorem lindAll_length (per : Int) (ps : List Pk) (j : Nat) : (lindAll per ps j).length = j := by simp [lindAll]
theorem lindAll_get {per : Int} {ps : List Pk} {j k : Nat} (h : k < j) : (lindAll per ps j)[k]? = some (lind per ps k) := by simp [lindAll, h]
theorem lindAll_succ (per : Int) (ps : List Pk) (j : Nat) : lindAll per ps (j + 1) = lindAll per ps j ++ [lind per ps j] := by simp [lindAll, List.range_succ]
theorem lindAll_take {per : Int} {ps : List Pk} {j k : Nat} (h : k ≤ j) : (lindAll per ps j).take k = lindAll per ps k := by
  rw [lindAll, ← List.map_take, List.take_range, Nat.min_eq_left h]; rfl

theorem lto_in {per : Int} {ps : List Pk} (ho : OkPks ps) (h1 : 1 ≤ per) (h2 : per ≤ 1000) : ∀ k, k ≤ ps.length → 0 ≤ lto per ps k ∧ lto per ps k ≤ 1099511627776 + 1500000 * k
  | 0, _ => ⟨Int.le_refl _, by simp [lto]⟩
  | k + 1, hk => by
    have ih := lto_in ho h1 h2 k (by omega)
    have e : ps[k]? = some ps[k] := List.getElem?_eq_getElem (by omega)
    obtain ⟨-, -, s1, s2, t1, t2⟩ := okPk_true (ho.each _ _ e).1
    have a1 : 0 ≤ per * ps[k].size := Int.mul_nonneg (by omega) (by omega)
    have a2 : per * ps[k].size ≤ 1000 * 1500 := Int.mul_le_mul (by omega) s2 (by omega) (by omega)
    simp only [lto, tickOf_get e, bytesOf_get e]
    omega

/-- The queue that picks the one that came first. -/
def fifoQ : Que (List Nat) := ⟨fun q k => q ++ [k], fun q => q.headD 0, fun q => q.tail, fun q => q.length, fun q => q⟩

/-- Those that wait in order, and what was sent. -/
structure InOrder (per : Int) (ps : List Pk) (s : St (List Nat)) (j : Nat) : Prop where
  le : j ≤ s.next
  q : s.q = List.range' j (s.next - j)
  out : s.out = lindAll per ps j
  came : ∀ i, i < s.next → tickOf ps i ≤ s.now
  now : max s.now (tickOf ps j) = max (lto per ps j) (tickOf ps j)
theorem fifo_order {per : Int} {ps : List Pk} {s : St (List Nat)} (hper : 0 ≤ per) (ho : OkPks ps) (h : Reaches fifoQ per ps [] s) : ∃ j, InOrder per ps s j := by
  refine h.by_steps (C := fun s => ∃ j, InOrder per ps s j) ⟨0, Nat.le_refl _, rfl, rfl, fun i h => absurd h (Nat.not_lt_zero _), rfl⟩ ?_ ?_ ?_
  · intro s p hs hp ht ih
    obtain ⟨j, h1, h2, h3, h4, h5⟩ := ih
    refine ⟨j, by simp only; omega, ?_, h3, fun i hi => ?_, h5⟩
    · simp only [fifoQ, h2]
      rw [show s.next + 1 - j = (s.next - j) + 1 by omega, List.range'_concat, Nat.one_mul, show j + (s.next - j) = s.next by omega]
    · simp only at hi ⊢
      rcases Nat.lt_or_ge i s.next with h | h
      · exact h4 i h
      · obtain rfl : i = s.next := by omega
        rw [tickOf_get hp]; exact ht
  · intro s p hs hall h0 hp ih
    obtain ⟨j, h1, h2, h3, h4, h5⟩ := ih
    have hlt : j < s.next := by
      rcases Nat.lt_or_ge j s.next with h | h
      · exact h
      · rw [h2, show s.next - j = 0 by omega] at h0
        simp [fifoQ] at h0
    have hr : List.range' j (s.next - j) = j :: List.range' (j + 1) (s.next - (j + 1)) := by
      rw [show s.next - j = (s.next - (j + 1)) + 1 by omega, List.range'_succ]
    have hpick : fifoQ.pick s.q = j := by rw [h2, hr]; rfl
    rw [hpick] at hp
    have e1 := tickOf_get hp
    have e2 := bytesOf_get hp
    have hn : s.now = max (lto per ps j) (tickOf ps j) := by
      have := h4 j hlt
      omega
    have hpos : 0 ≤ per * p.size := Int.mul_nonneg hper (by have := okPk_true (ho.each _ p hp).1; omega)
    refine ⟨j + 1, by simp only; omega, ?_, ?_, fun i hi => ?_, ?_⟩
    · simp only [fifoQ]; rw [h2, hr]; rfl
    · simp only [hpick]
      rw [lindAll_succ, h3]
      simp only [lind, lto, e2, hn]
    · have := h4 i hi
      simp only
      omega
    · simp only [lto, e2, hn]
  · intro s p hs hp ht h0 ih
    obtain ⟨j, h1, h2, h3, h4, h5⟩ := ih
    have hj : j = s.next := by
      have h0' : s.q.length = 0 := h0
      rw [h2, List.length_range'] at h0'
      omega
    subst hj
    have e1 := tickOf_get hp
    refine ⟨s.next, Nat.le_refl _, h2, h3, fun i hi => ?_, ?_⟩
    · have := h4 i hi
      simp only
      omega
    · simp only [e1] at h5 ⊢
      omega
theorem fifo_law {per : Int} {ps : List Pk} (hper : 0 ≤ per) (ho : OkPks ps) : QueLaw fifoQ per ps [] where
  none := rfl
  come := fun s _ _ => by simp [fifoQ]
  left := fun s _ h => by
    simp only [fifoQ] at h ⊢
    rw [List.length_tail]
    omega
  pick := fun s hs h => by
    obtain ⟨j, h1, h2, -, -, -⟩ := fifo_order hper ho hs
    have h' : 0 < s.q.length := h
    rw [h2, List.length_range'] at h'
    show s.q.headD 0 < s.next
    rw [h2, show s.next - j = (s.next - (j + 1)) + 1 by omega, List.range'_succ]
    simp
    omega
  idle := fun _ _ h => h
theorem fifo_idle (q : List Nat) : fifoQ.idle q = q := rfl
theorem fifo_end {per : Int} {ps : List Pk} {s : St (List Nat)} (hper : 0 ≤ per) (ho : OkPks ps) (h : Reaches fifoQ per ps [] s) (hn : ¬ s.next < ps.length) (hr : fifoQ.rest s.q = 0) : s.out = lindAll per ps ps.length := by
  obtain ⟨j, h1, h2, h3, -, -⟩ := fifo_order hper ho h
  have := h.next_le
  have h' : s.q.length = 0 := hr
  rw [h2, List.length_range'] at h'
  rw [h3, show j = ps.length by omega]
end Go.Proofs.YtolbmkniafkeaaaDoor

/- Plain facts: of those that wait the least one by a key, of these the first: such a list there is but once. No Go text is named here. -/
namespace Go.Proofs.YtolbmkniafkeaaaDoor

/-- Not sent yet. -/
def Undone (n : Nat) (out : List Sn) (i : Nat) : Prop := i < n ∧ ∀ x ∈ out, x.num ≠ (i : Int)
/-- When the last one is through. -/
def lastFin (out : List Sn) : Int := match out.getLast? with | some x => x.fin | none => 0
theorem lastFin_nil : lastFin [] = 0 := rfl
theorem lastFin_snoc (out : List Sn) (x : Sn) : lastFin (out ++ [x]) = x.fin := by simp [lastFin]

/-- Of those that have come, and wait, the least one, of these the first. -/
structure Best (ps : List Pk) (keys : List Int) (out : List Sn) (t : Int) (b : Nat) : Prop where
  undone : Undone ps.length out b
  came : tickOf ps b ≤ t
  least : ∀ i, Undone ps.length out i → tickOf ps i ≤ t → keys.getD b 0 < keys.getD i 0 ∨ (keys.getD b 0 = keys.getD i 0 ∧ b ≤ i)
/-- The tick at which the next one is sent. -/
def Tick (ps : List Pk) (out : List Sn) (t : Int) : Prop :=
  (t = lastFin out ∧ ∃ i, Undone ps.length out i ∧ tickOf ps i ≤ t) ∨
  ((∀ i, Undone ps.length out i → lastFin out < tickOf ps i) ∧ ∃ i, Undone ps.length out i ∧ t = tickOf ps i ∧ ∀ k, Undone ps.length out k → tickOf ps i ≤ tickOf ps k)
theorem Tick.same {ps : List Pk} {out : List Sn} {t u : Int} (h : Tick ps out t) (k : Tick ps out u) : t = u := by
  rcases h with ⟨rfl, i, h1, h2⟩ | ⟨h0, i, h1, rfl, h2⟩
  · rcases k with ⟨rfl, -⟩ | ⟨k0, -⟩
    · rfl
    · have := k0 i h1; omega
  · rcases k with ⟨rfl, j, k1, k2⟩ | ⟨-, j, k1, rfl, k2⟩
    · have := h0 j k1; omega
    · have := h2 j k1
      have := k2 i h1
      omega
theorem Best.same {ps : List Pk} {keys : List Int} {out : List Sn} {t : Int} {b c : Nat} (h : Best ps keys out t b) (k : Best ps keys out t c) : b = c := by
  have h1 := h.least c k.undone k.came
  have k1 := k.least b h.undone h.came
  omega
/-- The next one that is sent. -/
def IsNext (per : Int) (ps : List Pk) (keys : List Int) (out : List Sn) (x : Sn) : Prop := ∃ t b, Tick ps out t ∧ Best ps keys out t b ∧ x = ⟨b, t, t + per * bytesOf ps b⟩
theorem IsNext.same {per : Int} {ps : List Pk} {keys : List Int} {out : List Sn} {x y : Sn} (h : IsNext per ps keys out x) (k : IsNext per ps keys out y) : x = y := by
  obtain ⟨t, b, h1, h2, rfl⟩ := h
  obtain ⟨u, c, k1, k2, rfl⟩ := k
  obtain rfl := h1.same k1
  obtain rfl := h2.same k2
  rfl
/-- A list of what was sent, each the next one. -/
def Sched (per : Int) (ps : List Pk) (keys : List Int) (out : List Sn) : Prop := ∀ k x, out[k]? = some x → IsNext per ps keys (out.take k) x
theorem Sched.nil (per : Int) (ps : List Pk) (keys : List Int) : Sched per ps keys [] := fun k x h => by simp at h
theorem Sched.snoc {per : Int} {ps : List Pk} {keys : List Int} {out : List Sn} {x : Sn} (h : Sched per ps keys out) (hx : IsNext per ps keys out x) : Sched per ps keys (out ++ [x]) := by
  intro k y hk
  have hl := lt_of_get hk
  rw [List.length_append, List.length_cons, List.length_nil] at hl
  rcases Nat.lt_or_ge k out.length with h1 | h1
  · rw [List.getElem?_append_left h1] at hk
    rw [List.take_append_of_le_length (by omega)]
    exact h k y hk
  · obtain rfl : k = out.length := by omega
    rw [List.getElem?_append_right (Nat.le_refl _)] at hk
    simp at hk
    subst hk
    rw [List.take_append_of_le_length (Nat.le_refl _), List.take_length]
    exact hx
theorem Sched.same {per : Int} {ps : List Pk} {keys : List Int} {a b : List Sn} (h : Sched per ps keys a) (k : Sched per ps keys b) (hl : a.length = b.length) : a = b := by
  have key : ∀ n, n ≤ a.length → a.take n = b.take n := by
    intro n
    induction n with
    | zero => intro _; simp
    | succ n ih =>
      intro hn
      have e := ih (by omega)
      have h1 : a[n]? = some a[n] := List.getElem?_eq_getElem (by omega)
      have h2 : b[n]? = some (b[n]'(by omega)) := List.getElem?_eq_getElem (by omega)
      have g1 := h n _ h1
      have g2 := k n _ h2
      rw [← e] at g2
      have := g1.same g2
      rw [List.take_add_one, List.take_add_one, e, h1, h2, this]
  have := key a.length (Nat.le_refl _)
  rw [List.take_length, hl, List.take_length] at this
  exact this

theorem undone_lind {per : Int} {ps : List Pk} {j i : Nat} : Undone ps.length (lindAll per ps j) i ↔ i < ps.length ∧ j ≤ i := by
  unfold Undone
  constructor
  · rintro ⟨h1, h2⟩
    refine ⟨h1, ?_⟩
    rcases Nat.lt_or_ge i j with h | h
    · have hm : lind per ps i ∈ lindAll per ps j := List.mem_map.2 ⟨i, List.mem_range.2 h, rfl⟩
      exact absurd rfl (h2 _ hm)
    · exact h
  · rintro ⟨h1, h2⟩
    refine ⟨h1, fun x hx => ?_⟩
    obtain ⟨k, hk, rfl⟩ := List.mem_map.1 hx
    have := List.mem_range.1 hk
    simp only [lind]
    omega
theorem lastFin_lind (per : Int) (ps : List Pk) : ∀ j, lastFin (lindAll per ps j) = lto per ps j
  | 0 => rfl
  | j + 1 => by rw [lindAll_succ, lastFin_snoc]; rfl
/-- In order: the list by a key that is the same for all. -/
theorem lind_sched {per : Int} {ps : List Pk} (ho : OkPks ps) (keys : List Int) (hk : ∀ i, keys.getD i 0 = 0) : Sched per ps keys (lindAll per ps ps.length) := by
  intro k x hx
  have hkl := lt_of_get hx
  rw [lindAll_length] at hkl
  rw [lindAll_get hkl] at hx
  have hx := Option.some.inj hx
  subst hx
  rw [lindAll_take (by omega)]
  refine ⟨max (lto per ps k) (tickOf ps k), k, ?_, ⟨undone_lind.2 ⟨hkl, Nat.le_refl _⟩, by omega, fun i hi _ => .inr ⟨by rw [hk, hk], (undone_lind.1 hi).2⟩⟩, ?_⟩
  · by_cases h : tickOf ps k ≤ lto per ps k
    · exact .inl ⟨by rw [lastFin_lind]; omega, k, undone_lind.2 ⟨hkl, Nat.le_refl _⟩, by omega⟩
    · refine .inr ⟨fun i hi => ?_, k, undone_lind.2 ⟨hkl, Nat.le_refl _⟩, by omega, fun i hi => ?_⟩
      · rw [lastFin_lind]
        have := undone_lind.1 hi
        have := ticks_le ho this.2 this.1
        omega
      · have := undone_lind.1 hi
        exact ticks_le ho this.2 this.1
  · simp only [lind, lto]
end Go.Proofs.YtolbmkniafkeaaaDoor

/- Plain facts: busy ticks of what was sent; the first that names no packet. No Go text is named here. -/
namespace Go.Proofs.YtolbmkniafkeaaaDoor

def busyStep (acc : List (Int × Int)) (x : Sn) : List (Int × Int) :=
  match acc.getLast? with
  | none => [(x.beg, x.fin)]
  | some l => if l.2 < x.beg then acc ++ [(x.beg, x.fin)] else acc.dropLast ++ [(l.1, max l.2 x.fin)]
def busyL (l : List Sn) : List (Int × Int) := l.foldl busyStep []
theorem busyL_take {l : List Sn} {k : Nat} {x : Sn} (h : l[k]? = some x) : busyL (l.take (k + 1)) = busyStep (busyL (l.take k)) x := by
  unfold busyL
  rw [List.take_add_one, h]
  simp
theorem busyStep_nil (x : Sn) : busyStep [] x = [(x.beg, x.fin)] := rfl
theorem busyStep_far (r : List (Int × Int)) (s t : Int) (x : Sn) (h : t < x.beg) : busyStep (r ++ [(s, t)]) x = r ++ [(s, t)] ++ [(x.beg, x.fin)] := by
  unfold busyStep
  simp [h]
theorem busyStep_near (r : List (Int × Int)) (s t : Int) (x : Sn) (h : ¬ t < x.beg) : busyStep (r ++ [(s, t)]) x = r ++ [(s, max t x.fin)] := by
  unfold busyStep
  simp [h]
theorem busyStep_length (acc : List (Int × Int)) (x : Sn) : (busyStep acc x).length ≤ acc.length + 1 := by
  rcases List.eq_nil_or_concat acc with rfl | ⟨r, ⟨s, t⟩, rfl⟩
  · simp [busyStep_nil]
  · rw [List.concat_eq_append]
    by_cases h : t < x.beg
    · rw [busyStep_far _ _ _ _ h]; simp
    · rw [busyStep_near _ _ _ _ h]; simp
theorem busyL_length (l : List Sn) : ∀ k, k ≤ l.length → (busyL (l.take k)).length ≤ k
  | 0, _ => by simp [busyL]
  | k + 1, h => by
    have e : l[k]? = some l[k] := List.getElem?_eq_getElem (by omega)
    have ih := busyL_length l k (by omega)
    have := busyStep_length (busyL (l.take k)) l[k]
    rw [busyL_take e]
    omega

/-- Does it name a packet? -/
def named (n : Nat) (x : Sn) : Bool := decide (0 ≤ x.num ∧ x.num < n)
/-- The first that names none: a number and a place. -/
def SentFaultIs (n : Nat) (l : List Sn) (c p : Int) : Prop :=
  (∃ (j : Nat) (x : Sn), l[j]? = some x ∧ (∀ (i : Nat) y, i < j → l[i]? = some y → named n y = true) ∧ named n x = false ∧ c = 4 ∧ p = j) ∨
  ((∀ (i : Nat) y, l[i]? = some y → named n y = true) ∧ c = 0 ∧ p = -1)
theorem sentFault_is (n : Nat) (l : List Sn) : ∃ c p, SentFaultIs n l c p := by
  have h : ∀ j, j ≤ l.length → (∀ (i : Nat) y, i < j → l[i]? = some y → named n y = true) ∨ ∃ (j : Nat) (x : Sn), l[j]? = some x ∧ (∀ (i : Nat) y, i < j → l[i]? = some y → named n y = true) ∧ named n x = false := by
    intro j
    induction j with
    | zero => intro _; exact .inl fun i y hi => by omega
    | succ j ih =>
      intro hj
      rcases ih (by omega) with h1 | h1
      · have e : l[j]? = some l[j] := List.getElem?_eq_getElem (by omega)
        cases hn : named n l[j] with
        | true =>
          refine .inl fun i y hi hy => ?_
          rcases Nat.lt_or_ge i j with h2 | h2
          · exact h1 i y h2 hy
          · obtain rfl : i = j := by omega
            rw [e] at hy
            obtain rfl := Option.some.inj hy
            exact hn
        | false => exact .inr ⟨j, l[j], e, h1, hn⟩
      · exact .inr h1
  rcases h l.length (Nat.le_refl _) with h1 | ⟨j, x, h1, h2, h3⟩
  · exact ⟨0, -1, .inr ⟨fun i y hy => h1 i y (lt_of_get hy) hy, rfl, rfl⟩⟩
  · exact ⟨4, j, .inl ⟨j, x, h1, h2, h3, rfl, rfl⟩⟩
theorem named_true {n : Nat} {x : Sn} (h : named n x = true) : 0 ≤ x.num ∧ x.num < n := of_decide_eq_true h
theorem named_false {n : Nat} {x : Sn} (h : named n x = false) : x.num < 0 ∨ (¬ x.num < 0 ∧ (n : Int) ≤ x.num) := by
  have : ¬ (0 ≤ x.num ∧ x.num < n) := of_decide_eq_false h
  omega
end Go.Proofs.YtolbmkniafkeaaaDoor

/- Plain facts: the search for the next one that is sent, packet by packet. No Go text is named here. -/
namespace Go.Proofs.YtolbmkniafkeaaaDoor

def isDone (out : List Sn) (i : Nat) : Bool := out.any fun x => x.num == (i : Int)
theorem isDone_false {out : List Sn} {i : Nat} : isDone out i = false ↔ ∀ x ∈ out, x.num ≠ (i : Int) := by simp [isDone]
theorem isDone_snoc (out : List Sn) (b i : Nat) (f t : Int) : isDone (out ++ [⟨b, f, t⟩]) i = (isDone out i || b == i) := by
  simp only [isDone, List.any_append, List.any_cons, List.any_nil, Bool.or_false]
  have e : ((b : Int) == (i : Int)) = (b == i) := by
    by_cases h : b = i
    · subst h; rw [beq_self_eq_true, beq_self_eq_true]
    · have h' : (b : Int) ≠ (i : Int) := by omega
      rw [beq_eq_false_iff_ne.2 h', beq_eq_false_iff_ne.2 h]
  rw [e]
theorem undone_iff {n : Nat} {out : List Sn} {i : Nat} : Undone n out i ↔ i < n ∧ isDone out i = false := by simp [Undone, isDone_false]

/-- The best one so far, and the first one. -/
def scan (ps : List Pk) (keys : List Int) (out : List Sn) (t : Int) : Nat → Option Nat
  | 0 => none
  | i + 1 => if isDone out i = true then scan ps keys out t i else if tickOf ps i ≤ t ∧ (∀ b, scan ps keys out t i = some b → keys.getD i 0 < keys.getD b 0) then some i else scan ps keys out t i
def firstTo (out : List Sn) : Nat → Option Nat
  | 0 => none
  | i + 1 => if isDone out i = true then firstTo out i else match firstTo out i with | some f => some f | none => some i
def optInt : Option Nat → Int
  | none => -1
  | some k => k

theorem scan_some {ps : List Pk} {keys : List Int} {out : List Sn} {t : Int} : ∀ (i : Nat) (b : Nat), scan ps keys out t i = some b → b < i ∧ isDone out b = false ∧ tickOf ps b ≤ t ∧ ∀ k, k < i → isDone out k = false → tickOf ps k ≤ t → keys.getD b 0 < keys.getD k 0 ∨ (keys.getD b 0 = keys.getD k 0 ∧ b ≤ k) := by
  intro i
  induction i with
  | zero => intro b h; simp [scan] at h
  | succ i ih =>
    intro b h
    simp only [scan] at h
    by_cases hd : isDone out i = true
    · rw [if_pos hd] at h
      obtain ⟨h1, h2, h3, h4⟩ := ih b h
      refine ⟨by omega, h2, h3, fun k hk hu ht => ?_⟩
      rcases Nat.lt_or_ge k i with h' | h'
      · exact h4 k h' hu ht
      · obtain rfl : k = i := by omega
        rw [hd] at hu; cases hu
    · rw [if_neg hd] at h
      have hd' : isDone out i = false := by simpa using hd
      by_cases hc : tickOf ps i ≤ t ∧ (∀ b, scan ps keys out t i = some b → keys.getD i 0 < keys.getD b 0)
      · rw [if_pos hc] at h
        obtain rfl := Option.some.inj h
        refine ⟨by omega, hd', hc.1, fun k hk hu ht => ?_⟩
        rcases Nat.lt_or_ge k i with h' | h'
        · cases hs : scan ps keys out t i with
          | none =>
            exact absurd ht (Int.not_le.2 (by
              have : ∀ i, scan ps keys out t i = none → ∀ k, k < i → isDone out k = false → t < tickOf ps k := by
                intro i
                induction i with
                | zero => intro _ k hk; omega
                | succ i ih2 =>
                  intro hn k hk hu
                  simp only [scan] at hn
                  by_cases hd : isDone out i = true
                  · rw [if_pos hd] at hn
                    rcases Nat.lt_or_ge k i with h'' | h''
                    · exact ih2 hn k h'' hu
                    · obtain rfl : k = i := by omega
                      rw [hd] at hu; cases hu
                  · rw [if_neg hd] at hn
                    by_cases hc : tickOf ps i ≤ t ∧ (∀ b, scan ps keys out t i = some b → keys.getD i 0 < keys.getD b 0)
                    · rw [if_pos hc] at hn; cases hn
                    · rw [if_neg hc] at hn
                      rcases Nat.lt_or_ge k i with h'' | h''
                      · exact ih2 hn k h'' hu
                      · obtain rfl : k = i := by omega
                        rcases Int.lt_or_le t (tickOf ps k) with h3 | h3
                        · exact h3
                        · exact absurd ⟨h3, fun b hb => by rw [hn] at hb; cases hb⟩ hc
              exact this i hs k h' hu))
          | some c =>
            have h5 := hc.2 c hs
            have h6 := (ih c hs).2.2.2 k h' hu ht
            exact .inl (by omega)
        · obtain rfl : k = i := by omega
          exact .inr ⟨rfl, Nat.le_refl _⟩
      · rw [if_neg hc] at h
        obtain ⟨h1, h2, h3, h4⟩ := ih b h
        refine ⟨by omega, h2, h3, fun k hk hu ht => ?_⟩
        rcases Nat.lt_or_ge k i with h' | h'
        · exact h4 k h' hu ht
        · obtain rfl : k = i := by omega
          rcases Int.lt_or_le (keys.getD k 0) (keys.getD b 0) with h5 | h5
          · exact absurd ⟨ht, fun c hc' => by rw [h] at hc'; obtain rfl := Option.some.inj hc'; exact h5⟩ hc
          · omega
theorem scan_none {ps : List Pk} {keys : List Int} {out : List Sn} {t : Int} : ∀ i, scan ps keys out t i = none → ∀ k, k < i → isDone out k = false → t < tickOf ps k := by
  intro i
  induction i with
  | zero => intro _ k hk; omega
  | succ i ih2 =>
    intro hn k hk hu
    simp only [scan] at hn
    by_cases hd : isDone out i = true
    · rw [if_pos hd] at hn
      rcases Nat.lt_or_ge k i with h'' | h''
      · exact ih2 hn k h'' hu
      · obtain rfl : k = i := by omega
        rw [hd] at hu; cases hu
    · rw [if_neg hd] at hn
      by_cases hc : tickOf ps i ≤ t ∧ (∀ b, scan ps keys out t i = some b → keys.getD i 0 < keys.getD b 0)
      · rw [if_pos hc] at hn; cases hn
      · rw [if_neg hc] at hn
        rcases Nat.lt_or_ge k i with h'' | h''
        · exact ih2 hn k h'' hu
        · obtain rfl : k = i := by omega
          rcases Int.lt_or_le t (tickOf ps k) with h3 | h3
          · exact h3
          · exact absurd ⟨h3, fun b hb => by rw [hn] at hb; cases hb⟩ hc
theorem first_some {out : List Sn} : ∀ i f, firstTo out i = some f → f < i ∧ isDone out f = false ∧ ∀ k, k < i → isDone out k = false → f ≤ k := by
  intro i
  induction i with
  | zero => intro f h; simp [firstTo] at h
  | succ i ih =>
    intro f h
    simp only [firstTo] at h
    by_cases hd : isDone out i = true
    · rw [if_pos hd] at h
      obtain ⟨h1, h2, h3⟩ := ih f h
      refine ⟨by omega, h2, fun k hk hu => ?_⟩
      rcases Nat.lt_or_ge k i with h' | h'
      · exact h3 k h' hu
      · omega
    · rw [if_neg hd] at h
      cases hf : firstTo out i with
      | some g =>
        rw [hf] at h
        obtain rfl := Option.some.inj h
        obtain ⟨h1, h2, h3⟩ := ih g hf
        refine ⟨by omega, h2, fun k hk hu => ?_⟩
        rcases Nat.lt_or_ge k i with h' | h'
        · exact h3 k h' hu
        · omega
      | none =>
        rw [hf] at h
        obtain rfl := Option.some.inj h
        refine ⟨by omega, by simpa using hd, fun k hk hu => ?_⟩
        rcases Nat.lt_or_ge k i with h' | h'
        · exact absurd hu (by
            have : ∀ i, firstTo out i = none → ∀ k, k < i → isDone out k = true := by
              intro i
              induction i with
              | zero => intro _ k hk; omega
              | succ i ih2 =>
                intro hn k hk
                simp only [firstTo] at hn
                by_cases hd : isDone out i = true
                · rw [if_pos hd] at hn
                  rcases Nat.lt_or_ge k i with h'' | h''
                  · exact ih2 hn k h''
                  · obtain rfl : k = i := by omega
                    exact hd
                · rw [if_neg hd] at hn
                  split at hn <;> cases hn
            rw [this i hf k h']
            simp)
        · omega
theorem first_none {out : List Sn} : ∀ i, firstTo out i = none → ∀ k, k < i → isDone out k = true := by
  intro i
  induction i with
  | zero => intro _ k hk; omega
  | succ i ih2 =>
    intro hn k hk
    simp only [firstTo] at hn
    by_cases hd : isDone out i = true
    · rw [if_pos hd] at hn
      rcases Nat.lt_or_ge k i with h'' | h''
      · exact ih2 hn k h''
      · obtain rfl : k = i := by omega
        exact hd
    · rw [if_neg hd] at hn
      split at hn <;> cases hn

/-- Not all can be done while fewer were sent. -/
theorem all_done : ∀ (n : Nat) (out : List Sn), (∀ i, i < n → isDone out i = true) → n ≤ out.length := by
  intro n
  induction n with
  | zero => intro _ _; exact Nat.zero_le _
  | succ n ih =>
    intro out h
    have h1 := ih (out.filter fun x => !(x.num == (n : Int))) (fun i hi => by
      have := h i (by omega)
      simp only [isDone, List.any_eq_true, beq_iff_eq] at this ⊢
      obtain ⟨x, hx, hxi⟩ := this
      exact ⟨x, List.mem_filter.2 ⟨hx, by simp [hxi]; omega⟩, hxi⟩)
    have h2 : (out.filter fun x => !(x.num == (n : Int))).length < out.length := by
      have := h n (by omega)
      simp only [isDone, List.any_eq_true, beq_iff_eq] at this
      obtain ⟨x, hx, hxi⟩ := this
      exact List.length_filter_lt_length_iff_exists.2 ⟨x, hx, by simp [hxi]⟩
    omega

/-- While the next one is sought: how late it is; f is 0 where the tick was moved on. -/
structure Seeks (per : Int) (ps : List Pk) (keys : List Int) (out : List Sn) (t : Int) (f : Nat) : Prop where
  sched : Sched per ps keys out
  len : out.length ≤ ps.length
  tick : (f = 1 ∧ t = lastFin out) ∨ (f = 0 ∧ (∀ i, Undone ps.length out i → lastFin out < tickOf ps i) ∧ ∃ i, Undone ps.length out i ∧ t = tickOf ps i ∧ ∀ k, Undone ps.length out k → tickOf ps i ≤ tickOf ps k)
  low : 0 ≤ t
  high : t ≤ 1099511627776 + 1500000 * out.length
theorem seeks_start (per : Int) (ps : List Pk) (keys : List Int) : Seeks per ps keys [] 0 1 := ⟨Sched.nil _ _ _, Nat.zero_le _, .inl ⟨rfl, rfl⟩, Int.le_refl _, by simp⟩
section
variable {per : Int} {ps : List Pk} {keys : List Int} {out : List Sn} {t : Int} {f : Nat}
theorem Seeks.send (h : Seeks per ps keys out t f) (ho : OkPks ps) (h1 : 1 ≤ per) (h2 : per ≤ 1000) {b : Nat} (hb : scan ps keys out t ps.length = some b) {p : Pk} (hp : ps[b]? = some p) (hl : out.length < ps.length) : Seeks per ps keys (out ++ [⟨b, t, t + per * p.size⟩]) (t + per * p.size) 1 := by
  obtain ⟨b1, b2, b3, b4⟩ := scan_some _ _ hb
  have hbest : Best ps keys out t b := ⟨undone_iff.2 ⟨b1, b2⟩, b3, fun i hi ht => b4 i (undone_iff.1 hi).1 (undone_iff.1 hi).2 ht⟩
  have htick : Tick ps out t := by
    rcases h.tick with ⟨-, e⟩ | ⟨-, e1, e2⟩
    · exact .inl ⟨e, b, hbest.undone, b3⟩
    · exact .inr ⟨e1, e2⟩
  obtain ⟨-, -, s1, s2, -, -⟩ := okPk_true (ho.each _ p hp).1
  have a1 : 0 ≤ per * p.size := Int.mul_nonneg (by omega) (by omega)
  have a2 : per * p.size ≤ 1000 * 1500 := Int.mul_le_mul (by omega) s2 (by omega) (by omega)
  have l1 := h.low
  have l2 := h.high
  refine ⟨h.sched.snoc ⟨t, b, htick, hbest, by rw [bytesOf_get hp]⟩, by simp; omega, .inl ⟨rfl, by rw [lastFin_snoc]⟩, by omega, ?_⟩
  simp only [List.length_append, List.length_cons, List.length_nil]
  omega
theorem Seeks.idle (h : Seeks per ps keys out t f) (ho : OkPks ps) (hb : scan ps keys out t ps.length = none) (hl : out.length < ps.length) : f = 1 ∧ ∃ k p, firstTo out ps.length = some k ∧ ps[k]? = some p ∧ Seeks per ps keys out p.tick 0 := by
  have hs := scan_none _ hb
  have hf : f = 1 ∧ t = lastFin out := by
    rcases h.tick with h1 | ⟨-, -, i, h2, h3, -⟩
    · exact h1
    · have := hs i (undone_iff.1 h2).1 (undone_iff.1 h2).2
      omega
  refine ⟨hf.1, ?_⟩
  cases hk : firstTo out ps.length with
  | none =>
    have := all_done ps.length out (first_none _ hk)
    omega
  | some k =>
    obtain ⟨k1, k2, k3⟩ := first_some _ _ hk
    have e : ps[k]? = some ps[k] := List.getElem?_eq_getElem k1
    obtain ⟨-, -, -, -, t1, t2⟩ := okPk_true (ho.each _ _ e).1
    refine ⟨k, ps[k], rfl, e, h.sched, h.len, .inr ⟨rfl, fun i hi => ?_, k, undone_iff.2 ⟨k1, k2⟩, (tickOf_get e).symm, fun i hi => ?_⟩, t1, by omega⟩
    · rw [← hf.2]
      exact hs i (undone_iff.1 hi).1 (undone_iff.1 hi).2
    · exact ticks_le ho (k3 i (undone_iff.1 hi).1 (undone_iff.1 hi).2) (undone_iff.1 hi).1
end
end Go.Proofs.YtolbmkniafkeaaaDoor

/- Plain facts: a queue that picks the least by a key, of these the first, makes the one list that is so. No Go text is named here. -/
namespace Go.Proofs.YtolbmkniafkeaaaDoor

/-- A queue that picks the least: those that wait in it. -/
structure PickLaw {σ : Type} (Q : Que σ) (keys : List Int) (q0 : σ) (ok : σ → Prop) (items : σ → List Nat) : Prop where
  start : ok q0 ∧ items q0 = []
  rest : ∀ q, ok q → Q.rest q = (items q).length
  come : ∀ q k, ok q → (∀ i, i ∈ items q → i < k) → ok (Q.come q k) ∧ (items (Q.come q k)).length = (items q).length + 1 ∧ ∀ i, i ∈ items (Q.come q k) ↔ i ∈ items q ∨ i = k
  idle : ∀ q, ok q → Q.rest q = 0 → ok (Q.idle q) ∧ items (Q.idle q) = items q
  left : ∀ q, ok q → 0 < (items q).length → ok (Q.left q) ∧ (items (Q.left q)).length + 1 = (items q).length ∧ ∀ i, i ∈ items (Q.left q) ↔ i ∈ items q ∧ i ≠ Q.pick q
  pick : ∀ q, ok q → 0 < (items q).length → Q.pick q ∈ items q ∧ ∀ i, i ∈ items q → keys.getD (Q.pick q) 0 < keys.getD i 0 ∨ (keys.getD (Q.pick q) 0 = keys.getD i 0 ∧ Q.pick q ≤ i)

/-- What holds wherever a link comes to by such a queue. -/
structure Ranked {σ : Type} (ok : σ → Prop) (items : σ → List Nat) (per : Int) (ps : List Pk) (keys : List Int) (s : St σ) : Prop where
  good : ok s.q
  sched : Sched per ps keys s.out
  wait : ∀ i, i ∈ items s.q ↔ i < s.next ∧ isDone s.out i = false
  sent : ∀ i : Nat, isDone s.out i = true → i < s.next
  came : ∀ i, i < s.next → tickOf ps i ≤ s.now
  le : s.next ≤ ps.length
  now : s.now = lastFin s.out ∨ ((∀ i, Undone ps.length s.out i → lastFin s.out < tickOf ps i) ∧ ∃ i, Undone ps.length s.out i ∧ s.now = tickOf ps i ∧ ∀ k, Undone ps.length s.out k → tickOf ps i ≤ tickOf ps k)

theorem ranked {σ : Type} {Q : Que σ} {keys : List Int} {q0 : σ} {ok : σ → Prop} {items : σ → List Nat} {per : Int} {ps : List Pk} {s : St σ} (hQ : PickLaw Q keys q0 ok items) (hper : 0 ≤ per) (ho : OkPks ps) (h : Reaches Q per ps q0 s) : Ranked ok items per ps keys s := by
  refine h.by_steps (C := fun s => Ranked ok items per ps keys s) ?_ ?_ ?_ ?_
  · refine ⟨hQ.start.1, Sched.nil _ _ _, fun i => ?_, fun i h => ?_, fun i h => ?_, Nat.zero_le _, .inl rfl⟩
    · simp only [hQ.start.2]
      constructor
      · intro h; cases h
      · rintro ⟨h, -⟩; exact absurd h (Nat.not_lt_zero _)
    · simp [isDone] at h
    · exact absurd h (Nat.not_lt_zero _)
  · intro s p _ hp ht ih
    have hn : ∀ i, i ∈ items s.q → i < s.next := fun i hm => ((ih.wait _).1 hm).1
    obtain ⟨c1, -, c3⟩ := hQ.come s.q s.next ih.good hn
    have hlt := lt_of_get hp
    refine ⟨c1, ih.sched, fun i => ?_, fun i hi => Nat.lt_succ_of_lt (ih.sent i hi), fun i hi => ?_, hlt, ih.now⟩
    · rw [c3, ih.wait]
      simp only
      constructor
      · rintro (⟨a, b⟩ | rfl)
        · exact ⟨by omega, b⟩
        · refine ⟨by omega, ?_⟩
          cases hd : isDone s.out s.next with
          | false => rfl
          | true => have := ih.sent _ hd; omega
      · rintro ⟨a, b⟩
        rcases Nat.lt_or_ge i s.next with h' | h'
        · exact .inl ⟨h', b⟩
        · exact .inr (by omega)
    · simp only at hi ⊢
      rcases Nat.lt_or_ge i s.next with h' | h'
      · exact ih.came i h'
      · obtain rfl : i = s.next := by omega
        rw [tickOf_get hp]; exact ht
  · intro s p _ hall h0 hp ih
    rw [hQ.rest _ ih.good] at h0
    obtain ⟨l1, -, l3⟩ := hQ.left s.q ih.good h0
    obtain ⟨p1, p2⟩ := hQ.pick s.q ih.good h0
    obtain ⟨w1, w2⟩ := (ih.wait _).1 p1
    have hle := ih.le
    have hcome : ∀ i, Undone ps.length s.out i → tickOf ps i ≤ s.now → i ∈ items s.q := by
      intro i hi ht
      obtain ⟨u1, u2⟩ := undone_iff.1 hi
      refine (ih.wait i).2 ⟨?_, u2⟩
      rcases Nat.lt_or_ge i s.next with h' | h'
      · exact h'
      · have hnl : s.next < ps.length := by omega
        have e : ps[s.next]? = some ps[s.next] := List.getElem?_eq_getElem hnl
        have a1 := hall _ e
        have a2 := ticks_le ho h' u1
        rw [tickOf_get e] at a2
        omega
    have hbest : Best ps keys s.out s.now (Q.pick s.q) := ⟨undone_iff.2 ⟨by omega, w2⟩, ih.came _ w1, fun i hi ht => p2 i (hcome i hi ht)⟩
    have htick : Tick ps s.out s.now := by
      rcases ih.now with e | ⟨e1, e2⟩
      · exact .inl ⟨e, _, hbest.undone, hbest.came⟩
      · exact .inr ⟨e1, e2⟩
    have hpos : 0 ≤ per * p.size := Int.mul_nonneg hper (by have := okPk_true (ho.each _ p hp).1; omega)
    refine ⟨l1, ih.sched.snoc ⟨s.now, Q.pick s.q, htick, hbest, by rw [bytesOf_get hp]⟩, fun i => ?_, fun i hi => ?_, fun i hi => ?_, ih.le, .inl (by rw [lastFin_snoc])⟩
    · rw [l3, ih.wait]
      simp only
      rw [isDone_snoc]
      constructor
      · rintro ⟨⟨a, b⟩, c⟩
        refine ⟨a, ?_⟩
        rw [b, Bool.false_or]
        exact beq_eq_false_iff_ne.2 (fun e => c e.symm)
      · rintro ⟨a, b⟩
        rw [Bool.or_eq_false_iff] at b
        exact ⟨⟨a, b.1⟩, fun e => beq_eq_false_iff_ne.1 b.2 e.symm⟩
    · simp only at hi ⊢
      rw [isDone_snoc, Bool.or_eq_true] at hi
      rcases hi with hi | hi
      · exact ih.sent i hi
      · have := beq_iff_eq.1 hi
        omega
    · have := ih.came i hi
      simp only
      omega
  · intro s p _ hp ht h0 ih
    rw [hQ.rest _ ih.good] at h0
    have hnone : items s.q = [] := List.length_eq_zero_iff.1 h0
    have hge : ∀ i, Undone ps.length s.out i → s.next ≤ i := by
      intro i hi
      rcases Nat.lt_or_ge i s.next with h' | h'
      · have := (ih.wait i).2 ⟨h', (undone_iff.1 hi).2⟩
        rw [hnone] at this; cases this
      · exact h'
    have hmin : ∀ i, Undone ps.length s.out i → p.tick ≤ tickOf ps i := by
      intro i hi
      have := ticks_le ho (hge i hi) (undone_iff.1 hi).1
      rwa [tickOf_get hp] at this
    have hnow : s.now = lastFin s.out := by
      rcases ih.now with e | ⟨-, i, hi, e, -⟩
      · exact e
      · have := hmin i hi
        omega
    have hund : Undone ps.length s.out s.next := by
      refine undone_iff.2 ⟨lt_of_get hp, ?_⟩
      cases hd : isDone s.out s.next with
      | false => rfl
      | true => have := ih.sent _ hd; omega
    obtain ⟨i1, i2⟩ := hQ.idle s.q ih.good (by rw [hQ.rest _ ih.good]; exact h0)
    refine ⟨i1, ih.sched, fun i => by rw [i2]; exact ih.wait i, ih.sent, fun i hi => ?_, ih.le, .inr ⟨fun i hi => ?_, s.next, hund, (tickOf_get hp).symm, fun k hk => ?_⟩⟩
    · have := ih.came i hi
      simp only
      omega
    · have := hmin i hi
      show lastFin s.out < _
      omega
    · rw [tickOf_get hp]
      exact hmin k hk
theorem ranked_law {σ : Type} {Q : Que σ} {keys : List Int} {q0 : σ} {ok : σ → Prop} {items : σ → List Nat} {per : Int} {ps : List Pk} (hQ : PickLaw Q keys q0 ok items) (hper : 0 ≤ per) (ho : OkPks ps) : QueLaw Q per ps q0 where
  none := by rw [hQ.rest _ hQ.start.1, hQ.start.2]; rfl
  come := fun s hs _ => by
    have r := ranked hQ hper ho hs
    have hn : ∀ i, i ∈ items s.q → i < s.next := fun i hm => ((r.wait _).1 hm).1
    obtain ⟨c1, c2, -⟩ := hQ.come s.q s.next r.good hn
    rw [hQ.rest _ c1, hQ.rest _ r.good, c2]
  left := fun s hs h => by
    have r := ranked hQ hper ho hs
    rw [hQ.rest _ r.good] at h ⊢
    obtain ⟨l1, l2, -⟩ := hQ.left s.q r.good h
    rw [hQ.rest _ l1, l2]
  pick := fun s hs h => by
    have r := ranked hQ hper ho hs
    rw [hQ.rest _ r.good] at h
    exact ((r.wait _).1 (hQ.pick s.q r.good h).1).1
  idle := fun s hs h => by
    have r := ranked hQ hper ho hs
    obtain ⟨i1, i2⟩ := hQ.idle s.q r.good h
    rw [hQ.rest _ i1, i2, ← hQ.rest _ r.good]
    exact h
/-- At the end: the one list by these keys. -/
theorem ranked_end {σ : Type} {Q : Que σ} {keys : List Int} {q0 : σ} {ok : σ → Prop} {items : σ → List Nat} {per : Int} {ps : List Pk} {s : St σ} (hQ : PickLaw Q keys q0 ok items) (hper : 0 ≤ per) (ho : OkPks ps) (h : Reaches Q per ps q0 s) (hn : ¬ s.next < ps.length) (hr : Q.rest s.q = 0) : Sched per ps keys s.out ∧ s.out.length = ps.length := by
  have r := ranked hQ hper ho h
  have hc := h.count (ranked_law hQ hper ho)
  have := r.le
  exact ⟨r.sched, by omega⟩
end Go.Proofs.YtolbmkniafkeaaaDoor

/- Plain facts: where all come at once, nobody can be less late than by deadlines, after JACKSON. No Go text is named here. -/
namespace Go.Proofs.YtolbmkniafkeaaaDoor

def sumOf (f : Nat → Int) : List Nat → Int
  | [] => 0
  | a :: r => f a + sumOf f r
theorem sumOf_nonneg {f : Nat → Int} (hf : ∀ i, 0 ≤ f i) : ∀ l, 0 ≤ sumOf f l
  | [] => Int.le_refl _
  | a :: r => by
    have := sumOf_nonneg hf r
    have := hf a
    simp only [sumOf]
    omega
theorem sumOf_append (f : Nat → Int) (a b : List Nat) : sumOf f (a ++ b) = sumOf f a + sumOf f b := by
  induction a with
  | nil => simp [sumOf]
  | cons x r ih => simp only [List.cons_append, sumOf, ih]; omega
theorem sumOf_erase {f : Nat → Int} {a : Nat} : ∀ {l : List Nat}, a ∈ l → sumOf f l = f a + sumOf f (l.erase a) := by
  intro l
  induction l with
  | nil => intro h; cases h
  | cons x r ih =>
    intro h
    by_cases e : x = a
    · subst e; simp [sumOf]
    · have hm : a ∈ r := by
        rcases List.mem_cons.1 h with h | h
        · exact absurd h.symm e
        · exact h
      have he : (x :: r).erase a = x :: r.erase a := List.erase_cons_tail (by simpa using e)
      rw [he]
      simp only [sumOf, ih hm]
      omega
theorem sumOf_le {f : Nat → Int} (hf : ∀ i, 0 ≤ f i) : ∀ (A B : List Nat), A.Nodup → (∀ a, a ∈ A → a ∈ B) → sumOf f A ≤ sumOf f B := by
  intro A
  induction A with
  | nil => intro B _ _; exact sumOf_nonneg hf B
  | cons a r ih =>
    intro B hn hs
    obtain ⟨h1, h2⟩ := List.nodup_cons.1 hn
    have hb := hs a (List.mem_cons_self ..)
    rw [sumOf_erase hb]
    have := ih (B.erase a) h2 (fun x hx => (List.mem_erase_of_ne (fun e : x = a => h1 (by rw [← e]; exact hx))).2 (hs x (List.mem_cons_of_mem _ hx)))
    simp only [sumOf]
    omega
/-- The last of A in B: all of A are ahead of it, or are it. -/
theorem last_of (A : List Nat) (hne : A ≠ []) : ∀ (B : List Nat), (∀ a, a ∈ A → a ∈ B) → ∃ (m : Nat) (y : Nat), B[m]? = some y ∧ y ∈ A ∧ ∀ a, a ∈ A → a ∈ B.take (m + 1) := by
  intro B hs
  have key : ∀ d, d ≤ B.length → (∀ a, a ∈ A → a ∈ B.take d) → ∃ (m : Nat) (y : Nat), B[m]? = some y ∧ y ∈ A ∧ ∀ a, a ∈ A → a ∈ B.take (m + 1) := by
    intro d
    induction d with
    | zero =>
      intro _ h
      cases A with
      | nil => exact absurd rfl hne
      | cons a r => have := h a (List.mem_cons_self ..); simp at this
    | succ d ih =>
      intro hd h
      have e : B[d]? = some B[d] := List.getElem?_eq_getElem (by omega)
      by_cases hm : B[d] ∈ A
      · exact ⟨d, B[d], e, hm, h⟩
      · refine ih (by omega) (fun a ha => ?_)
        have := h a ha
        rw [List.take_add_one, e] at this
        rcases List.mem_append.1 this with h' | h'
        · exact h'
        · simp at h'
          subst h'
          exact absurd ha hm
  exact key B.length (Nat.le_refl _) (fun a ha => by rw [List.take_length]; exact hs a ha)
/-- JACKSON: of those up to one that is the latest by its key, the last one of any other order is as late. -/
theorem jackson {f key : Nat → Int} (hf : ∀ i, 0 ≤ f i) (A B : List Nat) (hA : A.Nodup) (hne : A ≠ []) (hs : ∀ a, a ∈ A → a ∈ B) (x : Nat) (hx : ∀ a, a ∈ A → key a ≤ key x) :
    ∃ (m : Nat) (y : Nat), B[m]? = some y ∧ sumOf f A - key x ≤ sumOf f (B.take (m + 1)) - key y := by
  obtain ⟨m, y, h1, h2, h3⟩ := last_of A hne B hs
  refine ⟨m, y, h1, ?_⟩
  have := sumOf_le hf A (B.take (m + 1)) hA h3
  have := hx y h2
  omega
end Go.Proofs.YtolbmkniafkeaaaDoor

/- Plain facts: numbers in the order in which they came, of which the first least one is picked. No Go text is named here. -/
namespace Go.Proofs.YtolbmkniafkeaaaDoor

/-- Of the first i the place of the least one, of these the first. -/
def firstLeast (key : Nat → Int) (q : List Nat) : Nat → Nat
  | 0 => 0
  | i + 1 => if key (q.getD i 0) < key (q.getD (firstLeast key q i) 0) then i else firstLeast key q i
theorem firstLeast_le (key : Nat → Int) (q : List Nat) : ∀ i, firstLeast key q i ≤ i - 1
  | 0 => Nat.le_refl _
  | i + 1 => by
    have := firstLeast_le key q i
    simp only [firstLeast]
    split <;> omega
theorem firstLeast_lt (key : Nat → Int) {q : List Nat} {i : Nat} (h : 0 < q.length) (hi : i ≤ q.length) : firstLeast key q i < q.length := by
  have := firstLeast_le key q i
  omega
theorem firstLeast_min (key : Nat → Int) (q : List Nat) : ∀ i j, j < i → key (q.getD (firstLeast key q i) 0) < key (q.getD j 0) ∨ (key (q.getD (firstLeast key q i) 0) = key (q.getD j 0) ∧ firstLeast key q i ≤ j) := by
  intro i
  induction i with
  | zero => intro j hj; omega
  | succ i ih =>
    intro j hj
    have hle := firstLeast_le key q i
    simp only [firstLeast]
    by_cases hc : key (q.getD i 0) < key (q.getD (firstLeast key q i) 0)
    · rw [if_pos hc]
      rcases Nat.lt_or_ge j i with h | h
      · have := ih j h
        omega
      · obtain rfl : j = i := by omega
        exact .inr ⟨rfl, Nat.le_refl _⟩
    · rw [if_neg hc]
      rcases Nat.lt_or_ge j i with h | h
      · exact ih j h
      · obtain rfl : j = i := by omega
        omega
/-- The place of the one that is picked. -/
def pickAt (key : Nat → Int) (q : List Nat) : Nat := firstLeast key q q.length
/-- Such a queue. -/
def waits (key : Nat → Int) : Que (List Nat) where
  come := fun q k => q ++ [k]
  pick := fun q => q.getD (pickAt key q) 0
  left := fun q => q.eraseIdx (pickAt key q)
  rest := List.length
theorem getD_lt {α : Type} {l : List α} {j : Nat} {d : α} (h : j < l.length) : l.getD j d = l[j] := by simp [List.getD, List.getElem?_eq_getElem h]
theorem rises_same {q : List Nat} (h : q.Pairwise (· < ·)) {i j : Nat} (hi : i < q.length) (hj : j < q.length) (e : q[i] = q[j]) : i = j := by
  have h1 := List.pairwise_iff_getElem.1 h i j hi hj
  have h2 := List.pairwise_iff_getElem.1 h j i hj hi
  omega
theorem pickAt_lt (key : Nat → Int) {q : List Nat} (h : 0 < q.length) : pickAt key q < q.length := firstLeast_lt key h (Nat.le_refl _)
theorem waits_law (keys : List Int) : PickLaw (waits fun i => keys.getD i 0) keys [] (fun q => q.Pairwise (· < ·)) (fun q => q) where
  start := ⟨List.Pairwise.nil, rfl⟩
  rest := fun q _ => rfl
  idle := fun q h _ => ⟨h, rfl⟩
  come := fun q k h hk => by
    refine ⟨List.pairwise_append.2 ⟨h, List.pairwise_singleton _ _, fun a ha b hb => ?_⟩, by simp [waits], fun i => by simp [waits]⟩
    rw [List.mem_singleton] at hb
    subst hb
    exact hk a ha
  left := fun q h h0 => by
    have hlt := pickAt_lt (fun i => keys.getD i 0) h0
    refine ⟨List.Pairwise.sublist (List.eraseIdx_sublist ..) h, ?_, fun i => ?_⟩
    · show (q.eraseIdx (pickAt _ q)).length + 1 = _
      rw [List.length_eraseIdx, if_pos hlt]
      omega
    · show i ∈ q.eraseIdx (pickAt _ q) ↔ i ∈ q ∧ i ≠ q.getD (pickAt _ q) 0
      have hg : q.getD (pickAt (fun i => keys.getD i 0) q) 0 = q[pickAt (fun i => keys.getD i 0) q]'hlt := getD_lt hlt
      rw [hg, List.mem_eraseIdx_iff_getElem]
      constructor
      · rintro ⟨j, hj, hne, rfl⟩
        exact ⟨List.getElem_mem _, fun e => hne (rises_same h _ _ e)⟩
      · rintro ⟨hm, hne⟩
        obtain ⟨j, hj, rfl⟩ := List.getElem_of_mem hm
        exact ⟨j, hj, fun e => hne (by subst e; rfl), rfl⟩
  pick := fun q h h0 => by
    have hlt := pickAt_lt (fun i => keys.getD i 0) h0
    have hg : q.getD (pickAt (fun i => keys.getD i 0) q) 0 = q[pickAt (fun i => keys.getD i 0) q]'hlt := getD_lt hlt
    refine ⟨?_, fun i hi => ?_⟩
    · show q.getD (pickAt _ q) 0 ∈ q
      rw [hg]
      exact List.getElem_mem _
    · obtain ⟨j, hj, rfl⟩ := List.getElem_of_mem hi
      show keys.getD (q.getD (pickAt _ q) 0) 0 < _ ∨ (keys.getD (q.getD (pickAt _ q) 0) 0 = _ ∧ q.getD (pickAt _ q) 0 ≤ _)
      have hm := firstLeast_min (fun i => keys.getD i 0) q q.length j hj
      have hgj : q.getD j 0 = q[j] := getD_lt hj
      simp only [hgj] at hm
      rcases hm with hm | ⟨hm, hle⟩
      · exact .inl hm
      · refine .inr ⟨hm, ?_⟩
        rw [hg]
        rcases Nat.lt_or_eq_of_le hle with h' | h'
        · exact Nat.le_of_lt (List.pairwise_iff_getElem.1 h _ _ hlt hj h')
        · have e : pickAt (fun i => keys.getD i 0) q = j := h'
          simp only [e]
          exact Nat.le_refl _
end Go.Proofs.YtolbmkniafkeaaaDoor

/- Plain facts: by how much what was sent is late; where all come at once, nobody can be less late than by deadlines. No Go text is named here. -/
namespace Go.Proofs.YtolbmkniafkeaaaDoor

/-- The flow of a packet, by its number. -/
def flowOf (ps : List Pk) (j : Nat) : Nat := match ps[j]? with | some p => p.flow.toNat | none => 0
theorem flowOf_get {ps : List Pk} {j : Nat} {p : Pk} (h : ps[j]? = some p) : flowOf ps j = p.flow.toNat := by simp [flowOf, h]
/-- What a flow's numbers tell of a packet. -/
def ofFlow (ps : List Pk) (ns : List Int) (j : Nat) : Int := ns.getD (flowOf ps j) 0
/-- By how much one is late. -/
def lateAt (ps : List Pk) (dues : List Int) (x : Sn) : Int := x.fin - tickOf ps x.num.toNat - ofFlow ps dues x.num.toNat
/-- By how much those are late, the first i of them. -/
def lateTo (ps : List Pk) (dues : List Int) (l : List Sn) : Nat → Int
  | 0 => 0
  | i + 1 => match l[i]? with | some x => max (lateTo ps dues l i) (lateAt ps dues x) | none => lateTo ps dues l i
def lateAll (ps : List Pk) (dues : List Int) (l : List Sn) : Int := lateTo ps dues l l.length
theorem lateTo_succ {ps : List Pk} {dues : List Int} {l : List Sn} {i : Nat} {x : Sn} (h : l[i]? = some x) : lateTo ps dues l (i + 1) = max (lateTo ps dues l i) (lateAt ps dues x) := by simp only [lateTo, h]
theorem lateTo_nonneg (ps : List Pk) (dues : List Int) (l : List Sn) : ∀ i, 0 ≤ lateTo ps dues l i
  | 0 => Int.le_refl _
  | i + 1 => by
    have := lateTo_nonneg ps dues l i
    cases h : l[i]? with
    | none => simp only [lateTo, h]; exact this
    | some x => rw [lateTo_succ h]; omega
theorem lateTo_ge {ps : List Pk} {dues : List Int} {l : List Sn} : ∀ (i k : Nat) (x : Sn), k < i → l[k]? = some x → lateAt ps dues x ≤ lateTo ps dues l i := by
  intro i
  induction i with
  | zero => intro k x h; omega
  | succ i ih =>
    intro k x hk hx
    rcases Nat.lt_or_ge k i with h | h
    · have := ih k x h hx
      cases hi : l[i]? with
      | none => simp only [lateTo, hi]; exact this
      | some y => rw [lateTo_succ hi]; omega
    · obtain rfl : k = i := by omega
      rw [lateTo_succ hx]
      omega
theorem lateTo_le {ps : List Pk} {dues : List Int} {l : List Sn} {c : Int} (h0 : 0 ≤ c) (h : ∀ (k : Nat) x, l[k]? = some x → lateAt ps dues x ≤ c) : ∀ i, lateTo ps dues l i ≤ c
  | 0 => h0
  | i + 1 => by
    have := lateTo_le h0 h i
    cases hi : l[i]? with
    | none => simp only [lateTo, hi]; exact this
    | some y =>
      rw [lateTo_succ hi]
      have := h i y hi
      omega

/-- Keys by ranks, and by deadlines. -/
def rankKeys (ps : List Pk) (ns : List Int) : List Int := (List.range ps.length).map (ofFlow ps ns)
def dueKeys (ps : List Pk) (ns : List Int) : List Int := (List.range ps.length).map fun i => tickOf ps i + ofFlow ps ns i
theorem rankKeys_length (ps : List Pk) (ns : List Int) : (rankKeys ps ns).length = ps.length := by simp [rankKeys]
theorem dueKeys_length (ps : List Pk) (ns : List Int) : (dueKeys ps ns).length = ps.length := by simp [dueKeys]
theorem rankKeys_get {ps : List Pk} {ns : List Int} {i : Nat} (h : i < ps.length) : (rankKeys ps ns).getD i 0 = ofFlow ps ns i := by
  rw [getD_lt (by rw [rankKeys_length]; exact h)]
  simp [rankKeys]
theorem dueKeys_get {ps : List Pk} {ns : List Int} {i : Nat} (h : i < ps.length) : (dueKeys ps ns).getD i 0 = tickOf ps i + ofFlow ps ns i := by
  rw [getD_lt (by rw [dueKeys_length]; exact h)]
  simp [dueKeys]

/-- The numbers of those that were sent. -/
def numsOf (l : List Sn) : List Nat := l.map fun x => x.num.toNat
theorem numsOf_take (l : List Sn) (k : Nat) : numsOf (l.take k) = (numsOf l).take k := by simp [numsOf]
/-- One behind the other from tick T on. -/
def InRow (per : Int) (ps : List Pk) (T : Int) (l : List Sn) : Prop :=
  ∀ (k : Nat) x, l[k]? = some x → ∃ b : Nat, b < ps.length ∧ x = ⟨b, T + sumOf (fun i => per * bytesOf ps i) (numsOf (l.take k)), T + sumOf (fun i => per * bytesOf ps i) (numsOf (l.take k)) + per * bytesOf ps b⟩
theorem InRow.fin {per : Int} {ps : List Pk} {T : Int} {l : List Sn} (h : InRow per ps T l) {k : Nat} {x : Sn} (hx : l[k]? = some x) : x.fin = T + sumOf (fun i => per * bytesOf ps i) (numsOf (l.take (k + 1))) := by
  obtain ⟨b, -, rfl⟩ := h k x hx
  rw [List.take_add_one, hx]
  simp only [numsOf, List.map_append, Option.toList, List.map_cons, List.map_nil, sumOf_append, sumOf, Int.toNat_natCast, Int.add_zero, Int.add_assoc]
theorem InRow.last {per : Int} {ps : List Pk} {T : Int} {l : List Sn} (h : InRow per ps T l) (h0 : l ≠ []) : lastFin l = T + sumOf (fun i => per * bytesOf ps i) (numsOf l) := by
  have hl : 0 < l.length := List.length_pos_iff.2 h0
  have hx : l[l.length - 1]? = some l[l.length - 1] := List.getElem?_eq_getElem (by omega)
  have e := h.fin hx
  rw [show l.length - 1 + 1 = l.length by omega, List.take_length] at e
  rw [lastFin, List.getLast?_eq_getElem?, hx]
  exact e
theorem InRow.nil (per : Int) (ps : List Pk) (T : Int) : InRow per ps T [] := fun k x h => by simp at h
theorem InRow.snoc {per : Int} {ps : List Pk} {T : Int} {l : List Sn} (h : InRow per ps T l) {b : Nat} (hb : b < ps.length) : InRow per ps T (l ++ [⟨b, T + sumOf (fun i => per * bytesOf ps i) (numsOf l), T + sumOf (fun i => per * bytesOf ps i) (numsOf l) + per * bytesOf ps b⟩]) := by
  intro k x hk
  have hl := lt_of_get hk
  rw [List.length_append, List.length_cons, List.length_nil] at hl
  rcases Nat.lt_or_ge k l.length with h1 | h1
  · rw [List.getElem?_append_left h1] at hk
    rw [List.take_append_of_le_length (by omega)]
    exact h k x hk
  · obtain rfl : k = l.length := by omega
    rw [List.getElem?_append_right (Nat.le_refl _)] at hk
    simp at hk
    subst hk
    rw [List.take_append_of_le_length (Nat.le_refl _), List.take_length]
    exact ⟨b, hb, rfl⟩
theorem InRow.take {per : Int} {ps : List Pk} {T : Int} {l : List Sn} (h : InRow per ps T l) (n : Nat) : InRow per ps T (l.take n) := by
  intro k x hk
  have hl := lt_of_get hk
  rw [List.length_take] at hl
  rw [List.getElem?_take, if_pos (by omega)] at hk
  obtain ⟨b, hb, e⟩ := h k x hk
  refine ⟨b, hb, ?_⟩
  rw [List.take_take, show min k n = k by omega]
  exact e

theorem bytes_nonneg {ps : List Pk} (ho : OkPks ps) (i : Nat) : 0 ≤ bytesOf ps i := by
  cases h : ps[i]? with
  | none => simp [bytesOf, h]
  | some p =>
    rw [bytesOf_get h]
    have := okPk_true (ho.each _ p h).1
    omega

section
variable {per : Int} {ps : List Pk} {keys : List Int} {T : Int} {l : List Sn}
/-- Where all come at once they are sent one behind the other. -/
theorem sched_row (ho : OkPks ps) (hper : 0 ≤ per) (hT : ∀ i, i < ps.length → tickOf ps i = T) (h0 : 0 ≤ T) (h : Sched per ps keys l) : InRow per ps T l := by
  have key : ∀ n, n ≤ l.length → InRow per ps T (l.take n) := by
    intro n
    induction n with
    | zero => intro _; rw [List.take_zero]; exact InRow.nil _ _ _
    | succ n ih =>
      intro hn
      have hr := ih (by omega)
      have hx : l[n]? = some l[n] := List.getElem?_eq_getElem (by omega)
      obtain ⟨t, b, ht, hb, e⟩ := h n _ hx
      have hbl := hb.undone.1
      have ett : t = T + sumOf (fun i => per * bytesOf ps i) (numsOf (l.take n)) := by
        have hpos := sumOf_nonneg (f := fun i => per * bytesOf ps i) (fun i => Int.mul_nonneg hper (bytes_nonneg ho i)) (numsOf (l.take n))
        by_cases hn0 : l.take n = []
        · rw [hn0] at ht hb ⊢
          simp only [numsOf, List.map_nil, sumOf]
          have hc := hb.came
          rw [hT b hbl] at hc
          rcases ht with ⟨e1, -⟩ | ⟨-, i, hi, e1, -⟩
          · rw [lastFin_nil] at e1; omega
          · rw [hT i hi.1] at e1; omega
        · have hlast := hr.last hn0
          rcases ht with ⟨e1, -⟩ | ⟨e1, -⟩
          · rw [e1, hlast]
          · have := e1 b hb.undone
            rw [hT b hbl, hlast] at this
            omega
      rw [List.take_add_one, hx, e, ett]
      exact hr.snoc hbl
  have := key l.length (Nat.le_refl _)
  rwa [List.take_length] at this
theorem sched_nodup (h : Sched per ps keys l) : (numsOf l).Nodup := by
  refine List.pairwise_iff_getElem.2 fun i j hi hj hij e => ?_
  simp only [numsOf, List.length_map] at hi hj
  have hx : l[j]? = some l[j] := List.getElem?_eq_getElem hj
  have hy : l[i]? = some l[i] := List.getElem?_eq_getElem hi
  obtain ⟨t, b, -, hb, e2⟩ := h j _ hx
  obtain ⟨u, c, -, hc, e3⟩ := h i _ hy
  simp only [numsOf, List.getElem_map] at e
  rw [e2, e3] at e
  simp only [Int.toNat_natCast] at e
  have hm : l[i] ∈ l.take j := List.mem_iff_getElem?.2 ⟨i, by rw [List.getElem?_take, if_pos hij]; exact hy⟩
  have := hb.undone.2 _ hm
  rw [e3] at this
  simp only at this
  omega
/-- Keys never fall where all come at once. -/
theorem sched_keys (hT : ∀ i, i < ps.length → tickOf ps i = T) (h : Sched per ps keys l) {i j : Nat} {x y : Sn} (hij : i ≤ j) (hx : l[i]? = some x) (hy : l[j]? = some y) : keys.getD x.num.toNat 0 ≤ keys.getD y.num.toNat 0 := by
  obtain ⟨t, b, -, hb, rfl⟩ := h i _ hx
  obtain ⟨u, c, -, hc, rfl⟩ := h j _ hy
  have hcl := hc.undone.1
  have hu : Undone ps.length (l.take i) c := ⟨hcl, fun z hz => hc.undone.2 z (List.mem_of_mem_take (i := i) (by rw [List.take_take, show min i j = i by omega]; exact hz))⟩
  have := hb.least c hu (by rw [hT c hcl, ← hT b hb.undone.1]; exact hb.came)
  simp only [Int.toNat_natCast]
  omega
/-- JACKSON. -/
theorem jackson_late {dues : List Int} {os : List Sn} (ho : OkPks ps) (hper : 0 ≤ per) (hT : ∀ i, i < ps.length → tickOf ps i = T) (h0 : 0 ≤ T) (hl : Sched per ps (dueKeys ps dues) l) (hr : InRow per ps T os) (hall : ∀ i, i < ps.length → isDone os i = true) :
    lateAll ps dues l ≤ lateAll ps dues os := by
  have hrl := sched_row ho hper hT h0 hl
  refine lateTo_le (lateTo_nonneg _ _ _ _) (fun k x hx => ?_) _
  obtain ⟨b, hb, ex⟩ := hrl k x hx
  have hbx : x.num.toNat = b := by rw [ex]; simp
  have hA : ∀ a, a ∈ numsOf (l.take (k + 1)) → a < ps.length ∧ tickOf ps a + ofFlow ps dues a ≤ tickOf ps b + ofFlow ps dues b := by
    intro a ha
    obtain ⟨y, hy, rfl⟩ := List.mem_map.1 ha
    obtain ⟨i, hi⟩ := List.mem_iff_getElem?.1 hy
    rw [List.getElem?_take] at hi
    by_cases hik : i < k + 1
    · rw [if_pos hik] at hi
      obtain ⟨c, hc, ey⟩ := hrl i y hi
      have hcy : y.num.toNat = c := by rw [ey]; simp
      have := sched_keys hT hl (by omega : i ≤ k) hi hx
      rw [hbx, hcy, dueKeys_get hc, dueKeys_get hb] at this
      rw [hcy]
      exact ⟨hc, this⟩
    · rw [if_neg hik] at hi; cases hi
  have hnd : (numsOf (l.take (k + 1))).Nodup := by rw [numsOf_take]; exact List.Pairwise.sublist (List.take_sublist ..) (sched_nodup hl)
  have hne : numsOf (l.take (k + 1)) ≠ [] := by
    have := lt_of_get hx
    intro e
    have e2 : (numsOf (l.take (k + 1))).length = 0 := by rw [e]; rfl
    rw [numsOf, List.length_map, List.length_take] at e2
    omega
  have hsub : ∀ a, a ∈ numsOf (l.take (k + 1)) → a ∈ numsOf os := by
    intro a ha
    have := hall a (hA a ha).1
    simp only [isDone, List.any_eq_true, beq_iff_eq] at this
    obtain ⟨y, hy, e⟩ := this
    exact List.mem_map.2 ⟨y, hy, by rw [e]; simp⟩
  obtain ⟨m, y, hm, hj⟩ := jackson (f := fun i => per * bytesOf ps i) (key := fun i => tickOf ps i + ofFlow ps dues i) (fun i => Int.mul_nonneg hper (bytes_nonneg ho i)) _ (numsOf os) hnd hne hsub b (fun a ha => (hA a ha).2)
  simp only [numsOf, List.getElem?_map] at hm
  cases hz : os[m]? with
  | none => rw [hz] at hm; cases hm
  | some z =>
    rw [hz] at hm
    have hzy : z.num.toNat = y := by simpa using hm
    have h1 := lateTo_ge (ps := ps) (dues := dues) os.length m z (lt_of_get hz) hz
    have h2 := hr.fin hz
    have h3 := hrl.fin hx
    rw [← numsOf_take] at hj
    simp only [lateAt, hzy] at h1
    simp only [lateAt, hbx]
    omega
end
end Go.Proofs.YtolbmkniafkeaaaDoor

/- Plain facts: what was sent by keys: numbers that there are, ticks that are not too great. No Go text is named here. -/
namespace Go.Proofs.YtolbmkniafkeaaaDoor

section
variable {per : Int} {ps : List Pk} {keys : List Int} {l : List Sn}
theorem tick_in {ps : List Pk} (ho : OkPks ps) (i : Nat) : 0 ≤ tickOf ps i ∧ tickOf ps i ≤ 1099511627776 := by
  cases h : ps[i]? with
  | none => simp [tickOf, h]
  | some p =>
    rw [tickOf_get h]
    have := okPk_true (ho.each _ p h).1
    omega
theorem bytes_in {ps : List Pk} (ho : OkPks ps) (i : Nat) : 0 ≤ bytesOf ps i ∧ bytesOf ps i ≤ 1500 := by
  cases h : ps[i]? with
  | none => simp [bytesOf, h]
  | some p =>
    rw [bytesOf_get h]
    have := okPk_true (ho.each _ p h).1
    omega
theorem sched_last (ho : OkPks ps) (h1 : 1 ≤ per) (h2 : per ≤ 1000) (h : Sched per ps keys l) : ∀ k, k ≤ l.length → 0 ≤ lastFin (l.take k) ∧ lastFin (l.take k) ≤ 1099511627776 + 1500000 * k := by
  intro k
  induction k with
  | zero => intro _; rw [List.take_zero, lastFin_nil]; omega
  | succ k ih =>
    intro hk
    have hx : l[k]? = some l[k] := List.getElem?_eq_getElem (by omega)
    obtain ⟨t, b, ht, hb, e⟩ := h k _ hx
    have := ih (by omega)
    rw [List.take_add_one, hx]
    simp only [Option.toList]
    rw [e, lastFin_snoc]
    simp only
    have hbb := bytes_in ho b
    have a1 : 0 ≤ per * bytesOf ps b := Int.mul_nonneg (by omega) hbb.1
    have a2 : per * bytesOf ps b ≤ 1000 * 1500 := Int.mul_le_mul h2 hbb.2 hbb.1 (by omega)
    have a3 : 0 ≤ t ∧ t ≤ 1099511627776 + 1500000 * k := by
      rcases ht with ⟨e1, -⟩ | ⟨-, i, -, e1, -⟩
      · omega
      · have := tick_in ho i; omega
    omega
/-- One of what was sent. -/
structure SentIn (per : Int) (ps : List Pk) (k : Nat) (x : Sn) : Prop where
  num : ∃ b : Nat, b < ps.length ∧ x.num = b ∧ tickOf ps b ≤ x.beg ∧ x.fin = x.beg + per * bytesOf ps b
  beg : 0 ≤ x.beg ∧ x.beg ≤ 1099511627776 + 1500000 * k
  fin : x.beg ≤ x.fin ∧ x.fin ≤ 1099511627776 + 1500000 * (k + 1)
theorem sched_in (ho : OkPks ps) (h1 : 1 ≤ per) (h2 : per ≤ 1000) (h : Sched per ps keys l) {k : Nat} {x : Sn} (hx : l[k]? = some x) : SentIn per ps k x := by
  have hl := sched_last ho h1 h2 h k (by have := lt_of_get hx; omega)
  obtain ⟨t, b, ht, hb, rfl⟩ := h k _ hx
  have hbb := bytes_in ho b
  have a1 : 0 ≤ per * bytesOf ps b := Int.mul_nonneg (by omega) hbb.1
  have a2 : per * bytesOf ps b ≤ 1000 * 1500 := Int.mul_le_mul h2 hbb.2 hbb.1 (by omega)
  have a3 : 0 ≤ t ∧ t ≤ 1099511627776 + 1500000 * k := by
    rcases ht with ⟨e1, -⟩ | ⟨-, i, -, e1, -⟩
    · omega
    · have := tick_in ho i; omega
  exact ⟨⟨b, hb.undone.1, rfl, hb.came, rfl⟩, a3, by simp only; omega⟩
theorem row_in {T : Int} (ho : OkPks ps) (h1 : 1 ≤ per) (h2 : per ≤ 1000) (hT0 : 0 ≤ T) (hT1 : T ≤ 1099511627776) (hT : ∀ i, i < ps.length → tickOf ps i = T) (h : InRow per ps T l) {k : Nat} {x : Sn} (hx : l[k]? = some x) : SentIn per ps k x := by
  have hs : ∀ k, 0 ≤ sumOf (fun i => per * bytesOf ps i) (numsOf (l.take k)) ∧ sumOf (fun i => per * bytesOf ps i) (numsOf (l.take k)) ≤ 1500000 * k := by
    intro k
    induction k with
    | zero => rw [List.take_zero]; exact ⟨Int.le_refl _, Int.le_refl _⟩
    | succ k ih =>
      cases hy : l[k]? with
      | none =>
        rw [List.take_add_one, hy]
        simp only [Option.toList, List.append_nil]
        omega
      | some y =>
        rw [List.take_add_one, hy]
        simp only [Option.toList, numsOf, List.map_append, List.map_cons, List.map_nil, sumOf_append, sumOf, Int.add_zero]
        simp only [numsOf] at ih
        have hbb := bytes_in ho y.num.toNat
        have a1 : 0 ≤ per * bytesOf ps y.num.toNat := Int.mul_nonneg (by omega) hbb.1
        have a2 : per * bytesOf ps y.num.toNat ≤ 1000 * 1500 := Int.mul_le_mul h2 hbb.2 hbb.1 (by omega)
        omega
  have hsk := hs k
  obtain ⟨b, hb, rfl⟩ := h k x hx
  have hbb := bytes_in ho b
  have a1 : 0 ≤ per * bytesOf ps b := Int.mul_nonneg (by omega) hbb.1
  have a2 : per * bytesOf ps b ≤ 1000 * 1500 := Int.mul_le_mul h2 hbb.2 hbb.1 (by omega)
  exact ⟨⟨b, hb, rfl, by rw [hT b hb]; simp only; omega, rfl⟩, by simp only; omega, by simp only; omega⟩
end
end Go.Proofs.YtolbmkniafkeaaaDoor
