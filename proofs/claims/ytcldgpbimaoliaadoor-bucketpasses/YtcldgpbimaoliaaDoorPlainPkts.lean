/- Plain facts on packets: what fits a curve, and what a bucket passes. No Go text is named here. -/
import Derived.Test.YtcldgpbimaoliaaDoorPlainBucket
namespace Go.Proofs.YtcldgpbimaoliaaDoor

structure Pk where
  flow : Int
  size : Int
  tick : Int

def okPk (p : Pk) : Bool := decide (0 ≤ p.flow ∧ p.flow < 8 ∧ 1 ≤ p.size ∧ p.size ≤ 1500 ∧ 0 ≤ p.tick ∧ p.tick ≤ 1099511627776)
theorem okPk_true {p : Pk} (h : okPk p = true) : 0 ≤ p.flow ∧ p.flow < 8 ∧ 1 ≤ p.size ∧ p.size ≤ 1500 ∧ 0 ≤ p.tick ∧ p.tick ≤ 1099511627776 := of_decide_eq_true h
theorem okPk_mk {p : Pk} (h : 0 ≤ p.flow ∧ p.flow < 8 ∧ 1 ≤ p.size ∧ p.size ≤ 1500 ∧ 0 ≤ p.tick ∧ p.tick ≤ 1099511627776) : okPk p = true := decide_eq_true h
/-- The tick of the packet ahead. -/
def ahead (ps : List Pk) : Nat → Int
  | 0 => 0
  | i + 1 => match ps[i]? with | some p => p.tick | none => 0
/-- Right packets. -/
structure OkPks (ps : List Pk) : Prop where
  few : ps.length ≤ 300
  each : ∀ i p, ps[i]? = some p → okPk p = true ∧ ahead ps i ≤ p.tick

theorem okPks_none : OkPks [] := ⟨by simp, fun i p h => by simp at h⟩

/-- Bytes of packets. -/
def total : List Pk → Int
  | [] => 0
  | p :: r => p.size + total r
theorem total_snoc (ps : List Pk) (p : Pk) : total (ps ++ [p]) = total ps + p.size := by
  induction ps with
  | nil => simp [total]
  | cons q r ih => simp [total, ih]; omega
/-- Of each end of a list of packets: its first tick, its bytes. -/
def ends : List Pk → List (Int × Int)
  | [] => []
  | p :: r => (p.tick, total (p :: r)) :: ends r
theorem ends_snoc (ps : List Pk) (p : Pk) (a s : Int) : (a, s) ∈ ends (ps ++ [p]) ↔ (a, s - p.size) ∈ ends ps ∨ (a = p.tick ∧ s = p.size) := by
  induction ps with
  | nil => simp [ends, total]
  | cons q r ih =>
    show (a, s) ∈ (q.tick, total (q :: (r ++ [p]))) :: ends (r ++ [p]) ↔ (a, s - p.size) ∈ (q.tick, total (q :: r)) :: ends r ∨ _
    have ht : total (q :: (r ++ [p])) = total (q :: r) + p.size := total_snoc (q :: r) p
    simp only [List.mem_cons, Prod.mk.injEq, ht, ih]
    constructor
    · rintro (⟨h1, h2⟩ | h | h)
      · exact .inl (.inl ⟨h1, by omega⟩)
      · exact .inl (.inr h)
      · exact .inr h
    · rintro ((⟨h1, h2⟩ | h) | h)
      · exact .inl ⟨h1, by omega⟩
      · exact .inr (.inl h)
      · exact .inr (.inr h)
/-- Does the last packet fit behind those ahead? -/
def lastFits (ls : List (Int × Int)) (ps : List Pk) (p : Pk) : Prop := ∀ a s, (a, s) ∈ ends (ps ++ [p]) → s ≤ curveAt (p.tick - a) ls

/-- What a run from a tick on, with so many bytes behind it, asks of a curve. -/
def startB (ls : List (Int × Int)) (a c : Int) : List Pk → Bool
  | [] => true
  | p :: r => decide (c + p.size ≤ curveAt (p.tick - a) ls) && startB ls a (c + p.size) r
def fitsB (ls : List (Int × Int)) : List Pk → Bool
  | [] => true
  | p :: r => startB ls p.tick 0 (p :: r) && fitsB ls r
theorem startB_snoc (ls : List (Int × Int)) (a : Int) (ps : List Pk) (p : Pk) : ∀ c, startB ls a c (ps ++ [p]) = true ↔ startB ls a c ps = true ∧ c + total (ps ++ [p]) ≤ curveAt (p.tick - a) ls := by
  induction ps with
  | nil => intro c; simp [startB, total]
  | cons q r ih =>
    intro c
    have ht : total (q :: r ++ [p]) = q.size + total (r ++ [p]) := rfl
    simp only [List.cons_append, startB, Bool.and_eq_true, ih] at *
    rw [ht, Int.add_assoc, and_assoc]
theorem fitsB_snoc (ls : List (Int × Int)) (ps : List Pk) (p : Pk) : fitsB ls (ps ++ [p]) = true ↔ fitsB ls ps = true ∧ lastFits ls ps p := by
  induction ps with
  | nil => simp [fitsB, startB, lastFits, ends, total]
  | cons q r ih =>
    have h1 := startB_snoc ls q.tick (q :: r) p 0
    simp only [List.cons_append] at h1
    simp only [List.cons_append, fitsB, Bool.and_eq_true, h1, ih]
    have h2 : lastFits ls (q :: r) p ↔ 0 + total (q :: (r ++ [p])) ≤ curveAt (p.tick - q.tick) ls ∧ lastFits ls r p := by
      show (∀ a s, (a, s) ∈ (q.tick, total (q :: (r ++ [p]))) :: ends (r ++ [p]) → _) ↔ _
      simp only [List.mem_cons, Prod.mk.injEq, Int.zero_add]
      constructor
      · intro h
        exact ⟨h _ _ (.inl ⟨rfl, rfl⟩), fun a s hm => h a s (.inr hm)⟩
      · rintro ⟨h, h'⟩ a s (⟨rfl, rfl⟩ | hm)
        · exact h
        · exact h' a s hm
    rw [h2]
    exact ⟨fun ⟨⟨a, b⟩, c, d⟩ => ⟨⟨a, c⟩, b, d⟩, fun ⟨⟨a, c⟩, b, d⟩ => ⟨⟨a, b⟩, c, d⟩⟩

theorem le_curveAt (t s : Int) (ls : List (Int × Int)) (h : 1 ≤ ls.length) : s ≤ curveAt t ls ↔ ∀ p, p ∈ ls → s ≤ lineAt t p.1 p.2 := by
  constructor
  · intro hs p hp
    have := curveAt_le t ls p hp
    omega
  · intro hs
    obtain ⟨p, hp, e⟩ := curveAt_is t ls h
    rw [e]
    exact hs p hp
theorem lastFits_lines (ls : List (Int × Int)) (h : 1 ≤ ls.length) (ps : List Pk) (p : Pk) : lastFits ls ps p ↔ ∀ q, q ∈ ls → lastFits [q] ps p := by
  have h1 : ∀ q : Int × Int, ∀ t s, s ≤ curveAt t [q] ↔ s ≤ lineAt t q.1 q.2 := fun q t s => by simp [curveAt, leastAt]
  simp only [lastFits, le_curveAt _ _ ls h, h1]
  exact ⟨fun H q hq a s hm => H a s hm q hq, fun H a s hm q hq => H q hq a s hm⟩

/-- What a bucket of a line has, when so many packets have passed it. -/
structure Passed (q : Int × Int) (ps : List Pk) (b : Bk) : Prop where
  most : b.most = q.1 * 1000
  rate : b.rate = q.2
  lev : ∀ t v, b.last ≤ t → (v ≤ b.lev t ↔ v ≤ q.1 * 1000 ∧ ∀ a s, (a, s) ∈ ends ps → v + s * 1000 ≤ q.1 * 1000 + q.2 * (t - a))
theorem passed_none (q : Int × Int) (h : 0 ≤ q.2) : Passed q [] (bkOf q) := by
  refine ⟨rfl, rfl, fun t v ht => ?_⟩
  have := Int.mul_nonneg h (show 0 ≤ t - 0 by simpa [bkOf] using ht)
  simp only [Bk.lev, bkOf, ends] at *
  constructor
  · intro hv; exact ⟨by omega, fun a s hm => by cases hm⟩
  · intro hv; omega
theorem Passed.fits {q : Int × Int} {ps : List Pk} {b : Bk} (h : Passed q ps b) (p : Pk) (hp : b.last ≤ p.tick) : p.size * 1000 ≤ b.lev p.tick ↔ lastFits [q] ps p := by
  rw [h.lev _ _ hp]
  have h1 : ∀ t s, s ≤ curveAt t [q] ↔ s * 1000 ≤ q.1 * 1000 + q.2 * t := fun t s => by simp [curveAt, leastAt, lineAt]; omega
  simp only [lastFits, h1, ends_snoc]
  constructor
  · rintro ⟨h2, h3⟩ a s (hm | ⟨rfl, rfl⟩)
    · have := h3 a _ hm; omega
    · simp; omega
  · intro H
    refine ⟨by have := H p.tick p.size (.inr ⟨rfl, rfl⟩); simp at this; omega, fun a s hm => ?_⟩
    have := H a (s + p.size) (.inl (by simpa using hm))
    omega
/-- It does not pass: nothing is taken. -/
theorem Passed.wait {q : Int × Int} {ps : List Pk} {b : Bk} (h : Passed q ps b) (r0 : 0 ≤ b.rate) (t n : Int) (ht : b.last ≤ t) (hn : ¬ n * 1000 ≤ b.lev t) : Passed q ps (b.take t n) := by
  have e : b.take t n = ⟨b.most, b.rate, b.lev t, t⟩ := by unfold Bk.take; rw [if_neg hn]
  refine ⟨by rw [e]; exact h.most, by rw [e]; exact h.rate, fun s v hs => ?_⟩
  rw [e] at hs ⊢
  simp only at hs
  rw [← h.lev s v (by omega)]
  have h1 := mul_split b.rate s t b.last
  have h2 := Int.mul_nonneg r0 (show 0 ≤ s - t by omega)
  simp only [Bk.lev]
  omega
/-- It passes. -/
theorem Passed.pass {q : Int × Int} {ps : List Pk} {b : Bk} (h : Passed q ps b) (r0 : 0 ≤ b.rate) (p : Pk) (ht : b.last ≤ p.tick) (hn : p.size * 1000 ≤ b.lev p.tick) : Passed q (ps ++ [p]) (b.take p.tick p.size) := by
  have e : b.take p.tick p.size = ⟨b.most, b.rate, b.lev p.tick - p.size * 1000, p.tick⟩ := by unfold Bk.take; rw [if_pos hn]
  refine ⟨by rw [e]; exact h.most, by rw [e]; exact h.rate, fun s v hs => ?_⟩
  rw [e] at hs ⊢
  simp only at hs
  have h2 := Int.mul_nonneg r0 (show 0 ≤ s - p.tick by omega)
  have hl := h.lev p.tick (v + p.size * 1000 - b.rate * (s - p.tick)) ht
  have hm := h.most
  have hr := h.rate
  have key : v ≤ (Bk.mk b.most b.rate (b.lev p.tick - p.size * 1000) p.tick).lev s ↔ v ≤ b.most ∧ v + p.size * 1000 - b.rate * (s - p.tick) ≤ b.lev p.tick := by simp only [Bk.lev]; omega
  rw [key, hl, hm, hr]
  simp only [ends_snoc]
  constructor
  · rintro ⟨h3, h4, h5⟩
    refine ⟨h3, fun a z hz => ?_⟩
    rcases hz with hz | ⟨rfl, rfl⟩
    · have := h5 a _ hz
      have := mul_split q.2 s p.tick a
      omega
    · omega
  · rintro ⟨h3, h4⟩
    refine ⟨h3, ?_, fun a z hz => ?_⟩
    · have := h4 p.tick p.size (.inr ⟨rfl, rfl⟩); omega
    · have := h4 a (z + p.size) (.inl (by simpa using hz))
      have := mul_split q.2 s p.tick a
      omega
end Go.Proofs.YtcldgpbimaoliaaDoor
