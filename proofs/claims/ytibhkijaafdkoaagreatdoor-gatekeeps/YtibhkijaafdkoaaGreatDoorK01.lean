/- Own facts, put together: no statement of its own. -/
import Derived.Below
import Derived.Test.YtibhkijaafdkoaaGreatDoorRows
import Derived.WalkKit
import Derived.WalkSpells
import Derived.WalkLawsBesides
import Derived.BigQuiet
namespace Go.Proofs.YtibhkijaafdkoaaGreatDoor
open Go.RowKit
def okLine (x y : Int) : Bool := decide (1 ≤ x ∧ x ≤ 20000 ∧ 0 ≤ y ∧ y ≤ 100000)
theorem okLine_true {x y : Int} (h : okLine x y = true) : 1 ≤ x ∧ x ≤ 20000 ∧ 0 ≤ y ∧ y ≤ 100000 := of_decide_eq_true h
def lineAt (t x y : Int) : Int := x + y * t / 1000
def leastAt (t : Int) : Int → List (Int × Int) → Int
 | m, [] => m
 | m, p :: r => leastAt t (min m (lineAt t p.1 p.2)) r
def curveAt (t : Int) : List (Int × Int) → Int
 | [] => 0
 | p :: r => leastAt t (lineAt t p.1 p.2) r
def okAll (ls : List (Int × Int)) : Prop := ∀ p, p ∈ ls → okLine p.1 p.2 = true
def okCurve (ls : List (Int × Int)) : Prop := 1 ≤ ls.length ∧ ls.length ≤ 6 ∧ okAll ls
theorem leastAt_snoc (t : Int) (l : List (Int × Int)) : ∀ (m : Int) (p : Int × Int), leastAt t m (l ++ [p]) = min (leastAt t m l) (lineAt t p.1 p.2) := by
 induction l with
 | nil => intro m p; rfl
 | cons q r ih => intro m p; exact ih _ p
theorem min_if (a b : Int) : (if b < a then b else a) = min a b := by split <;> omega
theorem mul_bd {y t : Int} (h0 : 0 ≤ y) (h1 : y ≤ 100000) (t0 : 0 ≤ t) (t1 : t ≤ 1099511627776) : 0 ≤ y * t ∧ y * t ≤ 109951162777600000 := by
 refine ⟨Int.mul_nonneg h0 t0, ?_⟩
 have a : y * t ≤ 100000 * t := Int.mul_le_mul_of_nonneg_right h1 t0
 omega
theorem lineAt_bd {t x y : Int} (h : okLine x y = true) (t0 : 0 ≤ t) (t1 : t ≤ 1099511627776) : 1 ≤ lineAt t x y ∧ lineAt t x y ≤ 109951162797600000 := by
 obtain ⟨a, b, c, d⟩ := okLine_true h
 have := mul_bd c d t0 t1
 unfold lineAt
 omega
theorem leastAt_bd (t : Int) (t0 : 0 ≤ t) (t1 : t ≤ 1099511627776) (l : List (Int × Int)) : ∀ m : Int, 1 ≤ m → m ≤ 109951162797600000 → okAll l → 1 ≤ leastAt t m l ∧ leastAt t m l ≤ 109951162797600000 ∧ leastAt t m l ≤ m := by
 induction l with
 | nil => intro m h1 h2 _; exact ⟨h1, h2, Int.le_refl _⟩
 | cons q r ih =>
  intro m h1 h2 hok
  have hb := lineAt_bd (hok q (List.mem_cons_self ..)) t0 t1
  have := ih (min m (lineAt t q.1 q.2)) (by omega) (by omega) (fun p hp => hok p (List.mem_cons_of_mem _ hp))
  exact ⟨this.1, this.2.1, by show leastAt t (min m (lineAt t q.1 q.2)) r ≤ m; have := this.2.2; omega⟩
end Go.Proofs.YtibhkijaafdkoaaGreatDoor

namespace Go.Proofs.YtibhkijaafdkoaaGreatDoor
structure SomeOf (a : Int × Int) (L : List (Int × Int)) : Prop where
 same : ∀ b, b ∈ L → b.2 = a.2 → b ≠ a → a.1 < b.1
 flat : ∀ c, c ∈ L → c.2 < a.2 → a.1 < c.1
 both : ∀ b, b ∈ L → ∀ c, c ∈ L → a.2 < b.2 → c.2 < a.2 → (a.1 - b.1) * (a.2 - c.2) < (c.1 - a.1) * (b.2 - a.2)
structure LimIs (a : Int × Int) (P : List (Int × Int)) (low lowBy : Int) (op : Bool) (high highBy : Int) : Prop where
 lowBd : 0 ≤ low ∧ low ≤ 20000 ∧ 1 ≤ lowBy ∧ lowBy ≤ 100000
 highBd : -20000 ≤ high ∧ high ≤ 20000 ∧ 0 ≤ highBy ∧ highBy ≤ 100000
 isLow : op = true → ∃ b, b ∈ P ∧ a.2 < b.2 ∧ low = a.1 - b.1 ∧ lowBy = b.2 - a.2
 zero : op = false → low = 0
 noLow : op = false → ∀ b, b ∈ P → a.2 < b.2 → a.1 < b.1
 maxLow : ∀ b, b ∈ P → a.2 < b.2 → b.1 ≤ a.1 → (a.1 - b.1) * lowBy ≤ low * (b.2 - a.2)
 isHigh : highBy ≠ 0 → ∃ c, c ∈ P ∧ c.2 < a.2 ∧ high = c.1 - a.1 ∧ highBy = a.2 - c.2
 noHigh : highBy = 0 → ∀ c, c ∈ P → ¬ c.2 < a.2
 minHigh : ∀ c, c ∈ P → c.2 < a.2 → high * (a.2 - c.2) ≤ (c.1 - a.1) * highBy
theorem frac_trans {n1 d1 n2 d2 n3 d3 : Int} (h1 : 0 ≤ d1) (h2 : 0 < d2) (h3 : 0 ≤ d3) (a : n1 * d2 ≤ n2 * d1) (b : n2 * d3 ≤ n3 * d2) : n1 * d3 ≤ n3 * d1 := by
 have s1 := Int.mul_le_mul_of_nonneg_right a h3
 have s2 := Int.mul_le_mul_of_nonneg_right b h1
 have e1 : n1 * d2 * d3 = d2 * (n1 * d3) := by simp only [Int.mul_comm, Int.mul_left_comm]
 have e2 : n2 * d1 * d3 = n2 * d3 * d1 := by simp only [Int.mul_comm, Int.mul_left_comm]
 have e3 : n3 * d2 * d1 = d2 * (n3 * d1) := by simp only [Int.mul_comm, Int.mul_left_comm]
 exact Int.le_of_mul_le_mul_left (show d2 * (n1 * d3) ≤ d2 * (n3 * d1) by omega) h2
theorem lim_none (a : Int × Int) : LimIs a [] 0 1 false 0 0 where
 lowBd := by decide
 highBd := by decide
 isLow h := by cases h
 zero _ := rfl
 noLow _ b h := by cases h
 maxLow b h := by cases h
 isHigh h := absurd rfl h
 noHigh _ c h := by cases h
 minHigh c h := by cases h
section
variable {a b : Int × Int} {P : List (Int × Int)} {low lowBy high highBy : Int} {op : Bool}
theorem lim_keep (h : LimIs a P low lowBy op high highBy) (hn : a.2 < b.2 → a.1 < b.1 ∨ (op = true ∧ (a.1 - b.1) * lowBy ≤ low * (b.2 - a.2))) (hh : b.2 < a.2 → highBy ≠ 0 ∧ high * (a.2 - b.2) ≤ (b.1 - a.1) * highBy) : LimIs a (P ++ [b]) low lowBy op high highBy where
 lowBd := h.lowBd
 highBd := h.highBd
 isLow e := by obtain ⟨c, hc, r⟩ := h.isLow e; exact ⟨c, List.mem_append.2 (.inl hc), r⟩
 zero := h.zero
 noLow e c hc hl := by
  rcases List.mem_append.1 hc with hc | hc
  · exact h.noLow e c hc hl
  ·
   rw [List.mem_singleton.1 hc] at hl ⊢
   rcases hn hl with h | ⟨h, -⟩
   · exact h
   · rw [e] at h; cases h
 maxLow c hc hl hl' := by
  rcases List.mem_append.1 hc with hc | hc
  · exact h.maxLow c hc hl hl'
  ·
   rw [List.mem_singleton.1 hc] at hl hl' ⊢
   rcases hn hl with h | ⟨-, h⟩
   · omega
   · exact h
 isHigh e := by obtain ⟨c, hc, r⟩ := h.isHigh e; exact ⟨c, List.mem_append.2 (.inl hc), r⟩
 noHigh e c hc hl := by
  rcases List.mem_append.1 hc with hc | hc
  · exact h.noHigh e c hc hl
  ·
   rw [List.mem_singleton.1 hc] at hl
   exact (hh hl).1 e
 minHigh c hc hl := by
  rcases List.mem_append.1 hc with hc | hc
  · exact h.minHigh c hc hl
  ·
   rw [List.mem_singleton.1 hc] at hl ⊢
   exact (hh hl).2
theorem lim_same (h : LimIs a P low lowBy op high highBy) (hs : b.2 = a.2) : LimIs a (P ++ [b]) low lowBy op high highBy :=
 lim_keep h (fun hl => by omega) (fun hl => by omega)
theorem lim_above (h : LimIs a P low lowBy op high highBy) (hs : a.2 < b.2) (hn : a.1 - b.1 < 0) : LimIs a (P ++ [b]) low lowBy op high highBy :=
 lim_keep h (fun _ => .inl (by omega)) (fun hl => by omega)
theorem lim_sooner (h : LimIs a P low lowBy op high highBy) (hs : a.2 < b.2) (hn : 0 ≤ a.1 - b.1) (hp : (a.1 - b.1) * lowBy < low * (b.2 - a.2)) : LimIs a (P ++ [b]) low lowBy op high highBy := by
 refine lim_keep h (fun _ => .inr ⟨?_, Int.le_of_lt hp⟩) (fun hl => by omega)
 cases hop : op with
 | true => rfl
 | false =>
  rw [h.zero hop, Int.zero_mul] at hp
  have := Int.mul_nonneg hn (show 0 ≤ lowBy by have := h.lowBd; omega)
  omega
theorem lim_later (h : LimIs a P low lowBy op high highBy) (hs : b.2 < a.2) (hz : highBy ≠ 0) (hp : ¬ -(a.1 - b.1) * highBy < high * -(b.2 - a.2)) : LimIs a (P ++ [b]) low lowBy op high highBy := by
 refine lim_keep h (fun hl => by omega) (fun _ => ⟨hz, ?_⟩)
 have e1 : -(a.1 - b.1) = b.1 - a.1 := by omega
 have e2 : -(b.2 - a.2) = a.2 - b.2 := by omega
 rw [e1, e2] at hp
 omega
theorem lim_low (h : LimIs a P low lowBy op high highBy) (ha : 1 ≤ a.1 ∧ a.1 ≤ 20000 ∧ 0 ≤ a.2 ∧ a.2 ≤ 100000) (hb : 1 ≤ b.1 ∧ b.1 ≤ 20000 ∧ 0 ≤ b.2 ∧ b.2 ≤ 100000) (hs : a.2 < b.2) (hn : 0 ≤ a.1 - b.1) (hp : low * (b.2 - a.2) ≤ (a.1 - b.1) * lowBy) : LimIs a (P ++ [b]) (a.1 - b.1) (b.2 - a.2) true high highBy where
 lowBd := by omega
 highBd := h.highBd
 isLow _ := ⟨b, by simp, hs, rfl, rfl⟩
 zero e := by cases e
 noLow e := by cases e
 maxLow c hc hl hl' := by
  rcases List.mem_append.1 hc with hc | hc
  · exact frac_trans (by omega) (by have := h.lowBd; omega) (by omega) (h.maxLow c hc hl hl') hp
  ·
   rw [List.mem_singleton.1 hc] at hl hl' ⊢
   exact Int.le_refl _
 isHigh e := by obtain ⟨c, hc, r⟩ := h.isHigh e; exact ⟨c, List.mem_append.2 (.inl hc), r⟩
 noHigh e c hc hl := by
  rcases List.mem_append.1 hc with hc | hc
  · exact h.noHigh e c hc hl
  ·
   rw [List.mem_singleton.1 hc] at hl
   omega
 minHigh c hc hl := by
  rcases List.mem_append.1 hc with hc | hc
  · exact h.minHigh c hc hl
  ·
   rw [List.mem_singleton.1 hc] at hl
   omega
theorem lim_high (h : LimIs a P low lowBy op high highBy) (ha : 1 ≤ a.1 ∧ a.1 ≤ 20000 ∧ 0 ≤ a.2 ∧ a.2 ≤ 100000) (hb : 1 ≤ b.1 ∧ b.1 ≤ 20000 ∧ 0 ≤ b.2 ∧ b.2 ≤ 100000) (hs : b.2 < a.2) (hp : highBy = 0 ∨ -(a.1 - b.1) * highBy < high * -(b.2 - a.2)) : LimIs a (P ++ [b]) low lowBy op (-(a.1 - b.1)) (-(b.2 - a.2)) := by
 have e1 : -(a.1 - b.1) = b.1 - a.1 := by omega
 have e2 : -(b.2 - a.2) = a.2 - b.2 := by omega
 rw [e1, e2] at hp ⊢
 exact {
  lowBd := h.lowBd
  highBd := by omega
  isLow := fun e => by obtain ⟨c, hc, r⟩ := h.isLow e; exact ⟨c, List.mem_append.2 (.inl hc), r⟩
  zero := h.zero
  noLow := fun e c hc hl => by
   rcases List.mem_append.1 hc with hc | hc
   · exact h.noLow e c hc hl
   ·
    rw [List.mem_singleton.1 hc] at hl
    omega
  maxLow := fun c hc hl hl' => by
   rcases List.mem_append.1 hc with hc | hc
   · exact h.maxLow c hc hl hl'
   ·
    rw [List.mem_singleton.1 hc] at hl
    omega
  isHigh := fun _ => ⟨b, by simp, hs, rfl, rfl⟩
  noHigh := fun e => by omega
  minHigh := fun c hc hl => by
   rcases List.mem_append.1 hc with hc | hc
   ·
    rcases hp with hp | hp
    · exact absurd hl (h.noHigh hp c hc)
    ·
     by_cases hz : highBy = 0
     · exact absurd hl (h.noHigh hz c hc)
     · exact frac_trans (by omega) (by have := h.highBd; omega) (by omega) (Int.le_of_lt hp) (h.minHigh c hc hl)
   ·
    rw [List.mem_singleton.1 hc] at hl ⊢
    exact Int.le_refl _ }
theorem lim_free (h : LimIs a P low lowBy op high highBy) (hs : ∀ b, b ∈ P → b.2 = a.2 → b ≠ a → a.1 < b.1) (hz : highBy = 0) : SomeOf a P :=
 ⟨hs, fun c hc hl => absurd hl (h.noHigh hz c hc), fun _ _ c hc _ hl => absurd hl (h.noHigh hz c hc)⟩
theorem lim_shut (h : LimIs a P low lowBy op high highBy) (hs : ∀ b, b ∈ P → b.2 = a.2 → b ≠ a → a.1 < b.1) (hz : highBy ≠ 0) (ho : op = false) : 0 < high ↔ SomeOf a P := by
 obtain ⟨c0, hc0, hl0, rfl, rfl⟩ := h.isHigh hz
 constructor
 ·
  intro hp
  have hflat : ∀ c, c ∈ P → c.2 < a.2 → a.1 < c.1 := fun c hc hl => by
   have h1 := h.minHigh c hc hl
   have h2 : 0 < (c0.1 - a.1) * (a.2 - c.2) := Int.mul_pos hp (by omega)
   have := Int.pos_of_mul_pos_left (show 0 < (c.1 - a.1) * (a.2 - c0.2) by omega) (by omega)
   omega
  refine ⟨hs, hflat, fun b hb c hc hab hca => ?_⟩
  have h1 := h.noLow ho b hb hab
  have h2 := hflat c hc hca
  have h3 : (a.1 - b.1) * (a.2 - c.2) < 0 := Int.mul_neg_of_neg_of_pos (by omega) (by omega)
  have h4 : 0 < (c.1 - a.1) * (b.2 - a.2) := Int.mul_pos (by omega) (by omega)
  omega
 ·
  intro hS
  have := hS.flat c0 hc0 hl0
  omega
theorem lim_open (h : LimIs a P low lowBy op high highBy) (hs : ∀ b, b ∈ P → b.2 = a.2 → b ≠ a → a.1 < b.1) (hz : highBy ≠ 0) (ho : op = true) : low * highBy < high * lowBy ↔ SomeOf a P := by
 obtain ⟨c0, hc0, hl0, rfl, rfl⟩ := h.isHigh hz
 obtain ⟨b0, hb0, hg0, rfl, rfl⟩ := h.isLow ho
 have hbd := h.lowBd
 constructor
 ·
  intro hp
  have hp0 : 0 < c0.1 - a.1 := by
   have h2 : 0 ≤ (a.1 - b0.1) * (a.2 - c0.2) := Int.mul_nonneg hbd.1 (by omega)
   exact Int.pos_of_mul_pos_left (show 0 < (c0.1 - a.1) * (b0.2 - a.2) by omega) (by omega)
  have hflat : ∀ c, c ∈ P → c.2 < a.2 → a.1 < c.1 := fun c hc hl => by
   have h1 := h.minHigh c hc hl
   have h2 : 0 < (c0.1 - a.1) * (a.2 - c.2) := Int.mul_pos hp0 (by omega)
   have := Int.pos_of_mul_pos_left (show 0 < (c.1 - a.1) * (a.2 - c0.2) by omega) (by omega)
   omega
  refine ⟨hs, hflat, fun b hb c hc hab hca => ?_⟩
  have h2 := hflat c hc hca
  by_cases hba : b.1 ≤ a.1
  ·
   have m1 := h.maxLow b hb hab hba
   have m2 := h.minHigh c hc hca
   rcases Int.lt_or_le ((a.1 - b.1) * (a.2 - c.2)) ((c.1 - a.1) * (b.2 - a.2)) with hlt | hle
   · exact hlt
   ·
    exfalso
    have t1 := frac_trans (n1 := c0.1 - a.1) (d1 := a.2 - c0.2) (n2 := c.1 - a.1) (d2 := a.2 - c.2) (n3 := a.1 - b.1) (d3 := b.2 - a.2) (by omega) (by omega) (by omega) m2 hle
    have t2 := frac_trans (n1 := c0.1 - a.1) (d1 := a.2 - c0.2) (n2 := a.1 - b.1) (d2 := b.2 - a.2) (n3 := a.1 - b0.1) (d3 := b0.2 - a.2) (by omega) (by omega) (by omega) t1 m1
    omega
  ·
   have h3 : (a.1 - b.1) * (a.2 - c.2) < 0 := Int.mul_neg_of_neg_of_pos (by omega) (by omega)
   have h4 : 0 < (c.1 - a.1) * (b.2 - a.2) := Int.mul_pos (by omega) (by omega)
   omega
 ·
  intro hS
  exact hS.both b0 hb0 c0 hc0 hg0 hl0
end
def Falls (R : List (Int × Int)) : Prop := R.Pairwise fun a b => b.2 < a.2
theorem falls_same : ∀ {R S : List (Int × Int)}, Falls R → Falls S → (∀ a, a ∈ R ↔ a ∈ S) → R = S
 | [], [], _, _, _ => rfl
 | [], s :: S, _, _, h => by have := (h s).2 (List.mem_cons_self ..); cases this
 | r :: R, [], _, _, h => by have := (h r).1 (List.mem_cons_self ..); cases this
 | r :: R, s :: S, hR, hS, h => by
  have hr := List.pairwise_cons.1 hR
  have hs := List.pairwise_cons.1 hS
  have e : r = s := by
   rcases List.mem_cons.1 ((h r).1 (List.mem_cons_self ..)) with e | h1
   · exact e
   ·
    rcases List.mem_cons.1 ((h s).2 (List.mem_cons_self ..)) with e | h2
    · exact e.symm
    ·
     have := hs.1 r h1
     have := hr.1 s h2
     omega
  subst e
  rw [falls_same hr.2 hs.2 fun a => ⟨fun ha => ?_, fun ha => ?_⟩]
  ·
   rcases List.mem_cons.1 ((h a).1 (List.mem_cons_of_mem _ ha)) with e | h1
   · have := hr.1 a ha; rw [e] at this; omega
   · exact h1
  ·
   rcases List.mem_cons.1 ((h a).2 (List.mem_cons_of_mem _ ha)) with e | h1
   · have := hs.1 a ha; rw [e] at this; omega
   · exact h1
theorem falls_put {R : List (Int × Int)} {x : Int × Int} {k : Nat} (hR : Falls R) (h1 : ∀ j y, j < k → R[j]? = some y → x.2 < y.2) (h2 : ∀ y, R[k]? = some y → ¬ x.2 < y.2) (hx : ∀ y, y ∈ R → y.2 ≠ x.2) : Falls (R.take k ++ x :: R.drop k) := by
 have hR' := hR
 unfold Falls at hR' ⊢
 rw [← List.take_append_drop k R, List.pairwise_append] at hR'
 have hd : ∀ y, y ∈ R.drop k → y.2 < x.2 := by
  intro y hy
  have hyR := List.mem_of_mem_drop hy
  rcases hq : R.drop k with _ | ⟨z, r⟩
  · rw [hq] at hy; cases hy
  ·
   have hz : R[k]? = some z := by rw [← List.head?_drop, hq]; rfl
   have hz' := h2 z hz
   have hzx := hx z (List.mem_of_getElem? hz)
   rw [hq] at hy
   rcases List.mem_cons.1 hy with rfl | hy
   · omega
   ·
    have := hR'.2.1
    rw [hq] at this
    have := (List.pairwise_cons.1 this).1 y hy
    omega
 have ht : ∀ y, y ∈ R.take k → x.2 < y.2 := by
  intro y hy
  obtain ⟨j, hj⟩ := List.mem_iff_getElem?.1 hy
  rw [List.getElem?_take] at hj
  split at hj
  · next h => exact h1 j y h hj
  · cases hj
 rw [List.pairwise_append]
 refine ⟨hR'.1, List.pairwise_cons.2 ⟨hd, hR'.2.1⟩, fun y hy z hz => ?_⟩
 rcases List.mem_cons.1 hz with rfl | hz
 · exact ht y hy
 ·
  have := ht y hy
  have := hd z hz
  omega
def KeptAt (L : List (Int × Int)) (i : Nat) (a : Int × Int) : Prop := SomeOf a L ∧ ∀ k, k < i → L[k]? ≠ some a
structure KeptTo (L : List (Int × Int)) (i : Nat) (R : List (Int × Int)) : Prop where
 falls : Falls R
 len : R.length ≤ i
 mem : ∀ a, a ∈ R ↔ SomeOf a L ∧ ∃ k, k < i ∧ L[k]? = some a
theorem kept_none (L : List (Int × Int)) : KeptTo L 0 [] := ⟨List.Pairwise.nil, Nat.le_refl _, fun a => ⟨fun h => (by cases h), fun ⟨_, k, hk, _⟩ => absurd hk (Nat.not_lt_zero _)⟩⟩
theorem kept_skip {L R : List (Int × Int)} {i : Nat} {x : Int × Int} (h : KeptTo L i R) (hx : L[i]? = some x) (hn : ¬ KeptAt L i x) : KeptTo L (i + 1) R := by
 refine ⟨h.falls, Nat.le_succ_of_le h.len, fun a => (h.mem a).trans ⟨fun ⟨h1, k, hk, e⟩ => ⟨h1, k, by omega, e⟩, fun ⟨h1, k, hk, e⟩ => ⟨h1, ?_⟩⟩⟩
 rcases Nat.lt_or_ge k i with hki | hki
 · exact ⟨k, hki, e⟩
 ·
  have : k = i := by omega
  subst this
  rw [hx] at e
  injection e with e
  subst e
  rcases Classical.em (∃ k', k' < k ∧ L[k']? = some x) with h' | h'
  · exact h'
  · exact absurd ⟨h1, fun k' hk' e' => h' ⟨k', hk', e'⟩⟩ hn
theorem kept_put {L R : List (Int × Int)} {i k : Nat} {x : Int × Int} (h : KeptTo L i R) (hx : L[i]? = some x) (hk : KeptAt L i x) (h1 : ∀ j y, j < k → R[j]? = some y → x.2 < y.2) (h2 : ∀ y, R[k]? = some y → ¬ x.2 < y.2) : KeptTo L (i + 1) (R.take k ++ x :: R.drop k) := by
 have hxL := List.mem_of_getElem? hx
 refine ⟨falls_put h.falls h1 h2 fun y hy e => ?_, ?_, fun a => ?_⟩
 ·
  obtain ⟨hy1, j, hj, ej⟩ := (h.mem y).1 hy
  have hyL := List.mem_of_getElem? ej
  by_cases hyx : y = x
  · subst hyx; exact hk.2 j hj ej
  ·
   have a1 := hk.1.same y hyL e hyx
   have a2 := hy1.same x hxL e.symm (fun e => hyx e.symm)
   omega
 ·
  have := h.len
  simp
  omega
 ·
  have e : a ∈ R.take k ++ x :: R.drop k ↔ a = x ∨ a ∈ R := by
   rw [List.mem_append, List.mem_cons, ← or_assoc, or_comm (a := a ∈ R.take k), or_assoc, ← List.mem_append, List.take_append_drop]
  rw [e, h.mem a]
  constructor
  ·
   rintro (rfl | ⟨h1, k', hk', e'⟩)
   · exact ⟨hk.1, i, by omega, hx⟩
   · exact ⟨h1, k', by omega, e'⟩
  ·
   rintro ⟨h1, k', hk', e'⟩
   rcases Nat.lt_or_ge k' i with hki | hki
   · exact .inr ⟨h1, k', hki, e'⟩
   ·
    have : k' = i := by omega
    subst this
    rw [hx] at e'
    injection e' with e'
    exact .inl e'.symm
end Go.Proofs.YtibhkijaafdkoaaGreatDoor

namespace Go.Proofs.YtibhkijaafdkoaaGreatDoor
open Go.RowKit
structure But (S : Nat → Prop) (w w' : World) : Prop where
 os : w'.os = w.os
 tape : w'.tape = w.tape
 output : w'.output = w.output
 size : w.heap.size ≤ w'.heap.size
 block : ∀ k, k < w.heap.size → ¬ S k → w'.heap[k]? = w.heap[k]?
theorem But.refl (S : Nat → Prop) (w : World) : But S w w := ⟨rfl, rfl, rfl, Nat.le_refl _, fun _ _ _ => rfl⟩
theorem But.trans {S : Nat → Prop} {a b c : World} (h : But S a b) (k : But S b c) : But S a c :=
 ⟨k.os.trans h.os, k.tape.trans h.tape, k.output.trans h.output, Nat.le_trans h.size k.size, fun i hi hs => (k.block i (Nat.lt_of_lt_of_le hi h.size) hs).trans (h.block i hi hs)⟩
theorem But.mono {S S' : Nat → Prop} {w w' : World} (h : But S w w') (hS : ∀ k, S k → S' k) : But S' w w' := ⟨h.os, h.tape, h.output, h.size, fun k hk hs => h.block k hk fun h' => hs (hS k h')⟩
theorem But.ofBelow {S : Nat → Prop} {w w' : World} (h : Below w.heap.size w w') : But S w w' := ⟨h.os, h.tape, h.output, h.size, fun k hk _ => h.block k hk⟩
theorem But.below {S : Nat → Prop} {B : Nat} {w w' : World} (h : But S w w') (hB : B ≤ w.heap.size) (hS : ∀ k, S k → B ≤ k) : Below B w w' :=
 ⟨h.os, h.tape, h.output, h.size, fun k hk => h.block k (Nat.lt_of_lt_of_le hk hB) fun h' => by have := hS k h'; omega⟩
theorem But.alloc {S : Nat → Prop} {a w : World} (h : But S a w) (o : Obj) : But S a (w.alloc o) := h.trans (.ofBelow ((Below.refl _ _).alloc (Nat.le_refl _) o))
theorem But.drew {S : Nat → Prop} {a w : World} (h : But S a w) : But S a w.drew := ⟨h.os, h.tape, h.output, h.size, h.block⟩
theorem But.setCell {S : Nat → Prop} {a w : World} (h : But S a w) {p : Addr} (hp : S p.block) (u : Value) : But S a (w.setCell p u) :=
 h.trans ⟨rfl, rfl, rfl, by simp [World.setCell], fun k _ hs => Below.heap_setCell _ _ _ _ fun e => hs (by rw [e]; exact hp)⟩
theorem But.cell {S : Nat → Prop} {w w' : World} (h : But S w w') {p : Addr} (hp : p.block < w.heap.size) (hs : ¬ S p.block) : w'.cell? p = w.cell? p := World.cell?_of_block (w := w) (h.block p.block hp hs)
theorem But.frozen {S : Nat → Prop} {w w' : World} (h : But S w w') {p : Addr} (hp : p.block < w.heap.size) (hs : ¬ S p.block) : w'.frozen? p = w.frozen? p := World.frozen?_of_block (w := w) (h.block p.block hp hs)
end Go.Proofs.YtibhkijaafdkoaaGreatDoor

namespace Go.Proofs.YtibhkijaafdkoaaGreatDoor
open Go.RowKit
theorem get_some {α : Type} (l : List α) (k : Nat) (h : k < l.length) : ∃ p, l[k]? = some p ∧ p ∈ l := ⟨l[k], by simp [h], List.getElem_mem h⟩
theorem cell_lt {w : World} {a : Addr} {v : Value} (h : w.cell? a = some v) : a.block < w.heap.size := by
 rcases Nat.lt_or_ge a.block w.heap.size with h' | h'
 · exact h'
 · simp [World.cell?, Array.getElem?_eq_none h'] at h
theorem ownsRow_mono {w : World} {base base' : Nat} {e : TypeId} {size : Nat} {v : Value} {n : Nat} {xs : List Value} (h : w.ownsRow base e size v n xs) (hb : base' ≤ base) : w.ownsRow base' e size v n xs := by
 obtain ⟨h1, h2 | ⟨g, cap, cur, hv, hB, r⟩⟩ := h
 · exact ⟨h1, .inl h2⟩
 · exact ⟨h1, .inr ⟨g, cap, cur, hv, Nat.le_trans hb hB, r⟩⟩
structure ErrsBO (w : World) (ad : Nat → Addr) : Prop where
 c1 : w.cell? ⟨3, 0, none⟩ = some (.iface 271 (.pointer (some (ad 1))))
 c4 : w.cell? ⟨5, 0, none⟩ = some (.iface 271 (.pointer (some (ad 4))))
theorem ErrsBO.below {w w' : World} {ad : Nat → Addr} (h : ErrsBO w ad) (hb : Below w.heap.size w w') : ErrsBO w' ad :=
 ⟨cell_later hb h.c1, cell_later hb h.c4⟩
def sentOf (ad : Nat → Addr) : Nat → Value
 | 0 => .nilIface
 | k + 1 => .iface 271 (.pointer (some (ad k)))
end Go.Proofs.YtibhkijaafdkoaaGreatDoor

namespace Go.Proofs.YtibhkijaafdkoaaGreatDoor
open Go.RowKit
set_option maxHeartbeats 400000 in
theorem isLine_yes (x y : Int) (w : World) (h : okLine x y = true) :
  Calls Tryz.prog 112 #[.agg #[.int .i64 x, .int .i64 y]] w fun e w' => e = .returned (.bool true) ∧ w' = w.alloc (.cells #[.int .i64 x, .int .i64 y] 133) := by
 obtain ⟨h1, h2, h3, h4⟩ := okLine_true h
 clear h
 go_enter Tryz.func112, Tryz.ntmps112
 go_wp2
 go_ret
 exact ⟨rfl, rfl⟩
set_option maxHeartbeats 400000 in
theorem isLine_no (x y : Int) (w : World) (h : okLine x y = false) :
  Calls Tryz.prog 112 #[.agg #[.int .i64 x, .int .i64 y]] w fun e w' => e = .returned (.bool false) ∧ w' = w.alloc (.cells #[.int .i64 x, .int .i64 y] 133) := by
 have h' : ¬ (1 ≤ x ∧ x ≤ 20000 ∧ 0 ≤ y ∧ y ≤ 100000) := of_decide_eq_false h
 clear h
 by_cases h1 : 1 ≤ x
 ·
  by_cases h2 : x ≤ 20000
  ·
   by_cases h3 : 0 ≤ y
   ·
    have h4 : ¬ y ≤ 100000 := fun h4 => h' ⟨h1, h2, h3, h4⟩
    clear h'
    go_enter Tryz.func112, Tryz.ntmps112
    go_wp2
    go_ret
    exact ⟨rfl, rfl⟩
   ·
    clear h'
    go_enter Tryz.func112, Tryz.ntmps112
    go_wp2
    go_ret
    exact ⟨rfl, rfl⟩
  ·
   clear h'
   go_enter Tryz.func112, Tryz.ntmps112
   go_wp2
   go_ret
   exact ⟨rfl, rfl⟩
 ·
  clear h'
  go_enter Tryz.func112, Tryz.ntmps112
  go_wp2
  go_ret
  exact ⟨rfl, rfl⟩
end Go.Proofs.YtibhkijaafdkoaaGreatDoor

namespace Go.Proofs.YtibhkijaafdkoaaGreatDoor
open Go.RowKit
def Lies (w : World) (a : Option Addr) (ls : List (Int × Int)) : Prop :=
 ls = [] ∨ ∃ b off, a = some ⟨b, off, none⟩ ∧ b < w.heap.size ∧ ∀ i x y, ls[i]? = some (x, y) → w.cell? ⟨b, off + i * 2, none⟩ = some (.int .i64 x) ∧ w.cell? ⟨b, off + i * 2 + 1, none⟩ = some (.int .i64 y)
theorem Lies.some {w : World} {a : Option Addr} {ls : List (Int × Int)} (h : Lies w a ls) (h1 : 1 ≤ ls.length) :
  ∃ b off, a = some ⟨b, off, none⟩ ∧ b < w.heap.size ∧ ∀ i x y, ls[i]? = some (x, y) → w.cell? ⟨b, off + i * 2, none⟩ = some (.int .i64 x) ∧ w.cell? ⟨b, off + i * 2 + 1, none⟩ = some (.int .i64 y) := by
 rcases h with rfl | h
 · simp at h1
 · exact h
theorem Lies.below {w w' : World} {a : Option Addr} {ls : List (Int × Int)} (h : Lies w a ls) (hb : Below w.heap.size w w') : Lies w' a ls := by
 rcases h with rfl | ⟨b, off, rfl, hlt, hc⟩
 · exact .inl rfl
 ·
  refine .inr ⟨b, off, rfl, Nat.lt_of_lt_of_le hlt hb.size, fun i x y hi => ?_⟩
  have := hc i x y hi
  exact ⟨by rw [hb.cell (p := ⟨b, off + i * 2, none⟩) hlt]; exact this.1, by rw [hb.cell (p := ⟨b, off + i * 2 + 1, none⟩) hlt]; exact this.2⟩
set_option maxHeartbeats 400000 in
theorem check_ok (a : Option Addr) (cap : Nat) (ls : List (Int × Int)) (w : World) (hl : Lies w a ls) (h : okCurve ls) :
  Calls Tryz.prog 73 #[.slice a ls.length cap] w fun e w' => e = .returned .nilIface ∧ Below w.heap.size w w' := by
 obtain ⟨h1, h6, hok⟩ := h
 obtain ⟨b, off, rfl, hlt, hc⟩ := hl.some h1
 clear hl
 generalize hn : ls.length = n at *
 have Hn := (show Hid (ls.length = n) from hn)
 clear hn
 go_enter Tryz.func73, Tryz.ntmps73
 go_wp2
 go_loopw [16] (fun i wr => ∃ k : Nat, k ≤ n ∧ i = .int .i64 k ∧ Below w.heap.size w wr) (fun i _ => n - (intOf i).toNat)
 case atStart => exact ⟨0, Nat.zero_le _, rfl, Below.refl _ _⟩
 case round =>
  obtain ⟨k, hk, rfl, hb⟩ := hrel
  by_cases hkn : k < n
  ·
   obtain ⟨⟨x, y⟩, hp, hm⟩ := get_some ls k (by rw [Hn.out]; exact hkn)
   have hc1 : wr.cell? ⟨b, off + k * 2, none⟩ = some (.int .i64 x) := by rw [hb.cell (p := ⟨b, off + k * 2, none⟩) hlt]; exact (hc k x y hp).1
   have hc2 : wr.cell? ⟨b, off + k * 2 + 1, none⟩ = some (.int .i64 y) := by rw [hb.cell (p := ⟨b, off + k * 2 + 1, none⟩) hlt]; exact (hc k x y hp).2
   have hxy := hok _ hm
   clear hc hok hp hm
   have Hxy := (show Hid (okLine x y = true) from hxy)
   clear hxy
   go_wp2_with (go_at_call 112; refine (isLine_yes x y _ Hxy.out).mono ?_; rintro e w' ⟨rfl, rfl⟩)
   have hs := hb.size
   go_roundw
   case rel => exact ⟨k + 1, by omega, by go_num, (hb.alloc hs _).alloc (by simp; omega) _⟩
   case measure => simp [intOf]; omega
  ·
   go_wp2
   go_ret
   exact ⟨rfl, hb⟩
set_option maxHeartbeats 400000 in
theorem check_shape (a : Option Addr) (n cap : Nat) (w : World) (vS : Value) (hS : w.cell? ⟨4, 0, none⟩ = some vS) (hm : n ≤ maxLen) (h : n < 1 ∨ 6 < n) :
  Calls Tryz.prog 73 #[.slice a n cap] w fun e w' => e = .returned vS ∧ w' = w := by
 unfold maxLen at hm
 rcases h with h | h
 ·
  obtain rfl : n = 0 := by omega
  go_enter Tryz.func73, Tryz.ntmps73
  go_wp2
  go_ret
  exact ⟨rfl, rfl⟩
 ·
  have h1 : ¬ n < 1 := by omega
  go_enter Tryz.func73, Tryz.ntmps73
  go_wp2
  go_ret
  exact ⟨rfl, rfl⟩
set_option maxHeartbeats 400000 in
theorem check_bad (a : Option Addr) (cap : Nat) (ls : List (Int × Int)) (w : World) (aB : Addr) (hB : w.cell? ⟨3, 0, none⟩ = some (.iface 271 (.pointer (some aB)))) (hl : Lies w a ls) (h1 : 1 ≤ ls.length) (h6 : ls.length ≤ 6)
  (j : Nat) (hj : j < ls.length) (hok : ∀ i x y, i < j → ls[i]? = some (x, y) → okLine x y = true) (hbad : ∀ x y, ls[j]? = some (x, y) → okLine x y = false) :
  Calls Tryz.prog 73 #[.slice a ls.length cap] w fun e w' => Below w.heap.size w w' ∧ ∃ B, e = .returned (.iface 110 (.pointer (some ⟨B, 0, none⟩))) ∧ w.heap.size ≤ B ∧ B < w'.heap.size ∧ w'.cell? ⟨B, 0, none⟩ = some (.int .i64 j) ∧ w'.cell? ⟨B, 1, none⟩ = some (.iface 271 (.pointer (some aB))) := by
 obtain ⟨b, off, rfl, hlt, hc⟩ := hl.some h1
 clear hl
 generalize hn : ls.length = n at *
 have Hn := (show Hid (ls.length = n) from hn)
 clear hn
 go_enter Tryz.func73, Tryz.ntmps73
 go_wp2
 go_loopw [16] (fun i wr => ∃ k : Nat, k ≤ j ∧ i = .int .i64 k ∧ Below w.heap.size w wr) (fun i _ => n - (intOf i).toNat)
 case atStart => exact ⟨0, Nat.zero_le _, rfl, Below.refl _ _⟩
 case round =>
  obtain ⟨k, hk, rfl, hb⟩ := hrel
  have hs := hb.size
  have hkn : k < n := by omega
  obtain ⟨⟨x, y⟩, hp, hm⟩ := get_some ls k (by rw [Hn.out]; exact hkn)
  have hc1 : wr.cell? ⟨b, off + k * 2, none⟩ = some (.int .i64 x) := by rw [hb.cell (p := ⟨b, off + k * 2, none⟩) hlt]; exact (hc k x y hp).1
  have hc2 : wr.cell? ⟨b, off + k * 2 + 1, none⟩ = some (.int .i64 y) := by rw [hb.cell (p := ⟨b, off + k * 2 + 1, none⟩) hlt]; exact (hc k x y hp).2
  have hgs : 3 < w.heap.size := by
   rcases Nat.lt_or_ge 3 w.heap.size with h | h
   · exact h
   · simp [World.cell?, Array.getElem?_eq_none h] at hB
  have hB2 : wr.cell? ⟨3, 0, none⟩ = some (.iface 271 (.pointer (some aB))) := by rw [hb.cell (p := ⟨3, 0, none⟩) hgs]; exact hB
  by_cases hkj : k < j
  ·
   have Hxy := (show Hid (okLine x y = true) from hok k x y hkj hp)
   clear hc hok hp hm hbad hB hB2
   go_wp2_with (go_at_call 112; refine (isLine_yes x y _ Hxy.out).mono ?_; rintro e w' ⟨rfl, rfl⟩)
   go_roundw
   case rel => exact ⟨k + 1, by omega, by go_num, (hb.alloc hs _).alloc (by simp; omega) _⟩
   case measure => simp [intOf]; omega
  ·
   obtain rfl : k = j := by omega
   have Hxy := (show Hid (okLine x y = false) from hbad x y hp)
   clear hc hok hp hm hbad hB
   have hB3 : ((wr.alloc (.cells #[.int .i64 x, .int .i64 y] 133)).alloc (.cells #[.int .i64 x, .int .i64 y] 133)).cell? ⟨3, 0, none⟩ = some (.iface 271 (.pointer (some aB))) := by
    rw [World.cell?_alloc_lt _ _ ⟨3, 0, none⟩ (Nat.lt_of_lt_of_le hgs (by simp; omega)), World.cell?_alloc_lt _ _ ⟨3, 0, none⟩ (Nat.lt_of_lt_of_le hgs hs)]; exact hB2
   go_wp2_with (go_at_call 112; refine (isLine_no x y _ Hxy.out).mono ?_; rintro e w' ⟨rfl, rfl⟩)
   go_ret
   refine ⟨((hb.alloc hs _).alloc (by simp; omega) _).alloc (by simp; omega) _, _, rfl, ?_, ?_, ?_, ?_⟩
   · omega
   · simp
   · rw [World.cell?_alloc_at _ _ _ _ (by simp)]; rfl
   · rw [World.cell?_alloc_at _ _ _ _ (by simp)]; rfl
end Go.Proofs.YtibhkijaafdkoaaGreatDoor

namespace Go.Proofs.YtibhkijaafdkoaaGreatDoor
open Go.RowKit
set_option maxHeartbeats 400000 in
theorem bytesAt_ok (a : Option Addr) (cap : Nat) (ls : List (Int × Int)) (t : Int) (w : World) (hl : Lies w a ls) (h : okCurve ls) (hcap : ls.length ≤ cap) (hm : cap ≤ maxLen) (t0 : 0 ≤ t) (t1 : t ≤ 1099511627776) :
  Calls Tryz.prog 48 #[.slice a ls.length cap, .int .i64 t] w fun e w' => e = .returned (.int .i64 (curveAt t ls)) ∧ Below w.heap.size w w' := by
 obtain ⟨h1, h6, hok⟩ := h
 obtain ⟨b, off, rfl, hlt, hc⟩ := hl.some h1
 clear hl
 unfold maxLen at hm
 obtain ⟨x0, y0, r, rfl⟩ : ∃ x y r, ls = (x, y) :: r := by
  cases ls with
  | nil => simp at h1
  | cons p r => exact ⟨p.1, p.2, r, rfl⟩
 obtain ⟨n, hn⟩ : ∃ n, r.length = n := ⟨_, rfl⟩
 have Hn := (show Hid (r.length = n) from hn)
 have h6' : n ≤ 5 := by simp at h6; omega
 have hcap' : n + 1 ≤ cap := by simp at hcap; omega
 rw [show ((x0, y0) :: r).length = n + 1 by simp [hn]]
 clear h1 h6 hcap hn
 have ha := (hc 0 x0 y0 rfl)
 have hx0 : w.cell? ⟨b, off, none⟩ = some (.int .i64 x0) := by simpa using ha.1
 have hy0 : w.cell? ⟨b, off + 1, none⟩ = some (.int .i64 y0) := by simpa using ha.2
 clear ha
 have hr : ∀ i x y, r[i]? = some (x, y) → w.cell? ⟨b, off + 2 + i * 2, none⟩ = some (.int .i64 x) ∧ w.cell? ⟨b, off + 2 + i * 2 + 1, none⟩ = some (.int .i64 y) := by
  intro i x y hi
  have := hc (i + 1) x y (by simpa using hi)
  rw [show off + (i + 1) * 2 = off + 2 + i * 2 by omega] at this
  exact this
 have hok0 := hok _ (List.mem_cons_self ..)
 have hokr : okAll r := fun p hp => hok p (List.mem_cons_of_mem _ hp)
 have hb0 := lineAt_bd hok0 t0 t1
 have o0 := okLine_true hok0
 simp only [] at o0
 obtain ⟨o1, o2, o3, o4⟩ := o0
 obtain ⟨m1, m2⟩ := mul_bd o3 o4 t0 t1
 have HL : Hid (x0 + y0 * t / 1000 = lineAt t x0 y0) := rfl
 have HC : Hid (curveAt t ((x0, y0) :: r) = leastAt t (lineAt t x0 y0) r) := rfl
 clear hok hok0 hc
 by_cases hc1 : cap = 1
 ·
  subst hc1
  obtain rfl : n = 0 := by omega
  have hr0 : r = [] := List.length_eq_zero_iff.1 Hn.out
  subst hr0
  clear hr Hn hokr
  go_enter Tryz.func48, Tryz.ntmps48
  go_wp2
  go_quiet (fail)
  go_wp2
  refine wp_loop_rounds 1 ?_
  rw [rounds_succ]
  go_wp2
  go_ret
  exact ⟨rfl, below_drewN (Below.refl _ _) _⟩
 ·
  have hc2 : 1 < cap := by omega
  clear hc1
  go_enter Tryz.func48, Tryz.ntmps48
  go_wp2
  go_quiet (fail)
  go_wp2
  go_loopw [5, 23] (fun m i wr => ∃ k : Nat, k ≤ n ∧ i = .int .i64 k ∧ m = .int .i64 (leastAt t (lineAt t x0 y0) (r.take k)) ∧ Below w.heap.size w wr) (fun _ i _ => n - (intOf i).toNat)
  case atStart => exact ⟨0, Nat.zero_le _, rfl, rfl, below_drewN (Below.refl _ _) _⟩
  case round =>
   obtain ⟨k, hk, rfl, rfl, hb⟩ := hrel
   have hs := hb.size
   by_cases hkn : k < n
   ·
    obtain ⟨⟨x, y⟩, hp, hm'⟩ := get_some r k (by rw [Hn.out]; exact hkn)
    have hc1 : wr.cell? ⟨b, off + 2 + k * 2, none⟩ = some (.int .i64 x) := by rw [hb.cell (p := ⟨b, off + 2 + k * 2, none⟩) hlt]; exact (hr k x y hp).1
    have hc2 : wr.cell? ⟨b, off + 2 + k * 2 + 1, none⟩ = some (.int .i64 y) := by rw [hb.cell (p := ⟨b, off + 2 + k * 2 + 1, none⟩) hlt]; exact (hr k x y hp).2
    have hts : r.take (k + 1) = r.take k ++ [(x, y)] := by rw [List.take_add_one, hp]; rfl
    have hsn := leastAt_snoc t (r.take k) (lineAt t x0 y0) (x, y)
    have HS : Hid (leastAt t (lineAt t x0 y0) (r.take (k + 1)) = min (leastAt t (lineAt t x0 y0) (r.take k)) (x + y * t / 1000)) := by rw [hts]; exact hsn
    have hbd := leastAt_bd t t0 t1 (r.take k) (lineAt t x0 y0) (by omega) (by omega) (fun p hp => hokr p (List.mem_of_mem_take hp))
    obtain ⟨p1, p2, p3, p4⟩ := okLine_true (hokr _ hm')
    simp only [] at p1 p2 p3 p4
    obtain ⟨q1, q2⟩ := mul_bd p3 p4 t0 t1
    obtain ⟨M, hM⟩ : ∃ M, leastAt t (lineAt t x0 y0) (r.take k) = M := ⟨_, rfl⟩
    rw [hM] at hbd ⊢
    have HM : Hid (leastAt t (lineAt t x0 y0) (r.take k) = M) := hM
    clear hM hts hsn hp hm' hr hokr
    obtain ⟨b1, b2, b3⟩ := hbd
    go_wp2
    go_roundw
    case rel =>
     refine ⟨k + 1, by omega, by go_num, ?_, ?_⟩
     ·
      rw [HS.out, HM.out]
      exact congrArg (Value.int .i64) (min_if _ _)
     · exact hb.alloc hs _
    case measure => simp [intOf]; omega
   ·
    go_wp2
    go_ret
    refine ⟨congrArg (fun z => Ending.returned (.int .i64 z)) ?_, hb⟩
    rw [List.take_of_length_le (by rw [Hn.out]; omega)]
    exact HC.out.symm
end Go.Proofs.YtibhkijaafdkoaaGreatDoor
