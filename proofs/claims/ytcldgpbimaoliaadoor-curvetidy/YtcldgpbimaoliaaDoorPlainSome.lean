/- How the document's answer looks for a line that is somewhere the least: between two times. -/
import Derived.Test.YtcldgpbimaoliaaDoorPlain
namespace Go.Proofs.YtcldgpbimaoliaaDoor

/-- Somewhere strictly the least line of L, doubles aside. -/
structure SomeOf (a : Int × Int) (L : List (Int × Int)) : Prop where
  same : ∀ b, b ∈ L → b.2 = a.2 → b ≠ a → a.1 < b.1
  flat : ∀ c, c ∈ L → c.2 < a.2 → a.1 < c.1
  both : ∀ b, b ∈ L → ∀ c, c ∈ L → a.2 < b.2 → c.2 < a.2 → (a.1 - b.1) * (a.2 - c.2) < (c.1 - a.1) * (b.2 - a.2)

/-- Between low over lowBy and high over highBy a is the least of P. -/
structure LimIs (a : Int × Int) (P : List (Int × Int)) (low lowBy : Int) (op : Bool) (high highBy : Int) : Prop where
  lowBd : 0 ≤ low ∧ low ≤ 20000 ∧ 1 ≤ lowBy ∧ lowBy ≤ 100000
  highBd : -20000 ≤ high ∧ high ≤ 20000 ∧ 0 ≤ highBy ∧ highBy ≤ 100000
  isLow : op = true → ∃ b, b ∈ P ∧ a.2 < b.2 ∧ low = a.1 - b.1 ∧ lowBy = b.2 - a.2
  zero : op = false → low = 0
  noLow : op = false → ∀ b, b ∈ P → a.2 < b.2 → a.1 < b.1
  maxLow : ∀ b, b ∈ P → a.2 < b.2 → b.1 ≤ a.1 → (a.1 - b.1) * lowBy ≤ low * (b.2 - a.2)
  isHigh : highBy ≠ 0 → ∃ c, c ∈ P ∧ c.2 < a.2 ∧ high = c.1 - a.1 ∧ highBy = a.2 - c.2
  noHigh : highBy = 0 → ∀ c, c ∈ P → ¬ c.2 < a.2
  minHigh : ∀ c, c ∈ P → c.2 < a.2 → high * (a.2 - c.2) ≤ (c.1 - a.1) * highBy

theorem frac_trans {n1 d1 n2 d2 n3 d3 : Int} (h1 : 0 ≤ d1) (h2 : 0 < d2) (h3 : 0 ≤ d3) (a : n1 * d2 ≤ n2 * d1) (b : n2 * d3 ≤ n3 * d2) : n1 * d3 ≤ n3 * d1 := by
  have s1 := Int.mul_le_mul_of_nonneg_right a h3
  have s2 := Int.mul_le_mul_of_nonneg_right b h1
  have e1 : n1 * d2 * d3 = d2 * (n1 * d3) := by simp only [Int.mul_comm, Int.mul_left_comm]
  have e2 : n2 * d1 * d3 = n2 * d3 * d1 := by simp only [Int.mul_comm, Int.mul_left_comm]
  have e3 : n3 * d2 * d1 = d2 * (n3 * d1) := by simp only [Int.mul_comm, Int.mul_left_comm]
  exact Int.le_of_mul_le_mul_left (show d2 * (n1 * d3) ≤ d2 * (n3 * d1) by omega) h2
theorem lim_none (a : Int × Int) : LimIs a [] 0 1 false 0 0 where
  lowBd := by decide
  highBd := by decide
  isLow h := by cases h
  zero _ := rfl
  noLow _ b h := by cases h
  maxLow b h := by cases h
  isHigh h := absurd rfl h
  noHigh _ c h := by cases h
  minHigh c h := by cases h
section
variable {a b : Int × Int} {P : List (Int × Int)} {low lowBy high highBy : Int} {op : Bool}
theorem lim_keep (h : LimIs a P low lowBy op high highBy) (hn : a.2 < b.2 → a.1 < b.1 ∨ (op = true ∧ (a.1 - b.1) * lowBy ≤ low * (b.2 - a.2))) (hh : b.2 < a.2 → highBy ≠ 0 ∧ high * (a.2 - b.2) ≤ (b.1 - a.1) * highBy) : LimIs a (P ++ [b]) low lowBy op high highBy where
  lowBd := h.lowBd
  highBd := h.highBd
  isLow e := by obtain ⟨c, hc, r⟩ := h.isLow e; exact ⟨c, List.mem_append.2 (.inl hc), r⟩
  zero := h.zero
  noLow e c hc hl := by
    rcases List.mem_append.1 hc with hc | hc
    · exact h.noLow e c hc hl
    · rw [List.mem_singleton.1 hc] at hl ⊢
      rcases hn hl with h | ⟨h, -⟩
      · exact h
      · rw [e] at h; cases h
  maxLow c hc hl hl' := by
    rcases List.mem_append.1 hc with hc | hc
    · exact h.maxLow c hc hl hl'
    · rw [List.mem_singleton.1 hc] at hl hl' ⊢
      rcases hn hl with h | ⟨-, h⟩
      · omega
      · exact h
  isHigh e := by obtain ⟨c, hc, r⟩ := h.isHigh e; exact ⟨c, List.mem_append.2 (.inl hc), r⟩
  noHigh e c hc hl := by
    rcases List.mem_append.1 hc with hc | hc
    · exact h.noHigh e c hc hl
    · rw [List.mem_singleton.1 hc] at hl
      exact (hh hl).1 e
  minHigh c hc hl := by
    rcases List.mem_append.1 hc with hc | hc
    · exact h.minHigh c hc hl
    · rw [List.mem_singleton.1 hc] at hl ⊢
      exact (hh hl).2
theorem lim_same (h : LimIs a P low lowBy op high highBy) (hs : b.2 = a.2) : LimIs a (P ++ [b]) low lowBy op high highBy :=
  lim_keep h (fun hl => by omega) (fun hl => by omega)
theorem lim_above (h : LimIs a P low lowBy op high highBy) (hs : a.2 < b.2) (hn : a.1 - b.1 < 0) : LimIs a (P ++ [b]) low lowBy op high highBy :=
  lim_keep h (fun _ => .inl (by omega)) (fun hl => by omega)
theorem lim_sooner (h : LimIs a P low lowBy op high highBy) (hs : a.2 < b.2) (hn : 0 ≤ a.1 - b.1) (hp : (a.1 - b.1) * lowBy < low * (b.2 - a.2)) : LimIs a (P ++ [b]) low lowBy op high highBy := by
  refine lim_keep h (fun _ => .inr ⟨?_, Int.le_of_lt hp⟩) (fun hl => by omega)
  cases hop : op with
  | true => rfl
  | false =>
    rw [h.zero hop, Int.zero_mul] at hp
    have := Int.mul_nonneg hn (show 0 ≤ lowBy by have := h.lowBd; omega)
    omega
theorem lim_later (h : LimIs a P low lowBy op high highBy) (hs : b.2 < a.2) (hz : highBy ≠ 0) (hp : ¬ -(a.1 - b.1) * highBy < high * -(b.2 - a.2)) : LimIs a (P ++ [b]) low lowBy op high highBy := by
  refine lim_keep h (fun hl => by omega) (fun _ => ⟨hz, ?_⟩)
  have e1 : -(a.1 - b.1) = b.1 - a.1 := by omega
  have e2 : -(b.2 - a.2) = a.2 - b.2 := by omega
  rw [e1, e2] at hp
  omega
theorem lim_low (h : LimIs a P low lowBy op high highBy) (ha : 1 ≤ a.1 ∧ a.1 ≤ 20000 ∧ 0 ≤ a.2 ∧ a.2 ≤ 100000) (hb : 1 ≤ b.1 ∧ b.1 ≤ 20000 ∧ 0 ≤ b.2 ∧ b.2 ≤ 100000) (hs : a.2 < b.2) (hn : 0 ≤ a.1 - b.1) (hp : low * (b.2 - a.2) ≤ (a.1 - b.1) * lowBy) : LimIs a (P ++ [b]) (a.1 - b.1) (b.2 - a.2) true high highBy where
  lowBd := by omega
  highBd := h.highBd
  isLow _ := ⟨b, by simp, hs, rfl, rfl⟩
  zero e := by cases e
  noLow e := by cases e
  maxLow c hc hl hl' := by
    rcases List.mem_append.1 hc with hc | hc
    · exact frac_trans (by omega) (by have := h.lowBd; omega) (by omega) (h.maxLow c hc hl hl') hp
    · rw [List.mem_singleton.1 hc] at hl hl' ⊢
      exact Int.le_refl _
  isHigh e := by obtain ⟨c, hc, r⟩ := h.isHigh e; exact ⟨c, List.mem_append.2 (.inl hc), r⟩
  noHigh e c hc hl := by
    rcases List.mem_append.1 hc with hc | hc
    · exact h.noHigh e c hc hl
    · rw [List.mem_singleton.1 hc] at hl
      omega
  minHigh c hc hl := by
    rcases List.mem_append.1 hc with hc | hc
    · exact h.minHigh c hc hl
    · rw [List.mem_singleton.1 hc] at hl
      omega
theorem lim_high (h : LimIs a P low lowBy op high highBy) (ha : 1 ≤ a.1 ∧ a.1 ≤ 20000 ∧ 0 ≤ a.2 ∧ a.2 ≤ 100000) (hb : 1 ≤ b.1 ∧ b.1 ≤ 20000 ∧ 0 ≤ b.2 ∧ b.2 ≤ 100000) (hs : b.2 < a.2) (hp : highBy = 0 ∨ -(a.1 - b.1) * highBy < high * -(b.2 - a.2)) : LimIs a (P ++ [b]) low lowBy op (-(a.1 - b.1)) (-(b.2 - a.2)) := by
  have e1 : -(a.1 - b.1) = b.1 - a.1 := by omega
  have e2 : -(b.2 - a.2) = a.2 - b.2 := by omega
  rw [e1, e2] at hp ⊢
  exact {
    lowBd := h.lowBd
    highBd := by omega
    isLow := fun e => by obtain ⟨c, hc, r⟩ := h.isLow e; exact ⟨c, List.mem_append.2 (.inl hc), r⟩
    zero := h.zero
    noLow := fun e c hc hl => by
      rcases List.mem_append.1 hc with hc | hc
      · exact h.noLow e c hc hl
      · rw [List.mem_singleton.1 hc] at hl
        omega
    maxLow := fun c hc hl hl' => by
      rcases List.mem_append.1 hc with hc | hc
      · exact h.maxLow c hc hl hl'
      · rw [List.mem_singleton.1 hc] at hl
        omega
    isHigh := fun _ => ⟨b, by simp, hs, rfl, rfl⟩
    noHigh := fun e => by omega
    minHigh := fun c hc hl => by
      rcases List.mem_append.1 hc with hc | hc
      · rcases hp with hp | hp
        · exact absurd hl (h.noHigh hp c hc)
        · by_cases hz : highBy = 0
          · exact absurd hl (h.noHigh hz c hc)
          · exact frac_trans (by omega) (by have := h.highBd; omega) (by omega) (Int.le_of_lt hp) (h.minHigh c hc hl)
      · rw [List.mem_singleton.1 hc] at hl ⊢
        exact Int.le_refl _ }
theorem lim_free (h : LimIs a P low lowBy op high highBy) (hs : ∀ b, b ∈ P → b.2 = a.2 → b ≠ a → a.1 < b.1) (hz : highBy = 0) : SomeOf a P :=
  ⟨hs, fun c hc hl => absurd hl (h.noHigh hz c hc), fun _ _ c hc _ hl => absurd hl (h.noHigh hz c hc)⟩
theorem lim_shut (h : LimIs a P low lowBy op high highBy) (hs : ∀ b, b ∈ P → b.2 = a.2 → b ≠ a → a.1 < b.1) (hz : highBy ≠ 0) (ho : op = false) : 0 < high ↔ SomeOf a P := by
  obtain ⟨c0, hc0, hl0, rfl, rfl⟩ := h.isHigh hz
  constructor
  · intro hp
    have hflat : ∀ c, c ∈ P → c.2 < a.2 → a.1 < c.1 := fun c hc hl => by
      have h1 := h.minHigh c hc hl
      have h2 : 0 < (c0.1 - a.1) * (a.2 - c.2) := Int.mul_pos hp (by omega)
      have := Int.pos_of_mul_pos_left (show 0 < (c.1 - a.1) * (a.2 - c0.2) by omega) (by omega)
      omega
    refine ⟨hs, hflat, fun b hb c hc hab hca => ?_⟩
    have h1 := h.noLow ho b hb hab
    have h2 := hflat c hc hca
    have h3 : (a.1 - b.1) * (a.2 - c.2) < 0 := Int.mul_neg_of_neg_of_pos (by omega) (by omega)
    have h4 : 0 < (c.1 - a.1) * (b.2 - a.2) := Int.mul_pos (by omega) (by omega)
    omega
  · intro hS
    have := hS.flat c0 hc0 hl0
    omega
theorem lim_open (h : LimIs a P low lowBy op high highBy) (hs : ∀ b, b ∈ P → b.2 = a.2 → b ≠ a → a.1 < b.1) (hz : highBy ≠ 0) (ho : op = true) : low * highBy < high * lowBy ↔ SomeOf a P := by
  obtain ⟨c0, hc0, hl0, rfl, rfl⟩ := h.isHigh hz
  obtain ⟨b0, hb0, hg0, rfl, rfl⟩ := h.isLow ho
  have hbd := h.lowBd
  constructor
  · intro hp
    have hp0 : 0 < c0.1 - a.1 := by
      have h2 : 0 ≤ (a.1 - b0.1) * (a.2 - c0.2) := Int.mul_nonneg hbd.1 (by omega)
      exact Int.pos_of_mul_pos_left (show 0 < (c0.1 - a.1) * (b0.2 - a.2) by omega) (by omega)
    have hflat : ∀ c, c ∈ P → c.2 < a.2 → a.1 < c.1 := fun c hc hl => by
      have h1 := h.minHigh c hc hl
      have h2 : 0 < (c0.1 - a.1) * (a.2 - c.2) := Int.mul_pos hp0 (by omega)
      have := Int.pos_of_mul_pos_left (show 0 < (c.1 - a.1) * (a.2 - c0.2) by omega) (by omega)
      omega
    refine ⟨hs, hflat, fun b hb c hc hab hca => ?_⟩
    have h2 := hflat c hc hca
    by_cases hba : b.1 ≤ a.1
    · have m1 := h.maxLow b hb hab hba
      have m2 := h.minHigh c hc hca
      rcases Int.lt_or_le ((a.1 - b.1) * (a.2 - c.2)) ((c.1 - a.1) * (b.2 - a.2)) with hlt | hle
      · exact hlt
      · exfalso
        have t1 := frac_trans (n1 := c0.1 - a.1) (d1 := a.2 - c0.2) (n2 := c.1 - a.1) (d2 := a.2 - c.2) (n3 := a.1 - b.1) (d3 := b.2 - a.2) (by omega) (by omega) (by omega) m2 hle
        have t2 := frac_trans (n1 := c0.1 - a.1) (d1 := a.2 - c0.2) (n2 := a.1 - b.1) (d2 := b.2 - a.2) (n3 := a.1 - b0.1) (d3 := b0.2 - a.2) (by omega) (by omega) (by omega) t1 m1
        omega
    · have h3 : (a.1 - b.1) * (a.2 - c.2) < 0 := Int.mul_neg_of_neg_of_pos (by omega) (by omega)
      have h4 : 0 < (c.1 - a.1) * (b.2 - a.2) := Int.mul_pos (by omega) (by omega)
      omega
  · intro hS
    exact hS.both b0 hb0 c0 hc0 hg0 hl0
end

/-- Rates fall. -/
def Falls (R : List (Int × Int)) : Prop := R.Pairwise fun a b => b.2 < a.2
/-- Lines whose rates fall are told by their members. -/
theorem falls_same : ∀ {R S : List (Int × Int)}, Falls R → Falls S → (∀ a, a ∈ R ↔ a ∈ S) → R = S
  | [], [], _, _, _ => rfl
  | [], s :: S, _, _, h => by have := (h s).2 (List.mem_cons_self ..); cases this
  | r :: R, [], _, _, h => by have := (h r).1 (List.mem_cons_self ..); cases this
  | r :: R, s :: S, hR, hS, h => by
    have hr := List.pairwise_cons.1 hR
    have hs := List.pairwise_cons.1 hS
    have e : r = s := by
      rcases List.mem_cons.1 ((h r).1 (List.mem_cons_self ..)) with e | h1
      · exact e
      · rcases List.mem_cons.1 ((h s).2 (List.mem_cons_self ..)) with e | h2
        · exact e.symm
        · have := hs.1 r h1
          have := hr.1 s h2
          omega
    subst e
    rw [falls_same hr.2 hs.2 fun a => ⟨fun ha => ?_, fun ha => ?_⟩]
    · rcases List.mem_cons.1 ((h a).1 (List.mem_cons_of_mem _ ha)) with e | h1
      · have := hr.1 a ha; rw [e] at this; omega
      · exact h1
    · rcases List.mem_cons.1 ((h a).2 (List.mem_cons_of_mem _ ha)) with e | h1
      · have := hs.1 a ha; rw [e] at this; omega
      · exact h1
/-- One line more among those whose rates fall. -/
theorem falls_put {R : List (Int × Int)} {x : Int × Int} {k : Nat} (hR : Falls R) (h1 : ∀ j y, j < k → R[j]? = some y → x.2 < y.2) (h2 : ∀ y, R[k]? = some y → ¬ x.2 < y.2) (hx : ∀ y, y ∈ R → y.2 ≠ x.2) : Falls (R.take k ++ x :: R.drop k) := by
  have hR' := hR
  unfold Falls at hR' ⊢
  rw [← List.take_append_drop k R, List.pairwise_append] at hR'
  have hd : ∀ y, y ∈ R.drop k → y.2 < x.2 := by
    intro y hy
    have hyR := List.mem_of_mem_drop hy
    rcases hq : R.drop k with _ | ⟨z, r⟩
    · rw [hq] at hy; cases hy
    · have hz : R[k]? = some z := by rw [← List.head?_drop, hq]; rfl
      have hz' := h2 z hz
      have hzx := hx z (List.mem_of_getElem? hz)
      rw [hq] at hy
      rcases List.mem_cons.1 hy with rfl | hy
      · omega
      · have := hR'.2.1
        rw [hq] at this
        have := (List.pairwise_cons.1 this).1 y hy
        omega
  have ht : ∀ y, y ∈ R.take k → x.2 < y.2 := by
    intro y hy
    obtain ⟨j, hj⟩ := List.mem_iff_getElem?.1 hy
    rw [List.getElem?_take] at hj
    split at hj
    · next h => exact h1 j y h hj
    · cases hj
  rw [List.pairwise_append]
  refine ⟨hR'.1, List.pairwise_cons.2 ⟨hd, hR'.2.1⟩, fun y hy z hz => ?_⟩
  rcases List.mem_cons.1 hz with rfl | hz
  · exact ht y hy
  · have := ht y hy
    have := hd z hz
    omega
/-- What the document's answer keeps at place i. -/
def KeptAt (L : List (Int × Int)) (i : Nat) (a : Int × Int) : Prop := SomeOf a L ∧ ∀ k, k < i → L[k]? ≠ some a
/-- What it has kept of the first i lines. -/
structure KeptTo (L : List (Int × Int)) (i : Nat) (R : List (Int × Int)) : Prop where
  falls : Falls R
  len : R.length ≤ i
  mem : ∀ a, a ∈ R ↔ SomeOf a L ∧ ∃ k, k < i ∧ L[k]? = some a
theorem kept_none (L : List (Int × Int)) : KeptTo L 0 [] := ⟨List.Pairwise.nil, Nat.le_refl _, fun a => ⟨fun h => (by cases h), fun ⟨_, k, hk, _⟩ => absurd hk (Nat.not_lt_zero _)⟩⟩
theorem kept_skip {L R : List (Int × Int)} {i : Nat} {x : Int × Int} (h : KeptTo L i R) (hx : L[i]? = some x) (hn : ¬ KeptAt L i x) : KeptTo L (i + 1) R := by
  refine ⟨h.falls, Nat.le_succ_of_le h.len, fun a => (h.mem a).trans ⟨fun ⟨h1, k, hk, e⟩ => ⟨h1, k, by omega, e⟩, fun ⟨h1, k, hk, e⟩ => ⟨h1, ?_⟩⟩⟩
  rcases Nat.lt_or_ge k i with hki | hki
  · exact ⟨k, hki, e⟩
  · have : k = i := by omega
    subst this
    rw [hx] at e
    injection e with e
    subst e
    rcases Classical.em (∃ k', k' < k ∧ L[k']? = some x) with h' | h'
    · exact h'
    · exact absurd ⟨h1, fun k' hk' e' => h' ⟨k', hk', e'⟩⟩ hn
theorem kept_put {L R : List (Int × Int)} {i k : Nat} {x : Int × Int} (h : KeptTo L i R) (hx : L[i]? = some x) (hk : KeptAt L i x) (h1 : ∀ j y, j < k → R[j]? = some y → x.2 < y.2) (h2 : ∀ y, R[k]? = some y → ¬ x.2 < y.2) : KeptTo L (i + 1) (R.take k ++ x :: R.drop k) := by
  have hxL := List.mem_of_getElem? hx
  refine ⟨falls_put h.falls h1 h2 fun y hy e => ?_, ?_, fun a => ?_⟩
  · obtain ⟨hy1, j, hj, ej⟩ := (h.mem y).1 hy
    have hyL := List.mem_of_getElem? ej
    by_cases hyx : y = x
    · subst hyx; exact hk.2 j hj ej
    · have a1 := hk.1.same y hyL e hyx
      have a2 := hy1.same x hxL e.symm (fun e => hyx e.symm)
      omega
  · have := h.len
    simp
    omega
  · have e : a ∈ R.take k ++ x :: R.drop k ↔ a = x ∨ a ∈ R := by
      rw [List.mem_append, List.mem_cons, ← or_assoc, or_comm (a := a ∈ R.take k), or_assoc, ← List.mem_append, List.take_append_drop]
    rw [e, h.mem a]
    constructor
    · rintro (rfl | ⟨h1, k', hk', e'⟩)
      · exact ⟨hk.1, i, by omega, hx⟩
      · exact ⟨h1, k', by omega, e'⟩
    · rintro ⟨h1, k', hk', e'⟩
      rcases Nat.lt_or_ge k' i with hki | hki
      · exact .inr ⟨h1, k', hki, e'⟩
      · have : k' = i := by omega
        subst this
        rw [hx] at e'
        injection e' with e'
        exact .inl e'.symm
end Go.Proofs.YtcldgpbimaoliaaDoor
