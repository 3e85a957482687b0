/- Own facts, put together: no statement of its own. -/
import Derived.Test.YtepnfioldbhffabDoorCAllPlain

/- Plain facts: deficit round robin: its steps, what holds in each state, and what two flows that wait get, after SHREEDHAR and VARGHESE. No Go text is named here. -/
namespace Go.Proofs.YtepnfioldbhffabDoor

/-- A state: packets that wait, by flows; credits; the row of flows; the flow that is served. -/
structure Drr where
  qs : Nat → List Nat
  cr : Nat → Int
  row : List Nat
  srv : Option Nat
def put1 {α : Type} (f : Nat → α) (k : Nat) (x : α) : Nat → α := fun i => if i = k then x else f i
theorem put1_same {α : Type} (f : Nat → α) (k : Nat) (x : α) : put1 f k x k = x := if_pos rfl
theorem put1_other {α : Type} (f : Nat → α) {k i : Nat} (x : α) (h : i ≠ k) : put1 f k x i = f i := if_neg h
/-- The flows that have packets: the one that is served ahead of the row. -/
def Drr.line (d : Drr) : List Nat := match d.srv with | some f => f :: d.row | none => d.row

section
variable (fl : Nat → Nat) (sz : Nat → Int) (qu : Nat → Int)
/-- A packet comes. -/
def Drr.come (d : Drr) (k : Nat) : Drr := { d with qs := put1 d.qs (fl k) (d.qs (fl k) ++ [k]), row := if fl k ∈ d.line then d.row else d.row ++ [fl k] }
/-- The first of the row is served. -/
def Drr.turn (d : Drr) (f : Nat) (r : List Nat) : Drr := { d with srv := some f, row := r, cr := put1 d.cr f (d.cr f + qu f) }
/-- It is served no more, and comes to the row's end. -/
def Drr.back (d : Drr) (f : Nat) : Drr := { d with srv := none, row := d.row ++ [f] }
/-- A packet is sent. -/
def Drr.sent (d : Drr) (f k : Nat) (r : List Nat) : Drr := if r = [] then { d with qs := put1 d.qs f [], cr := put1 d.cr f 0, srv := none } else { d with qs := put1 d.qs f r, cr := put1 d.cr f (d.cr f - sz k) }

/-- What holds in each state; M: no packet is greater. -/
structure DrrOk (M : Int) (d : Drr) : Prop where
  nodup : d.line.Nodup
  active : ∀ f, f ∈ d.line ↔ d.qs f ≠ []
  low : ∀ f, 0 ≤ d.cr f
  idle : ∀ f, d.qs f = [] → d.cr f = 0
  high : ∀ f, d.srv ≠ some f → d.cr f ≤ M - 1
  top : ∀ f, d.srv = some f → d.cr f ≤ M - 1 + qu f
  size : ∀ f k, k ∈ d.qs f → fl k = f ∧ 1 ≤ sz k ∧ sz k ≤ M
  big : 1 ≤ M
variable {fl sz qu} {M : Int} {d : Drr}

theorem Drr.line_come (d : Drr) (k : Nat) : (d.come fl k).line = if fl k ∈ d.line then d.line else d.line ++ [fl k] := by
  by_cases hm : fl k ∈ d.line
  · have e : (d.come fl k).row = d.row := if_pos hm
    rw [if_pos hm]
    show (match d.srv with | some f => f :: (d.come fl k).row | none => (d.come fl k).row) = d.line
    rw [e]
    rfl
  · have e : (d.come fl k).row = d.row ++ [fl k] := if_neg hm
    rw [if_neg hm]
    show (match d.srv with | some f => f :: (d.come fl k).row | none => (d.come fl k).row) = d.line ++ [fl k]
    rw [e]
    unfold Drr.line
    cases d.srv <;> rfl
theorem DrrOk.come (h : DrrOk fl sz qu M d) (k : Nat) (h1 : 1 ≤ sz k) (h2 : sz k ≤ M) : DrrOk fl sz qu M (d.come fl k) := by
  have hline := Drr.line_come (fl := fl) d k
  refine ⟨?_, fun f => ?_, h.low, fun f hf => ?_, h.high, h.top, fun f j hj => ?_, h.big⟩
  · rw [hline]
    split
    · exact h.nodup
    · next hn => exact List.nodup_append.2 ⟨h.nodup, List.nodup_cons.2 ⟨by simp, List.nodup_nil⟩, fun a ha b hb e => hn (by rw [List.mem_singleton] at hb; rw [← hb, ← e]; exact ha)⟩
  · rw [hline]
    show _ ↔ put1 d.qs (fl k) (d.qs (fl k) ++ [k]) f ≠ []
    by_cases e : f = fl k
    · subst e
      rw [put1_same]
      constructor
      · intro _ h0
        simp at h0
      · intro _
        split
        · next hm => exact hm
        · exact List.mem_append.2 (.inr (List.mem_singleton.2 rfl))
    · rw [put1_other _ _ e, ← h.active f]
      split
      · exact Iff.rfl
      · constructor
        · intro hm
          rcases List.mem_append.1 hm with hm | hm
          · exact hm
          · exact absurd (List.mem_singleton.1 hm) e
        · intro hm; exact List.mem_append.2 (.inl hm)
  · by_cases e : f = fl k
    · subst e
      have : (d.come fl k).qs (fl k) = d.qs (fl k) ++ [k] := put1_same _ _ _
      rw [this] at hf
      simp at hf
    · have : (d.come fl k).qs f = d.qs f := put1_other _ _ e
      rw [this] at hf
      exact h.idle f hf
  · by_cases e : f = fl k
    · subst e
      have e2 : (d.come fl k).qs (fl k) = d.qs (fl k) ++ [k] := put1_same _ _ _
      rw [e2] at hj
      rcases List.mem_append.1 hj with hj | hj
      · exact h.size _ j hj
      · rw [List.mem_singleton] at hj
        subst hj
        exact ⟨rfl, h1, h2⟩
    · have e2 : (d.come fl k).qs f = d.qs f := put1_other _ _ e
      rw [e2] at hj
      exact h.size f j hj
theorem DrrOk.turn (h : DrrOk fl sz qu M d) (hq : ∀ f, 1 ≤ qu f) (hs : d.srv = none) {f : Nat} {r : List Nat} (hr : d.row = f :: r) : DrrOk fl sz qu M (d.turn qu f r) := by
  have e0 : d.line = f :: r := by unfold Drr.line; rw [hs]; exact hr
  have hline : (d.turn qu f r).line = d.line := by rw [e0]; rfl
  have hne := (h.active f).1 (by rw [e0]; exact List.mem_cons_self ..)
  refine ⟨by rw [hline]; exact h.nodup, fun g => by rw [hline]; exact h.active g, fun g => ?_, fun g hg => ?_, fun g hg => ?_, fun g hg => ?_, h.size, h.big⟩
  · show 0 ≤ put1 d.cr f (d.cr f + qu f) g
    by_cases e : g = f
    · subst e
      rw [put1_same]
      have := h.low g; have := hq g; omega
    · rw [put1_other _ _ e]; exact h.low g
  · show put1 d.cr f (d.cr f + qu f) g = 0
    have hg' : d.qs g = [] := hg
    by_cases e : g = f
    · subst e; exact absurd hg' hne
    · rw [put1_other _ _ e]; exact h.idle g hg'
  · show put1 d.cr f (d.cr f + qu f) g ≤ M - 1
    by_cases e : g = f
    · subst e; exact absurd rfl hg
    · rw [put1_other _ _ e]; exact h.high g (by rw [hs]; intro e; cases e)
  · show put1 d.cr f (d.cr f + qu f) g ≤ M - 1 + qu g
    obtain rfl : f = g := Option.some.inj hg
    rw [put1_same]
    have := h.high f (by rw [hs]; intro e; cases e)
    omega
theorem DrrOk.back (h : DrrOk fl sz qu M d) {f k : Nat} {r : List Nat} (hs : d.srv = some f) (hk : d.qs f = k :: r) (hbig : d.cr f < sz k) : DrrOk fl sz qu M (d.back f) := by
  have e0 : d.line = f :: d.row := by unfold Drr.line; rw [hs]
  have hline : (d.back f).line = d.row ++ [f] := rfl
  have hsz := h.size f k (by rw [hk]; exact List.mem_cons_self ..)
  have hn := h.nodup
  rw [e0] at hn
  obtain ⟨n1, n2⟩ := List.nodup_cons.1 hn
  refine ⟨?_, fun g => ?_, h.low, h.idle, fun g _ => ?_, fun g hg => (by cases hg), h.size, h.big⟩
  · rw [hline]
    exact List.nodup_append.2 ⟨n2, List.nodup_cons.2 ⟨by simp, List.nodup_nil⟩, fun a ha b hb e => n1 (by rw [List.mem_singleton] at hb; rw [← hb, ← e]; exact ha)⟩
  · rw [hline]
    have := h.active g
    rw [e0] at this
    show _ ↔ d.qs g ≠ []
    rw [← this]
    simp only [List.mem_append, List.mem_cons, List.not_mem_nil, or_false]
    constructor
    · rintro (h | h)
      · exact .inr h
      · exact .inl h
    · rintro (h | h)
      · exact .inr h
      · exact .inl h
  · show d.cr g ≤ M - 1
    by_cases e : g = f
    · subst e; omega
    · exact h.high g (by rw [hs]; intro e'; exact e (Option.some.inj e').symm)
theorem DrrOk.sent (h : DrrOk fl sz qu M d) {f k : Nat} {r : List Nat} (hs : d.srv = some f) (hk : d.qs f = k :: r) (hfit : sz k ≤ d.cr f) : DrrOk fl sz qu M (d.sent sz f k r) := by
  have e0 : d.line = f :: d.row := by unfold Drr.line; rw [hs]
  have hsz := h.size f k (by rw [hk]; exact List.mem_cons_self ..)
  have hn := h.nodup
  rw [e0] at hn
  obtain ⟨n1, n2⟩ := List.nodup_cons.1 hn
  have hB := h.big
  by_cases hr : r = []
  · have e1 : d.sent sz f k r = { d with qs := put1 d.qs f [], cr := put1 d.cr f 0, srv := none } := if_pos hr
    rw [e1]
    refine ⟨n2, fun g => ?_, fun g => ?_, fun g hg => ?_, fun g _ => ?_, fun g hg => (by cases hg), fun g j hj => ?_, hB⟩
    · show g ∈ d.row ↔ put1 d.qs f [] g ≠ []
      have := h.active g
      rw [e0] at this
      by_cases e : g = f
      · subst e
        rw [put1_same]
        exact ⟨fun hm => absurd hm n1, fun h0 => absurd rfl h0⟩
      · rw [put1_other _ _ e, ← this]
        exact ⟨fun hm => List.mem_cons_of_mem _ hm, fun hm => by
          rcases List.mem_cons.1 hm with hm | hm
          · exact absurd hm e
          · exact hm⟩
    · show 0 ≤ put1 d.cr f 0 g
      by_cases e : g = f
      · subst e; rw [put1_same]; exact Int.le_refl _
      · rw [put1_other _ _ e]; exact h.low g
    · show put1 d.cr f 0 g = 0
      by_cases e : g = f
      · subst e; exact put1_same _ _ _
      · have hg' : put1 d.qs f [] g = [] := hg
        rw [put1_other _ _ e] at hg' ⊢
        exact h.idle g hg'
    · show put1 d.cr f 0 g ≤ M - 1
      by_cases e : g = f
      · subst e; rw [put1_same]; omega
      · rw [put1_other _ _ e]
        exact h.high g (by rw [hs]; intro e'; exact e (Option.some.inj e').symm)
    · have hj' : j ∈ put1 d.qs f [] g := hj
      by_cases e : g = f
      · subst e; rw [put1_same] at hj'; cases hj'
      · rw [put1_other _ _ e] at hj'; exact h.size g j hj'
  · have e1 : d.sent sz f k r = { d with qs := put1 d.qs f r, cr := put1 d.cr f (d.cr f - sz k) } := if_neg hr
    rw [e1]
    refine ⟨h.nodup, fun g => ?_, fun g => ?_, fun g hg => ?_, fun g hg => ?_, fun g hg => ?_, fun g j hj => ?_, hB⟩
    · show g ∈ d.line ↔ put1 d.qs f r g ≠ []
      by_cases e : g = f
      · subst e
        rw [put1_same]
        exact ⟨fun _ => hr, fun _ => by rw [e0]; exact List.mem_cons_self ..⟩
      · rw [put1_other _ _ e]; exact h.active g
    · show 0 ≤ put1 d.cr f (d.cr f - sz k) g
      by_cases e : g = f
      · subst e; rw [put1_same]; omega
      · rw [put1_other _ _ e]; exact h.low g
    · show put1 d.cr f (d.cr f - sz k) g = 0
      have hg' : put1 d.qs f r g = [] := hg
      by_cases e : g = f
      · subst e; rw [put1_same] at hg'; exact absurd hg' hr
      · rw [put1_other _ _ e] at hg' ⊢; exact h.idle g hg'
    · show put1 d.cr f (d.cr f - sz k) g ≤ M - 1
      have hg' : d.srv ≠ some g := hg
      have e : g ≠ f := fun e => hg' (by rw [e]; exact hs)
      rw [put1_other _ _ e]; exact h.high g hg'
    · show put1 d.cr f (d.cr f - sz k) g ≤ M - 1 + qu g
      have hg' : d.srv = some g := hg
      obtain rfl : f = g := Option.some.inj (hs.symm.trans hg')
      rw [put1_same]
      have := h.top f hs
      omega
    · have hj' : j ∈ put1 d.qs f r g := hj
      by_cases e : g = f
      · subst e
        rw [put1_same] at hj'
        exact h.size g j (by rw [hk]; exact List.mem_cons_of_mem _ hj')
      · rw [put1_other _ _ e] at hj'; exact h.size g j hj'

/-- Is a ahead of b? -/
def aheadOf (a b : Nat) : List Nat → Bool
  | [] => true
  | x :: r => if x = a then true else if x = b then false else aheadOf a b r
theorem aheadOf_append {a b : Nat} : ∀ (l m : List Nat), a ∈ l ∨ b ∈ l → aheadOf a b (l ++ m) = aheadOf a b l := by
  intro l m
  induction l with
  | nil => intro h; rcases h with h | h <;> cases h
  | cons x r ih =>
    intro h
    simp only [List.cons_append, aheadOf]
    by_cases e : x = a
    · rw [if_pos e, if_pos e]
    · by_cases e2 : x = b
      · rw [if_neg e, if_neg e, if_pos e2, if_pos e2]
      · rw [if_neg e, if_neg e, if_neg e2, if_neg e2]
        refine ih ?_
        rcases h with h | h
        · rcases List.mem_cons.1 h with h | h
          · exact absurd h.symm e
          · exact .inl h
        · rcases List.mem_cons.1 h with h | h
          · exact absurd h.symm e2
          · exact .inr h
theorem aheadOf_end {a b : Nat} : ∀ (l : List Nat), a ∉ l → b ∈ l → aheadOf a b l = false := by
  intro l
  induction l with
  | nil => intro _ h; cases h
  | cons x r ih =>
    intro h1 h2
    simp only [aheadOf]
    have e : x ≠ a := fun e => h1 (by rw [e]; exact List.mem_cons_self ..)
    rw [if_neg e]
    by_cases e2 : x = b
    · rw [if_pos e2]
    · rw [if_neg e2]
      refine ih (fun h => h1 (List.mem_cons_of_mem _ h)) ?_
      rcases List.mem_cons.1 h2 with h | h
      · exact absurd h.symm e2
      · exact h
theorem aheadOf_end' {a b : Nat} : ∀ (l : List Nat), b ∉ l → a ∈ l → aheadOf a b l = true := by
  intro l
  induction l with
  | nil => intro _ h; cases h
  | cons x r ih =>
    intro h1 h2
    simp only [aheadOf]
    by_cases e : x = a
    · rw [if_pos e]
    · rw [if_neg e, if_neg (fun e => h1 (by rw [e]; exact List.mem_cons_self ..))]
      refine ih (fun h => h1 (List.mem_cons_of_mem _ h)) ?_
      rcases List.mem_cons.1 h2 with h | h
      · exact absurd h.symm e
      · exact h
/-- Which of two flows is next to be served: 0 or 1. -/
def Drr.pot (d : Drr) (a b : Nat) : Int := (if aheadOf a b d.line then 0 else 1) + (if d.srv = some a then 1 else 0) - (if d.srv = some b then 1 else 0)
/-- What a has got more than b, by quanta, but for the start. -/
def Drr.lead (d : Drr) (qu : Nat → Int) (a b : Nat) : Int := qu a * qu b * d.pot a b - d.cr a * qu b + d.cr b * qu a
theorem Drr.pot_in (d : Drr) {a b : Nat} (hab : a ≠ b) : 0 ≤ d.pot a b ∧ d.pot a b ≤ 1 := by
  unfold Drr.pot Drr.line
  cases hs : d.srv with
  | none => simp only; split <;> simp
  | some f =>
    simp only [Option.some.injEq]
    by_cases e : f = a
    · subst e
      simp [aheadOf, hab]
    · by_cases e2 : f = b
      · subst e2
        simp [aheadOf, e]
      · rw [if_neg e, if_neg e2]
        split <;> simp
theorem DrrOk.cr_in (h : DrrOk fl sz qu M d) (hq : ∀ f, 1 ≤ qu f) (f : Nat) : 0 ≤ d.cr f ∧ d.cr f ≤ M - 1 + qu f := by
  refine ⟨h.low f, ?_⟩
  by_cases e : d.srv = some f
  · exact h.top f e
  · have := h.high f e; have := hq f; omega
/-- The lead of any two states are so far from each other at most. -/
theorem lead_bound {d e : Drr} {a b : Nat} (hab : a ≠ b) (hq : ∀ f, 1 ≤ qu f) (h : DrrOk fl sz qu M d) (k : DrrOk fl sz qu M e) : e.lead qu a b - d.lead qu a b ≤ 3 * qu a * qu b + M * (qu a + qu b) := by
  have p1 := d.pot_in hab
  have p2 := e.pot_in hab
  have c1 := h.cr_in hq a
  have c2 := h.cr_in hq b
  have c3 := k.cr_in hq a
  have c4 := k.cr_in hq b
  have qa := hq a
  have qb := hq b
  have hM := h.big
  unfold Drr.lead
  generalize d.pot a b = x at *
  generalize e.pot a b = y at *
  generalize d.cr a = s at *
  generalize d.cr b = t at *
  generalize e.cr a = u at *
  generalize e.cr b = v at *
  generalize qu a = A at *
  generalize qu b = B at *
  have g0 : 0 ≤ A * B := Int.mul_nonneg (by omega) (by omega)
  have g1 : A * B * y ≤ A * B * 1 := Int.mul_le_mul_of_nonneg_left p2.2 g0
  have g2 : A * B * 0 ≤ A * B * x := Int.mul_le_mul_of_nonneg_left p1.1 g0
  have g3 : s * B ≤ (M - 1 + A) * B := Int.mul_le_mul_of_nonneg_right c1.2 (by omega)
  have g4 : 0 ≤ t * A := Int.mul_nonneg c2.1 (by omega)
  have g5 : 0 ≤ u * B := Int.mul_nonneg c3.1 (by omega)
  have g6 : v * A ≤ (M - 1 + B) * A := Int.mul_le_mul_of_nonneg_right c4.2 (by omega)
  have e1 : (M - 1 + A) * B = M * B - B + A * B := by rw [Int.add_mul, Int.sub_mul, Int.one_mul]
  have e2 : (M - 1 + B) * A = M * A - A + A * B := by rw [Int.add_mul, Int.sub_mul, Int.one_mul, Int.mul_comm B A]
  have e3 : 3 * A * B = A * B + A * B + A * B := by rw [Int.mul_assoc]; omega
  have e4 : M * (A + B) = M * A + M * B := Int.mul_add ..
  rw [e1] at g3
  rw [e2] at g6
  rw [e3, e4]
  omega

/-- While both wait: coming changes nothing. -/
theorem lead_come {a b : Nat} (k : Nat) (ha : a ∈ d.line) : (d.come fl k).lead qu a b = d.lead qu a b := by
  have hp : (d.come fl k).pot a b = d.pot a b := by
    unfold Drr.pot
    rw [Drr.line_come]
    have e : (d.come fl k).srv = d.srv := rfl
    rw [e]
    split
    · rfl
    · rw [aheadOf_append _ _ (.inl ha)]
  unfold Drr.lead
  rw [hp]
  rfl
theorem lead_turn {a b : Nat} (hab : a ≠ b) (hs : d.srv = none) {f : Nat} {r : List Nat} (hr : d.row = f :: r) : (d.turn qu f r).lead qu a b = d.lead qu a b := by
  have e0 : d.line = f :: r := by unfold Drr.line; rw [hs]; exact hr
  have hline : (d.turn qu f r).line = d.line := by rw [e0]; rfl
  have hs2 : (d.turn qu f r).srv = some f := rfl
  have hc : (d.turn qu f r).cr = put1 d.cr f (d.cr f + qu f) := rfl
  unfold Drr.lead Drr.pot
  rw [hline, hs2, hs, hc, e0]
  simp only [aheadOf, Option.some.injEq]
  by_cases ea : f = a
  · subst ea
    rw [put1_same, put1_other _ _ (Ne.symm hab)]
    simp only [if_true, if_neg hab, reduceCtorEq, if_false]
    rw [Int.add_mul]
    omega
  · by_cases eb : f = b
    · subst eb
      rw [put1_same, put1_other _ _ (Ne.symm ea)]
      simp only [if_true, if_neg ea, reduceCtorEq, if_false, Bool.false_eq_true]
      rw [Int.add_mul, Int.mul_comm (qu f) (qu a)]
      omega
    · rw [put1_other _ _ (Ne.symm ea), put1_other _ _ (Ne.symm eb)]
      simp only [if_neg ea, if_neg eb, reduceCtorEq, if_false]
theorem lead_back {a b : Nat} (hab : a ≠ b) (hn : d.line.Nodup) {f : Nat} (hs : d.srv = some f) (ha : a ∈ d.line) (hb : b ∈ d.line) : (d.back f).lead qu a b = d.lead qu a b := by
  have e0 : d.line = f :: d.row := by unfold Drr.line; rw [hs]
  have hline : (d.back f).line = d.row ++ [f] := rfl
  have hs2 : (d.back f).srv = none := rfl
  have hc : (d.back f).cr = d.cr := rfl
  rw [e0] at hn ha hb
  obtain ⟨n1, n2⟩ := List.nodup_cons.1 hn
  have hp : (d.back f).pot a b = d.pot a b := by
    unfold Drr.pot
    rw [hline, hs2, hs, e0]
    by_cases ea : f = a
    · subst ea
      have hb' : b ∈ d.row := by
        rcases List.mem_cons.1 hb with h | h
        · exact absurd h.symm hab
        · exact h
      have k1 : aheadOf f b (f :: d.row) = true := by simp [aheadOf]
      have k2 : aheadOf f b (d.row ++ [f]) = false := by rw [aheadOf_append _ _ (.inr hb')]; exact aheadOf_end _ n1 hb'
      simp [k1, k2, hab]
    · by_cases eb : f = b
      · subst eb
        have ha' : a ∈ d.row := by
          rcases List.mem_cons.1 ha with h | h
          · exact absurd h.symm ea
          · exact h
        have k1 : aheadOf a f (f :: d.row) = false := by simp [aheadOf, ea]
        have k2 : aheadOf a f (d.row ++ [f]) = true := by rw [aheadOf_append _ _ (.inl ha')]; exact aheadOf_end' _ n1 ha'
        simp [k1, k2, ea]
      · have ha' : a ∈ d.row := by
          rcases List.mem_cons.1 ha with h | h
          · exact absurd h.symm ea
          · exact h
        have k1 : aheadOf a b (f :: d.row) = aheadOf a b d.row := by simp [aheadOf, ea, eb]
        have k2 : aheadOf a b (d.row ++ [f]) = aheadOf a b d.row := aheadOf_append _ _ (.inl ha')
        simp [k1, k2, ea, eb]
  unfold Drr.lead
  rw [hp, hc]
/-- What a packet that is sent adds, while both still wait behind it. -/
theorem lead_sent {a b : Nat} (hab : a ≠ b) {f k : Nat} {r : List Nat} (hs : d.srv = some f) (ha : (d.sent sz f k r).qs a ≠ []) (hb : (d.sent sz f k r).qs b ≠ []) :
    (d.sent sz f k r).lead qu a b = d.lead qu a b + (if f = a then sz k * qu b else 0) - (if f = b then sz k * qu a else 0) := by
  have e0 : d.line = f :: d.row := by unfold Drr.line; rw [hs]
  by_cases hr : r = []
  · have e1 : d.sent sz f k r = { d with qs := put1 d.qs f [], cr := put1 d.cr f 0, srv := none } := if_pos hr
    rw [e1] at ha hb ⊢
    have ea : f ≠ a := fun e => ha (by subst e; exact put1_same _ _ _)
    have eb : f ≠ b := fun e => hb (by subst e; exact put1_same _ _ _)
    rw [if_neg ea, if_neg eb]
    unfold Drr.lead Drr.pot
    have hl : ({ d with qs := put1 d.qs f [], cr := put1 d.cr f 0, srv := none } : Drr).line = d.row := rfl
    rw [hl, e0, hs]
    simp only [aheadOf, Option.some.injEq, reduceCtorEq, if_false, if_neg ea, if_neg eb]
    rw [put1_other _ _ (Ne.symm ea), put1_other _ _ (Ne.symm eb)]
    omega
  · have e1 : d.sent sz f k r = { d with qs := put1 d.qs f r, cr := put1 d.cr f (d.cr f - sz k) } := if_neg hr
    rw [e1]
    unfold Drr.lead Drr.pot
    have hl : ({ d with qs := put1 d.qs f r, cr := put1 d.cr f (d.cr f - sz k) } : Drr).line = d.line := rfl
    rw [hl]
    by_cases ea : f = a
    · subst ea
      simp only [put1_same, put1_other _ _ (Ne.symm hab), if_true, if_neg hab]
      rw [Int.sub_mul]
      omega
    · by_cases eb : f = b
      · subst eb
        simp only [put1_same, put1_other _ _ (Ne.symm ea), if_true, if_neg ea]
        rw [Int.sub_mul]
        omega
      · simp only [put1_other _ _ (Ne.symm ea), put1_other _ _ (Ne.symm eb), if_neg ea, if_neg eb]
        omega
end
end Go.Proofs.YtepnfioldbhffabDoor

/- Plain facts: deficit round robin: the search for the next packet; what a run of it keeps; how far two flows are from each other. No Go text is named here. -/
namespace Go.Proofs.YtepnfioldbhffabDoor

section
variable (fl : Nat → Nat) (sz : Nat → Int) (qu : Nat → Int)
/-- The next packet, and what is left: so many steps at most. -/
def Drr.go : Nat → Drr → Option (Nat × Drr)
  | 0, _ => none
  | n + 1, d => match d.srv with
    | none => (match d.row with | [] => none | f :: r => Drr.go n (d.turn qu f r))
    | some f => (match d.qs f with | [] => none | k :: r => if sz k ≤ d.cr f then some (k, d.sent sz f k r) else Drr.go n (d.back f))
/-- The next packet is k, and e is left. -/
def Picks (d : Drr) (k : Nat) (e : Drr) : Prop := ∃ n, Drr.go sz qu n d = some (k, e)
/-- Where a packet is sent: the state just ahead of it. -/
structure SendsAt (M : Int) (d : Drr) (k : Nat) (e : Drr) (f : Nat) (r : List Nat) (c : Drr) : Prop where
  ok : DrrOk fl sz qu M c
  srv : c.srv = some f
  head : c.qs f = k :: r
  fit : sz k ≤ c.cr f
  left : e = c.sent sz f k r
  same : c.qs = d.qs
  lead : ∀ a b, a ≠ b → a ∈ d.line → b ∈ d.line → c.lead qu a b = d.lead qu a b
variable {fl sz qu} {M : Int}
theorem go_sends (hq : ∀ f, 1 ≤ qu f) : ∀ (n : Nat) (d : Drr) (k : Nat) (e : Drr), DrrOk fl sz qu M d → Drr.go sz qu n d = some (k, e) → ∃ f r c, SendsAt fl sz qu M d k e f r c := by
  intro n
  induction n with
  | zero => intro d k e _ h; simp [Drr.go] at h
  | succ n ih =>
    intro d k e hok h
    unfold Drr.go at h
    cases hs : d.srv with
    | none =>
      rw [hs] at h
      simp only at h
      cases hr : d.row with
      | nil => rw [hr] at h; simp at h
      | cons f r =>
        rw [hr] at h
        simp only at h
        have e0 : d.line = f :: r := by unfold Drr.line; rw [hs]; exact hr
        have hline : (d.turn qu f r).line = d.line := by rw [e0]; rfl
        obtain ⟨f', r', c, h1⟩ := ih _ k e (hok.turn hq hs hr) h
        exact ⟨f', r', c, h1.ok, h1.srv, h1.head, h1.fit, h1.left, h1.same, fun a b hab ha hb => (h1.lead a b hab (by rw [hline]; exact ha) (by rw [hline]; exact hb)).trans (lead_turn hab hs hr)⟩
    | some f =>
      rw [hs] at h
      simp only at h
      cases hk : d.qs f with
      | nil => rw [hk] at h; simp at h
      | cons j r =>
        rw [hk] at h
        simp only at h
        by_cases hfit : sz j ≤ d.cr f
        · rw [if_pos hfit] at h
          have h := Option.some.inj h
          obtain ⟨rfl, rfl⟩ := Prod.mk.inj h
          exact ⟨f, r, d, hok, hs, hk, hfit, rfl, rfl, fun _ _ _ _ _ => rfl⟩
        · rw [if_neg hfit] at h
          have e0 : d.line = f :: d.row := by unfold Drr.line; rw [hs]
          have hline : (d.back f).line = d.row ++ [f] := rfl
          have hmem : ∀ a, a ∈ d.line → a ∈ (d.back f).line := fun a ha => by
            rw [e0] at ha
            rw [hline]
            rcases List.mem_cons.1 ha with ha | ha
            · exact List.mem_append.2 (.inr (List.mem_singleton.2 ha))
            · exact List.mem_append.2 (.inl ha)
          obtain ⟨f', r', c, h1⟩ := ih _ k e (hok.back hs hk (Int.lt_of_not_ge hfit)) h
          exact ⟨f', r', c, h1.ok, h1.srv, h1.head, h1.fit, h1.left, h1.same, fun a b hab ha hb => (h1.lead a b hab (hmem a ha) (hmem b hb)).trans (lead_back hab hok.nodup hs ha hb)⟩
theorem go_more : ∀ (n : Nat) (d : Drr) (x : Nat × Drr), Drr.go sz qu n d = some x → Drr.go sz qu (n + 1) d = some x := by
  intro n
  induction n with
  | zero => intro d x h; simp [Drr.go] at h
  | succ n ih =>
    intro d x h
    rw [Drr.go] at h ⊢
    cases hs : d.srv with
    | none =>
      rw [hs] at h
      simp only at h ⊢
      cases hr : d.row with
      | nil => rw [hr] at h; simp at h
      | cons f r =>
        rw [hr] at h
        simp only at h ⊢
        exact ih _ _ h
    | some f =>
      rw [hs] at h
      simp only at h ⊢
      cases hk : d.qs f with
      | nil => rw [hk] at h; simp at h
      | cons j r =>
        rw [hk] at h
        simp only at h ⊢
        by_cases hfit : sz j ≤ d.cr f
        · rw [if_pos hfit] at h ⊢; exact h
        · rw [if_neg hfit] at h ⊢; exact ih _ _ h
theorem go_le {n m : Nat} {d : Drr} {x : Nat × Drr} (h : Drr.go sz qu n d = some x) (hm : n ≤ m) : Drr.go sz qu m d = some x := by
  induction m with
  | zero =>
    obtain rfl : n = 0 := by omega
    exact h
  | succ m ih =>
    rcases Nat.lt_or_ge n (m + 1) with h' | h'
    · exact go_more m d x (ih (by omega))
    · obtain rfl : n = m + 1 := by omega
      exact h
/-- The next packet is but one. -/
theorem Picks.same {d : Drr} {k k' : Nat} {e e' : Drr} (h : Picks sz qu d k e) (h' : Picks sz qu d k' e') : k = k' ∧ e = e' := by
  obtain ⟨n, h⟩ := h
  obtain ⟨m, h'⟩ := h'
  have h1 := go_le h (Nat.le_max_left n m)
  have h2 := go_le h' (Nat.le_max_right n m)
  exact Prod.mk.inj (Option.some.inj (h1.symm.trans h2))

/-- What a flow lacks for its first packet. -/
def Drr.lack (sz : Nat → Int) (d : Drr) (f : Nat) : Nat := match d.qs f with | [] => 0 | k :: _ => (sz k - d.cr f).toNat
def Drr.need (sz : Nat → Int) (d : Drr) : Nat := (d.line.map (d.lack sz)).sum
theorem mem_le_sum : ∀ (l : List Nat) (a : Nat), a ∈ l → a ≤ l.sum
  | [], _, h => by cases h
  | x :: r, a, h => by
    rw [List.sum_cons]
    rcases List.mem_cons.1 h with h | h
    · omega
    · have := mem_le_sum r a h; omega
/-- Where one waits, and none is served, the search ends. -/
theorem go_ends0 (hq : ∀ f, 1 ≤ qu f) : ∀ (N : Nat) (d : Drr), DrrOk fl sz qu M d → d.line ≠ [] → d.need sz ≤ N → d.srv = none → ∃ x, Drr.go sz qu (2 * N + 4) d = some x := by
  intro N
  induction N with
  | zero =>
    intro d hok hne hN hs
    have e0 : d.line = d.row := by unfold Drr.line; rw [hs]
    cases hr : d.row with
    | nil => rw [e0, hr] at hne; exact absurd rfl hne
    | cons f r =>
      have hf : f ∈ d.line := by rw [e0, hr]; exact List.mem_cons_self ..
      have h0 : d.lack sz f ≤ d.need sz := mem_le_sum _ _ (List.mem_map.2 ⟨f, hf, rfl⟩)
      have hne' := (hok.active f).1 hf
      unfold Drr.lack at h0
      cases hk : d.qs f with
      | nil => exact absurd hk hne'
      | cons k r' =>
        rw [hk] at h0
        simp only at h0
        have hcr : (d.turn qu f r).cr f = d.cr f + qu f := put1_same _ _ _
        have hs1 : (d.turn qu f r).srv = some f := rfl
        have hk1 : (d.turn qu f r).qs f = k :: r' := hk
        have hfit : sz k ≤ (d.turn qu f r).cr f := by rw [hcr]; have := hq f; omega
        refine ⟨(k, (d.turn qu f r).sent sz f k r'), ?_⟩
        rw [Drr.go, hs]
        simp only [hr]
        rw [Drr.go, hs1]
        simp only [hk1, if_pos hfit]
  | succ N ih =>
    intro d hok hne hN hs
    have e0 : d.line = d.row := by unfold Drr.line; rw [hs]
    cases hr : d.row with
    | nil => rw [e0, hr] at hne; exact absurd rfl hne
    | cons f r =>
      have hok1 := hok.turn hq hs hr
      have hf : d.qs f ≠ [] := (hok.active f).1 (by rw [e0, hr]; exact List.mem_cons_self ..)
      cases hk : d.qs f with
      | nil => exact absurd hk hf
      | cons k r' =>
        have hs1 : (d.turn qu f r).srv = some f := rfl
        have hk1 : (d.turn qu f r).qs f = k :: r' := hk
        by_cases hfit : sz k ≤ (d.turn qu f r).cr f
        · refine ⟨(k, (d.turn qu f r).sent sz f k r'), ?_⟩
          rw [show 2 * (N + 1) + 4 = (2 * N + 4) + 1 + 1 by omega, Drr.go, hs]
          simp only [hr]
          rw [Drr.go, hs1]
          simp only [hk1, if_pos hfit]
        · have hok2 := hok1.back hs1 hk1 (Int.lt_of_not_ge hfit)
          have hline2 : ((d.turn qu f r).back f).line = r ++ [f] := rfl
          have hcr : (d.turn qu f r).cr f = d.cr f + qu f := put1_same _ _ _
          have hn := hok.nodup
          rw [e0, hr] at hn
          obtain ⟨n1, n2⟩ := List.nodup_cons.1 hn
          have hl1 : ∀ g, g ∈ r → ((d.turn qu f r).back f).lack sz g = d.lack sz g := fun g hg => by
            have e : g ≠ f := fun e => n1 (by rw [← e]; exact hg)
            unfold Drr.lack
            show (match d.qs g with | [] => 0 | k :: _ => (sz k - put1 d.cr f (d.cr f + qu f) g).toNat) = _
            rw [put1_other _ _ e]
          have hl2 : ((d.turn qu f r).back f).lack sz f + 1 ≤ d.lack sz f := by
            unfold Drr.lack
            show (match d.qs f with | [] => 0 | k :: _ => (sz k - put1 d.cr f (d.cr f + qu f) f).toNat) + 1 ≤ _
            rw [put1_same, hk]
            simp only
            rw [hcr] at hfit
            have := hq f
            omega
          have hneed : ((d.turn qu f r).back f).need sz + 1 ≤ d.need sz := by
            unfold Drr.need
            rw [hline2, e0, hr, List.map_append, List.sum_append, List.map_cons, List.sum_cons, List.map_congr_left hl1]
            simp only [List.map_cons, List.map_nil, List.sum_cons, List.sum_nil]
            omega
          obtain ⟨x, hx⟩ := ih ((d.turn qu f r).back f) hok2 (by rw [hline2]; simp) (by omega) rfl
          refine ⟨x, ?_⟩
          rw [show 2 * (N + 1) + 4 = (2 * N + 4) + 1 + 1 by omega, Drr.go, hs]
          simp only [hr]
          rw [Drr.go, hs1]
          simp only [hk1, if_neg hfit]
          exact hx
/-- Where one waits, the search ends. -/
theorem go_ends (hq : ∀ f, 1 ≤ qu f) (N : Nat) (d : Drr) (hok : DrrOk fl sz qu M d) (hne : d.line ≠ []) (hN : d.need sz ≤ N) : ∃ x, Drr.go sz qu (2 * N + 5) d = some x := by
  cases hs : d.srv with
  | none =>
    obtain ⟨x, hx⟩ := go_ends0 hq N d hok hne hN hs
    exact ⟨x, go_more _ _ _ hx⟩
  | some f =>
    have e0 : d.line = f :: d.row := by unfold Drr.line; rw [hs]
    have hf : d.qs f ≠ [] := (hok.active f).1 (by rw [e0]; exact List.mem_cons_self ..)
    cases hk : d.qs f with
    | nil => exact absurd hk hf
    | cons k r' =>
      by_cases hfit : sz k ≤ d.cr f
      · refine ⟨(k, d.sent sz f k r'), ?_⟩
        rw [Drr.go, hs]
        simp only [hk, if_pos hfit]
      · have hok2 := hok.back hs hk (Int.lt_of_not_ge hfit)
        have hline2 : (d.back f).line = d.row ++ [f] := rfl
        have hneed : (d.back f).need sz = d.need sz := by
          have e1 : (d.back f).need sz = ((d.row ++ [f]).map (d.lack sz)).sum := rfl
          have e2 : d.need sz = ((f :: d.row).map (d.lack sz)).sum := by unfold Drr.need; rw [e0]
          rw [e1, e2, List.map_append, List.sum_append, List.map_cons, List.sum_cons]
          simp only [List.map_cons, List.map_nil, List.sum_cons, List.sum_nil]
          omega
        obtain ⟨x, hx⟩ := go_ends0 hq N (d.back f) hok2 (by rw [hline2]; simp) (by omega) rfl
        refine ⟨x, ?_⟩
        rw [Drr.go, hs]
        simp only [hk, if_neg hfit]
        exact hx
end
end Go.Proofs.YtepnfioldbhffabDoor

/- Plain facts: a run of deficit round robin, and how far two flows that wait are from each other in it. No Go text is named here. -/
namespace Go.Proofs.YtepnfioldbhffabDoor

/-- A queue that goes round by round, seen as a state. -/
structure RoundLaw {σ : Type} (Q : Que σ) (fl : Nat → Nat) (sz qu : Nat → Int) (q0 : σ) (ok : σ → Prop) (view : σ → Drr) : Prop where
  start : ok q0 ∧ view q0 = ⟨fun _ => [], fun _ => 0, [], none⟩
  come : ∀ q k, ok q → ok (Q.come q k) ∧ view (Q.come q k) = (view q).come fl k
  pick : ∀ q, ok q → 0 < Q.rest q → ok (Q.left q) ∧ Picks sz qu (view q) (Q.pick q) (view (Q.left q))
  rest : ∀ q, ok q → (Q.rest q = 0 ↔ (view q).line = [])
  idle : ∀ q, ok q → Q.rest q = 0 → ok (Q.idle q) ∧ view (Q.idle q) = view q

/-- What a run keeps: the states ahead of and behind each packet that was sent. -/
structure RoundRun {σ : Type} (fl : Nat → Nat) (sz qu : Nat → Int) (M : Int) (ps : List Pk) (ok : σ → Prop) (view : σ → Drr) (s : St σ) (H : List (Drr × Drr)) : Prop where
  good : ok s.q
  state : DrrOk fl sz qu M (view s.q)
  len : H.length = s.out.length
  each : ∀ (i : Nat) x h, s.out[i]? = some x → H[i]? = some h → ∃ k : Nat, x.num = k ∧ DrrOk fl sz qu M h.1 ∧ DrrOk fl sz qu M h.2 ∧ Picks sz qu h.1 k h.2 ∧ ∀ w : Nat, w < ps.length → tickOf ps w ≤ x.beg → isDone (s.out.take (i + 1)) w = false → w ∈ h.2.qs (fl w)
  next : ∀ (i : Nat) h h', H[i]? = some h → H[i + 1]? = some h' → ∀ a b, a ∈ h.2.line → b ∈ h.2.line → h'.1.lead qu a b = h.2.lead qu a b
  last : ∀ h, H[H.length - 1]? = some h → 0 < H.length → ∀ a b, a ∈ h.2.line → b ∈ h.2.line → (∀ c, c ∈ h.2.line → c ∈ (view s.q).line) ∧ (view s.q).lead qu a b = h.2.lead qu a b
  wait : ∀ w, w < s.next → isDone s.out w = false → w ∈ (view s.q).qs (fl w)
  only : ∀ f w, w ∈ (view s.q).qs f → w < s.next ∧ isDone s.out w = false
  le : s.next ≤ ps.length
  gone : ∀ w : Nat, isDone s.out w = true → w < s.next
  once : ∀ f, ((view s.q).qs f).Nodup

section
variable {σ : Type} {Q : Que σ} {fl : Nat → Nat} {sz qu : Nat → Int} {q0 : σ} {ok : σ → Prop} {view : σ → Drr} {M : Int} {per : Int} {ps : List Pk}
theorem come_line {d : Drr} {k c : Nat} (h : c ∈ d.line) : c ∈ (d.come fl k).line := by
  rw [Drr.line_come]
  split
  · exact h
  · exact List.mem_append.2 (.inl h)
theorem drrOk_none (hM : 1 ≤ M) : DrrOk fl sz qu M ⟨fun _ => [], fun _ => 0, [], none⟩ :=
  ⟨List.nodup_nil, fun f => ⟨(fun h => by cases h), fun h => absurd rfl h⟩, fun _ => Int.le_refl _, fun _ _ => rfl, (fun _ _ => by show (0 : Int) ≤ M - 1; omega), (fun _ h => by cases h), (fun _ _ h => by cases h), hM⟩
theorem sent_qs {d : Drr} {f k : Nat} {r : List Nat} : (d.sent sz f k r).qs = put1 d.qs f r := by
  unfold Drr.sent
  split
  · next h => rw [h]
  · rfl
theorem round_run (hL : RoundLaw Q fl sz qu q0 ok view) (hq : ∀ f, 1 ≤ qu f) (hM : 1 ≤ M) (hsz : ∀ k, k < ps.length → 1 ≤ sz k ∧ sz k ≤ M) (ho : OkPks ps) {s : St σ} (h : Reaches Q per ps q0 s) : ∃ H, RoundRun fl sz qu M ps ok view s H := by
  refine h.by_steps (C := fun s => ∃ H, RoundRun fl sz qu M ps ok view s H) ?_ ?_ ?_ ?_
  · refine ⟨[], hL.start.1, by rw [hL.start.2]; exact drrOk_none hM, rfl, fun i x h hx => by simp at hx, fun i h h' hx => by simp at hx, fun h _ h0 => by simp at h0, fun w hw => absurd hw (Nat.not_lt_zero _), fun f w hw => ?_, Nat.zero_le _, (fun w hw => by simp [isDone] at hw), fun f => ?_⟩
    rotate_left
    · show ((view q0).qs f).Nodup
      rw [hL.start.2]
      exact List.nodup_nil
    have : w ∈ (view q0).qs f := hw
    rw [hL.start.2] at this
    cases this
  · rintro s p hs hp ht ⟨H, r⟩
    obtain ⟨o1, o2⟩ := hL.come s.q s.next r.good
    have hlt := lt_of_get hp
    have hnew : isDone s.out s.next = false := by
      cases hd : isDone s.out s.next with
      | false => rfl
      | true => have := r.gone _ hd; omega
    refine ⟨H, o1, by rw [o2]; exact r.state.come _ (hsz _ hlt).1 (hsz _ hlt).2, r.len, r.each, r.next, fun h hh h0 a b ha hb => ?_, fun w hw hd => ?_, fun f w hw => ?_, hlt, fun w hw => Nat.lt_succ_of_lt (r.gone w hw), fun f => ?_⟩
    · obtain ⟨g1, g2⟩ := r.last h hh h0 a b ha hb
      refine ⟨fun c hc => by rw [o2]; exact come_line (g1 c hc), ?_⟩
      rw [o2, lead_come _ (g1 a ha)]
      exact g2
    · show w ∈ (view (Q.come s.q s.next)).qs (fl w)
      rw [o2]
      show w ∈ put1 (view s.q).qs (fl s.next) ((view s.q).qs (fl s.next) ++ [s.next]) (fl w)
      rcases Nat.lt_or_ge w s.next with hw' | hw'
      · have := r.wait w hw' hd
        by_cases e : fl w = fl s.next
        · rw [e, put1_same]; rw [e] at this; exact List.mem_append.2 (.inl this)
        · rw [put1_other _ _ e]; exact this
      · obtain rfl : w = s.next := by simp only at hw; omega
        rw [put1_same]
        exact List.mem_append.2 (.inr (List.mem_singleton.2 rfl))
    · have hw2 : w ∈ (view (Q.come s.q s.next)).qs f := hw
      rw [o2] at hw2
      have hw3 : w ∈ put1 (view s.q).qs (fl s.next) ((view s.q).qs (fl s.next) ++ [s.next]) f := hw2
      by_cases e : f = fl s.next
      · subst e
        rw [put1_same] at hw3
        rcases List.mem_append.1 hw3 with hw3 | hw3
        · obtain ⟨g1, g2⟩ := r.only _ w hw3
          exact ⟨Nat.lt_succ_of_lt g1, g2⟩
        · rw [List.mem_singleton] at hw3
          subst hw3
          exact ⟨Nat.lt_succ_self _, hnew⟩
      · rw [put1_other _ _ e] at hw3
        obtain ⟨g1, g2⟩ := r.only _ w hw3
        exact ⟨Nat.lt_succ_of_lt g1, g2⟩
    · show ((view (Q.come s.q s.next)).qs f).Nodup
      rw [o2]
      show (put1 (view s.q).qs (fl s.next) ((view s.q).qs (fl s.next) ++ [s.next]) f).Nodup
      by_cases e : f = fl s.next
      · subst e
        rw [put1_same]
        refine List.nodup_append.2 ⟨r.once _, List.nodup_cons.2 ⟨by simp, List.nodup_nil⟩, fun a ha b hb e => ?_⟩
        rw [List.mem_singleton] at hb
        have := (r.only _ a ha).1
        omega
      · rw [put1_other _ _ e]; exact r.once f
  · rintro s p hs hall h0 hp ⟨H, r⟩
    obtain ⟨o1, o2⟩ := hL.pick s.q r.good h0
    obtain ⟨n, hgo⟩ := o2
    obtain ⟨f, t, c, sa⟩ := go_sends hq n _ _ _ r.state hgo
    have hqs : (view (Q.left s.q)).qs = put1 (view s.q).qs f t := by rw [sa.left, sent_qs, sa.same]
    have hhead : (view s.q).qs f = Q.pick s.q :: t := by rw [← sa.same]; exact sa.head
    have hkm : Q.pick s.q ∈ (view s.q).qs f := by rw [hhead]; exact List.mem_cons_self ..
    obtain ⟨kf, ks1, ks2⟩ := r.state.size f _ hkm
    obtain ⟨k1, k2⟩ := r.only f _ hkm
    have hon := r.once f
    rw [hhead] at hon
    obtain ⟨n1, n2⟩ := List.nodup_cons.1 hon
    have hstay : ∀ w, w ∈ (view s.q).qs (fl w) → w ≠ Q.pick s.q → w ∈ (view (Q.left s.q)).qs (fl w) := by
      intro w hw hne
      rw [hqs]
      by_cases e : fl w = f
      · rw [e, put1_same]
        rw [e, hhead] at hw
        rcases List.mem_cons.1 hw with h | h
        · exact absurd h hne
        · exact h
      · rw [put1_other _ _ e]; exact hw
    have hnd : ∀ w : Nat, isDone (s.out ++ [⟨(Q.pick s.q : Nat), s.now, s.now + per * p.size⟩]) w = false → isDone s.out w = false ∧ w ≠ Q.pick s.q := by
      intro w hw
      rw [isDone_snoc, Bool.or_eq_false_iff] at hw
      exact ⟨hw.1, fun e => beq_eq_false_iff_ne.1 hw.2 e.symm⟩
    refine ⟨H ++ [(view s.q, view (Q.left s.q))], o1, by rw [sa.left]; exact sa.ok.sent sa.srv sa.head sa.fit, by simp [r.len], fun i x h hx hh => ?_, fun i h h' hh hh' a b ha hb => ?_, fun h hh _ a b ha hb => ?_, fun w hw hd => ?_, fun f' w hw => ?_, r.le, fun w hw => ?_, fun f' => ?_⟩
    · have hil := lt_of_get hx
      simp only [List.length_append, List.length_cons, List.length_nil] at hil
      rcases Nat.lt_or_ge i s.out.length with h' | h'
      · simp only [List.getElem?_append_left h'] at hx
        rw [List.getElem?_append_left (by rw [r.len]; exact h')] at hh
        simp only [List.take_append_of_le_length (show i + 1 ≤ s.out.length by omega)]
        exact r.each i x h hx hh
      · obtain rfl : i = s.out.length := by omega
        simp only [List.getElem?_append_right (Nat.le_refl _), Nat.sub_self, List.getElem?_cons_zero, Option.some.injEq] at hx
        rw [List.getElem?_append_right (by rw [r.len]; exact Nat.le_refl _), r.len, Nat.sub_self, List.getElem?_cons_zero] at hh
        have hh := Option.some.inj hh
        subst hx
        subst hh
        refine ⟨Q.pick s.q, rfl, r.state, by rw [sa.left]; exact sa.ok.sent sa.srv sa.head sa.fit, ⟨n, hgo⟩, fun w hw ht hd => ?_⟩
        rw [List.take_of_length_le (by simp)] at hd
        obtain ⟨d1, d2⟩ := hnd w hd
        refine hstay w (r.wait w ?_ d1) d2
        rcases Nat.lt_or_ge w s.next with h3 | h3
        · exact h3
        · have hnl : s.next < ps.length := by omega
          have e : ps[s.next]? = some ps[s.next] := List.getElem?_eq_getElem hnl
          have a1 := hall _ e
          have a2 := ticks_le ho h3 hw
          rw [tickOf_get e] at a2
          simp only at ht
          omega
    · have hil := lt_of_get hh'
      simp only [List.length_append, List.length_cons, List.length_nil] at hil
      rcases Nat.lt_or_ge (i + 1) H.length with h3 | h3
      · rw [List.getElem?_append_left (by omega)] at hh
        rw [List.getElem?_append_left h3] at hh'
        exact r.next i h h' hh hh' a b ha hb
      · have e1 : i + 1 = H.length := by omega
        rw [List.getElem?_append_left (by omega)] at hh
        rw [List.getElem?_append_right (by omega), e1, Nat.sub_self, List.getElem?_cons_zero] at hh'
        have hh' := Option.some.inj hh'
        subst hh'
        exact (r.last h (by rw [show H.length - 1 = i by omega]; exact hh) (by omega) a b ha hb).2
    · simp only [List.length_append, List.length_cons, List.length_nil, Nat.add_sub_cancel] at hh
      rw [List.getElem?_append_right (Nat.le_refl _), Nat.sub_self, List.getElem?_cons_zero] at hh
      have hh := Option.some.inj hh
      subst hh
      exact ⟨fun c hc => hc, rfl⟩
    · obtain ⟨d1, d2⟩ := hnd w hd
      exact hstay w (r.wait w hw d1) d2
    · have hw2 : w ∈ (view (Q.left s.q)).qs f' := hw
      rw [hqs] at hw2
      have hw3 : w ∈ (view s.q).qs f' ∧ w ≠ Q.pick s.q := by
        by_cases e : f' = f
        · subst e
          rw [put1_same] at hw2
          exact ⟨by rw [hhead]; exact List.mem_cons_of_mem _ hw2, fun e => n1 (by rw [← e]; exact hw2)⟩
        · rw [put1_other _ _ e] at hw2
          exact ⟨hw2, fun e2 => e (by rw [← (r.state.size f' w hw2).1, e2]; exact kf)⟩
      obtain ⟨g1, g2⟩ := r.only f' w hw3.1
      refine ⟨g1, ?_⟩
      rw [isDone_snoc, g2, Bool.false_or]
      exact beq_eq_false_iff_ne.2 (fun e => hw3.2 e.symm)
    · rw [isDone_snoc, Bool.or_eq_true] at hw
      show w < s.next
      rcases hw with hw | hw
      · exact r.gone w hw
      · have := beq_iff_eq.1 hw
        omega
    · show ((view (Q.left s.q)).qs f').Nodup
      rw [hqs]
      by_cases e : f' = f
      · subst e; rw [put1_same]; exact n2
      · rw [put1_other _ _ e]; exact r.once f'
  · rintro s p hs hp ht h0 ⟨H, r⟩
    obtain ⟨i1, i2⟩ := hL.idle s.q r.good h0
    exact ⟨H, i1, by rw [i2]; exact r.state, r.len, r.each, r.next, by rw [i2]; exact r.last, by rw [i2]; exact r.wait, by rw [i2]; exact r.only, r.le, r.gone, by rw [i2]; exact r.once⟩

/-- Bytes of a flow in a stretch: n packets from i on. -/
def gotTo (fl : Nat → Nat) (sz : Nat → Int) (l : List Sn) (a i : Nat) : Nat → Int
  | 0 => 0
  | n + 1 => gotTo fl sz l a i n + (match l[i + n]? with | some x => (if fl x.num.toNat = a then sz x.num.toNat else 0) | none => 0)
/-- A flow has packets waiting where one is sent. -/
def WaitsAt (fl : Nat → Nat) (ps : List Pk) (l : List Sn) (a i : Nat) : Prop := ∃ (j : Nat) (x y : Sn), i < j ∧ l[i]? = some y ∧ l[j]? = some x ∧ fl x.num.toNat = a ∧ tickOf ps x.num.toNat ≤ y.beg
theorem round_waits {s : St σ} {H : List (Drr × Drr)} (r : RoundRun fl sz qu M ps ok view s H) (hnd : (numsOf s.out).Nodup) (hlt : ∀ (i : Nat) x, s.out[i]? = some x → ∃ k : Nat, x.num = k ∧ k < ps.length) {a i : Nat} {h : Drr × Drr} (hh : H[i]? = some h) (hw : WaitsAt fl ps s.out a i) : h.2.qs a ≠ [] := by
  obtain ⟨j, x, y, hij, hy, hx, hf, ht⟩ := hw
  obtain ⟨k, -, -, -, -, hall⟩ := r.each i y h hy hh
  obtain ⟨w, hxw, hwl⟩ := hlt j x hx
  have e : x.num.toNat = w := by rw [hxw]; simp
  rw [e] at hf ht
  have hm := hall w hwl ht (by
    refine isDone_false.2 fun z hz ez => ?_
    obtain ⟨m, hm⟩ := List.mem_iff_getElem?.1 hz
    rw [List.getElem?_take] at hm
    by_cases hmi : m < i + 1
    · rw [if_pos hmi] at hm
      have h1 : (numsOf s.out)[m]? = some w := by simp only [numsOf, List.getElem?_map, hm, Option.map_some, ez, Int.toNat_natCast]
      have h2 : (numsOf s.out)[j]? = some w := by simp only [numsOf, List.getElem?_map, hx, Option.map_some, e]
      have := (List.getElem?_inj (lt_of_get h1) hnd).1 (h1.trans h2.symm)
      omega
    · rw [if_neg hmi] at hm; cases hm)
  rw [hf] at hm
  intro e0
  rw [e0] at hm
  cases hm
/-- What one packet adds to the lead. -/
theorem round_one {s : St σ} {H : List (Drr × Drr)} (hq : ∀ f, 1 ≤ qu f) (r : RoundRun fl sz qu M ps ok view s H) {a b i : Nat} (hab : a ≠ b) {x : Sn} {h : Drr × Drr} (hx : s.out[i]? = some x) (hh : H[i]? = some h) (ha : h.2.qs a ≠ []) (hb : h.2.qs b ≠ []) :
    h.2.lead qu a b = h.1.lead qu a b + (if fl x.num.toNat = a then sz x.num.toNat else 0) * qu b - (if fl x.num.toNat = b then sz x.num.toNat else 0) * qu a := by
  obtain ⟨k, hk, ok1, ok2, ⟨n, hgo⟩, -⟩ := r.each i x h hx hh
  obtain ⟨f, t, c, sa⟩ := go_sends hq n _ _ _ ok1 hgo
  have e : x.num.toNat = k := by rw [hk]; simp
  have hkf : fl k = f := (sa.ok.size f k (by rw [sa.head]; exact List.mem_cons_self ..)).1
  have hsub : ∀ g, h.2.qs g ≠ [] → g ∈ h.1.line := fun g hg => by
    refine (ok1.active g).2 ?_
    rw [← sa.same]
    rw [sa.left, sent_qs] at hg
    by_cases eg : g = f
    · subst eg; rw [sa.head]; simp
    · rw [put1_other _ _ eg] at hg; exact hg
  have h1 := sa.lead a b hab (hsub a ha) (hsub b hb)
  rw [sa.left] at ha hb ⊢
  rw [lead_sent hab sa.srv ha hb, h1, e, hkf]
  by_cases e1 : f = a
  · by_cases e2 : f = b
    · exact absurd (e1.symm.trans e2) hab
    · simp [e1, hab]
  · by_cases e2 : f = b
    · simp [e2, Ne.symm hab]
    · simp [e1, e2]
theorem round_sum {s : St σ} {H : List (Drr × Drr)} (hq : ∀ f, 1 ≤ qu f) (r : RoundRun fl sz qu M ps ok view s H) {a b i : Nat} (hab : a ≠ b) : ∀ (n : Nat) (h h' : Drr × Drr), H[i]? = some h → H[i + n]? = some h' → (∀ j g, i ≤ j → j ≤ i + n → H[j]? = some g → g.2.qs a ≠ [] ∧ g.2.qs b ≠ []) →
    h'.2.lead qu a b - h.1.lead qu a b = gotTo fl sz s.out a i (n + 1) * qu b - gotTo fl sz s.out b i (n + 1) * qu a := by
  intro n
  induction n with
  | zero =>
    intro h h' hh hh' hact
    have e : h = h' := Option.some.inj (hh.symm.trans hh')
    subst e
    obtain ⟨ha, hb⟩ := hact i h (Nat.le_refl _) (Nat.le_refl _) hh
    have hil := lt_of_get hh
    rw [r.len] at hil
    have hx : s.out[i]? = some s.out[i] := List.getElem?_eq_getElem hil
    have h1 := round_one hq r hab hx hh ha hb
    simp only [gotTo, Nat.add_zero, hx, Int.zero_add]
    omega
  | succ n ih =>
    intro h h' hh hh' hact
    have hil := lt_of_get hh'
    have hm : H[i + n]? = some H[i + n] := List.getElem?_eq_getElem (by omega)
    have h1 := ih h _ hh hm (fun j g h1 h2 hg => hact j g h1 (by omega) hg)
    obtain ⟨ma, mb⟩ := hact (i + n) _ (by omega) (by omega) hm
    obtain ⟨ha, hb⟩ := hact (i + (n + 1)) h' (by omega) (Nat.le_refl _) hh'
    obtain ⟨ok1, ok2⟩ : DrrOk fl sz qu M (H[i + n]).1 ∧ DrrOk fl sz qu M (H[i + n]).2 := by
      have hx : s.out[i + n]? = some (s.out[i + n]'(by rw [← r.len]; omega)) := List.getElem?_eq_getElem _
      obtain ⟨_, _, o1, o2, _⟩ := r.each (i + n) _ _ hx hm
      exact ⟨o1, o2⟩
    have h2 := r.next (i + n) _ h' hm (by rw [Nat.add_assoc]; exact hh') a b ((ok2.active a).2 ma) ((ok2.active b).2 mb)
    have hx : s.out[i + (n + 1)]? = some (s.out[i + (n + 1)]'(by rw [← r.len]; exact hil)) := List.getElem?_eq_getElem _
    have h3 := round_one hq r hab hx hh' ha hb
    have eg : ∀ g, gotTo fl sz s.out g i (n + 1 + 1) = gotTo fl sz s.out g i (n + 1) + (if fl (s.out[i + (n + 1)]'(by rw [← r.len]; exact hil)).num.toNat = g then sz (s.out[i + (n + 1)]'(by rw [← r.len]; exact hil)).num.toNat else 0) := fun g => by
      rw [gotTo, hx]
    rw [eg a, eg b, Int.add_mul, Int.add_mul]
    omega
/-- SHREEDHAR and VARGHESE: while two flows wait, what they get is by their quanta, but for so much. -/
theorem round_shares {s : St σ} {H : List (Drr × Drr)} (hq : ∀ f, 1 ≤ qu f) (r : RoundRun fl sz qu M ps ok view s H) (hnd : (numsOf s.out).Nodup) (hlt : ∀ (i : Nat) x, s.out[i]? = some x → ∃ k : Nat, x.num = k ∧ k < ps.length) {a b i n : Nat} (hab : a ≠ b) (hin : i + n < s.out.length) (hw : ∀ j, i ≤ j → j ≤ i + n → WaitsAt fl ps s.out a j ∧ WaitsAt fl ps s.out b j) :
    gotTo fl sz s.out a i (n + 1) * qu b - gotTo fl sz s.out b i (n + 1) * qu a ≤ 3 * qu a * qu b + M * (qu a + qu b) ∧ gotTo fl sz s.out b i (n + 1) * qu a - gotTo fl sz s.out a i (n + 1) * qu b ≤ 3 * qu a * qu b + M * (qu a + qu b) := by
  have h1 : H[i]? = some (H[i]'(by rw [r.len]; omega)) := List.getElem?_eq_getElem _
  have h2 : H[i + n]? = some (H[i + n]'(by rw [r.len]; omega)) := List.getElem?_eq_getElem _
  have hsum := round_sum hq r hab n _ _ h1 h2 (fun j g hj1 hj2 hg => ⟨round_waits r hnd hlt hg (hw j hj1 hj2).1, round_waits r hnd hlt hg (hw j hj1 hj2).2⟩)
  have x1 : s.out[i]? = some (s.out[i]'(by omega)) := List.getElem?_eq_getElem _
  have x2 : s.out[i + n]? = some (s.out[i + n]'(by omega)) := List.getElem?_eq_getElem _
  obtain ⟨_, _, o1, _, _⟩ := r.each i _ _ x1 h1
  obtain ⟨_, _, _, o2, _⟩ := r.each (i + n) _ _ x2 h2
  have b1 := lead_bound hab hq o1 o2
  have b2 := lead_bound hab hq o2 o1
  omega
end
end Go.Proofs.YtepnfioldbhffabDoor

/- Plain facts: how far two flows are from each other: the most over all stretches, searched from the end, and stretch by stretch. No Go text is named here. -/
namespace Go.Proofs.YtepnfioldbhffabDoor

/-- The sum of the first n. -/
def pre (ld : Nat → Int) : Nat → Int
  | 0 => 0
  | n + 1 => pre ld n + ld n
/-- The most of all stretches that begin in [lo, hi), and end at n at most. -/
structure MostIn (wt : Nat → Prop) (ld : Nat → Int) (lo hi n : Nat) (m : Int) : Prop where
  low : 0 ≤ m
  all : ∀ a b, lo ≤ a → a < hi → a < b → b ≤ n → (∀ j, a ≤ j → j < b → wt j) → pre ld b - pre ld a ≤ m ∧ pre ld a - pre ld b ≤ m
  one : m = 0 ∨ ∃ a b, lo ≤ a ∧ a < hi ∧ a < b ∧ b ≤ n ∧ (∀ j, a ≤ j → j < b → wt j) ∧ (m = pre ld b - pre ld a ∨ m = pre ld a - pre ld b)
theorem MostIn.same {wt : Nat → Prop} {ld : Nat → Int} {lo hi n : Nat} {m k : Int} (h : MostIn wt ld lo hi n m) (g : MostIn wt ld lo hi n k) : m = k := by
  have h1 : m ≤ k := by
    rcases h.one with e | ⟨a, b, h1, h2, h3, h4, h5, h6⟩
    · rw [e]; exact g.low
    · have := g.all a b h1 h2 h3 h4 h5
      omega
  have h2 : k ≤ m := by
    rcases g.one with e | ⟨a, b, h1, h2, h3, h4, h5, h6⟩
    · rw [e]; exact h.low
    · have := h.all a b h1 h2 h3 h4 h5
      omega
  omega

/-- From the end: what lies behind place i; e: the end of the stretch that begins there. -/
structure DownAt (wt : Nat → Prop) (ld : Nat → Int) (n i : Nat) (sum high low most : Int) (e : Nat) : Prop where
  le : i ≤ e ∧ e ≤ n
  in_ : ∀ j, i ≤ j → j < e → wt j
  end_ : e < n → ¬ wt e
  sum_ : sum = pre ld e - pre ld i
  bound : ∀ j, i ≤ j → j ≤ e → low ≤ pre ld e - pre ld j ∧ pre ld e - pre ld j ≤ high
  top : ∃ j, i ≤ j ∧ j ≤ e ∧ high = pre ld e - pre ld j
  bot : ∃ j, i ≤ j ∧ j ≤ e ∧ low = pre ld e - pre ld j
  most_ : MostIn wt ld i n n most
theorem DownAt.start (wt : Nat → Prop) (ld : Nat → Int) (n : Nat) : DownAt wt ld n n 0 0 0 0 n := by
  refine ⟨⟨Nat.le_refl _, Nat.le_refl _⟩, fun j h1 h2 => ?_, fun h => absurd h (Nat.lt_irrefl _), by omega, fun j h1 h2 => ?_, ⟨n, Nat.le_refl _, Nat.le_refl _, by omega⟩, ⟨n, Nat.le_refl _, Nat.le_refl _, by omega⟩, ⟨Int.le_refl _, fun a b h1 h2 => ?_, .inl rfl⟩⟩
  · omega
  · obtain rfl : j = n := by omega
    omega
  · omega
/-- One more that waits. -/
theorem DownAt.more {wt : Nat → Prop} {ld : Nat → Int} {n i : Nat} {sum high low most : Int} {e : Nat} (h : DownAt wt ld n (i + 1) sum high low most e) (hw : wt i) {s' h' l' m' : Int} (e1 : s' = sum + ld i) (e2 : h' = max high s') (e3 : l' = min low s') (e4 : m' = max most (h' - l')) : DownAt wt ld n i s' h' l' m' e := by
  have hp : pre ld (i + 1) = pre ld i + ld i := rfl
  have hs := h.sum_
  have hs' : s' = pre ld e - pre ld i := by omega
  have hall : ∀ j, i ≤ j → j < e → wt j := fun j h1 h2 => by
    rcases Nat.lt_or_ge i j with h3 | h3
    · exact h.in_ j h3 h2
    · obtain rfl : j = i := by omega
      exact hw
  have hb : ∀ j, i ≤ j → j ≤ e → l' ≤ pre ld e - pre ld j ∧ pre ld e - pre ld j ≤ h' := fun j h1 h2 => by
    rcases Nat.lt_or_ge i j with h3 | h3
    · have := h.bound j h3 h2
      omega
    · obtain rfl : j = i := by omega
      omega
  have ht : ∃ j, i ≤ j ∧ j ≤ e ∧ h' = pre ld e - pre ld j := by
    by_cases c : high ≤ s'
    · exact ⟨i, Nat.le_refl _, by have := h.le; omega, by omega⟩
    · obtain ⟨j, j1, j2, j3⟩ := h.top
      exact ⟨j, by omega, j2, by omega⟩
  have hbo : ∃ j, i ≤ j ∧ j ≤ e ∧ l' = pre ld e - pre ld j := by
    by_cases c : s' ≤ low
    · exact ⟨i, Nat.le_refl _, by have := h.le; omega, by omega⟩
    · obtain ⟨j, j1, j2, j3⟩ := h.bot
      exact ⟨j, by omega, j2, by omega⟩
  have hle := h.le
  refine ⟨⟨by omega, hle.2⟩, hall, h.end_, hs', hb, ht, hbo, ?_, ?_, ?_⟩
  · have := h.most_.low; omega
  · intro a b h1 h2 h3 h4 h5
    rcases Nat.lt_or_ge i a with h6 | h6
    · have := h.most_.all a b h6 h2 h3 h4 h5
      omega
    · obtain rfl : a = i := by omega
      have hbe : b ≤ e := by
        rcases Nat.lt_or_ge e b with h7 | h7
        · exact absurd (h5 e (by omega) h7) (h.end_ (by omega))
        · exact h7
      have b1 := hb a (Nat.le_refl _) (by omega)
      have b2 := hb b (by omega) hbe
      omega
  · by_cases c : h' - l' ≤ most
    · rcases h.most_.one with h0 | ⟨a, b, g1, g2, g3, g4, g5, g6⟩
      · exact .inl (by omega)
      · exact .inr ⟨a, b, by omega, g2, g3, g4, g5, by omega⟩
    · obtain ⟨j, j1, j2, j3⟩ := ht
      obtain ⟨k, k1, k2, k3⟩ := hbo
      have hm : m' = pre ld k - pre ld j := by omega
      rcases Nat.lt_trichotomy j k with h6 | h6 | h6
      · exact .inr ⟨j, k, j1, by omega, h6, by omega, fun i' a1 a2 => hall i' (by omega) (by omega), .inl hm⟩
      · subst h6
        exact .inl (by omega)
      · exact .inr ⟨k, j, k1, by omega, h6, by omega, fun i' a1 a2 => hall i' (by omega) (by omega), .inr hm⟩
/-- One more where not both wait. -/
theorem DownAt.none {wt : Nat → Prop} {ld : Nat → Int} {n i : Nat} {sum high low most : Int} {e : Nat} (h : DownAt wt ld n (i + 1) sum high low most e) (hw : ¬ wt i) : DownAt wt ld n i 0 0 0 most i := by
  have hle := h.le
  refine ⟨⟨Nat.le_refl _, by omega⟩, fun j h1 h2 => by omega, fun _ => hw, by omega, fun j h1 h2 => by
    obtain rfl : j = i := by omega
    omega, ⟨i, Nat.le_refl _, Nat.le_refl _, by omega⟩, ⟨i, Nat.le_refl _, Nat.le_refl _, by omega⟩, h.most_.low, ?_, ?_⟩
  · intro a b h1 h2 h3 h4 h5
    rcases Nat.lt_or_ge i a with h6 | h6
    · exact h.most_.all a b h6 h2 h3 h4 h5
    · obtain rfl : a = i := by omega
      exact absurd (h5 a (Nat.le_refl _) h3) hw
  · rcases h.most_.one with h0 | ⟨a, b, g1, g2, g3, g4, g5, g6⟩
    · exact .inl h0
    · exact .inr ⟨a, b, by omega, g2, g3, g4, g5, g6⟩

/-- Stretch by stretch: those that begin ahead of i, and those that begin at i, and end at k at most. -/
structure StretchAt (wt : Nat → Prop) (ld : Nat → Int) (n i k : Nat) (m : Int) : Prop where
  low : 0 ≤ m
  le : i ≤ k ∧ k ≤ n
  in_ : ∀ j, i ≤ j → j < k → wt j
  old : ∀ a b, a < i → a < b → b ≤ n → (∀ j, a ≤ j → j < b → wt j) → pre ld b - pre ld a ≤ m ∧ pre ld a - pre ld b ≤ m
  new : ∀ b, i < b → b ≤ k → pre ld b - pre ld i ≤ m ∧ pre ld i - pre ld b ≤ m
  one : m = 0 ∨ ∃ a b, a < n ∧ a < b ∧ b ≤ n ∧ (∀ j, a ≤ j → j < b → wt j) ∧ (m = pre ld b - pre ld a ∨ m = pre ld a - pre ld b)
theorem StretchAt.start (wt : Nat → Prop) (ld : Nat → Int) (n : Nat) : StretchAt wt ld n 0 0 0 :=
  ⟨Int.le_refl _, ⟨Nat.le_refl _, Nat.zero_le _⟩, fun j _ h => by omega, fun a b h => by omega, fun b h1 h2 => by omega, .inl rfl⟩
theorem StretchAt.more {wt : Nat → Prop} {ld : Nat → Int} {n i k : Nat} {m d m' : Int} (h : StretchAt wt ld n i k m) (hk : k < n) (hw : wt k) (hd : d = pre ld (k + 1) - pre ld i ∨ d = pre ld i - pre ld (k + 1)) (h0 : 0 ≤ d) (hm : m' = max m d) : StretchAt wt ld n i (k + 1) m' := by
  have hl := h.low
  have hle := h.le
  have hin : ∀ j, i ≤ j → j < k + 1 → wt j := fun j h1 h2 => by
    rcases Nat.lt_or_ge j k with h3 | h3
    · exact h.in_ j h1 h3
    · obtain rfl : j = k := by omega
      exact hw
  refine ⟨by omega, by omega, hin, fun a b h1 h2 h3 h4 => ?_, fun b h1 h2 => ?_, ?_⟩
  · have := h.old a b h1 h2 h3 h4
    omega
  · rcases Nat.lt_or_ge b (k + 1) with h3 | h3
    · have := h.new b h1 (by omega)
      omega
    · obtain rfl : b = k + 1 := by omega
      omega
  · by_cases c : d ≤ m
    · rcases h.one with h1 | ⟨a, b, g1, g2, g3, g4, g5⟩
      · exact .inl (by omega)
      · exact .inr ⟨a, b, g1, g2, g3, g4, by omega⟩
    · exact .inr ⟨i, k + 1, by omega, by omega, by omega, hin, by omega⟩
/-- The stretch ends: the next place. -/
theorem StretchAt.next {wt : Nat → Prop} {ld : Nat → Int} {n i k : Nat} {m : Int} (h : StretchAt wt ld n i k m) (hi : i < n) (he : k = n ∨ ¬ wt k) : StretchAt wt ld n (i + 1) (i + 1) m := by
  refine ⟨h.low, ⟨Nat.le_refl _, hi⟩, fun j h1 h2 => by omega, fun a b h1 h2 h3 h4 => ?_, fun b h1 h2 => by omega, h.one⟩
  rcases Nat.lt_or_ge a i with h5 | h5
  · exact h.old a b h5 h2 h3 h4
  · obtain rfl : a = i := by omega
    refine h.new b h2 ?_
    rcases Nat.lt_or_ge k b with h6 | h6
    · rcases he with he | he
      · omega
      · exact absurd (h4 k h.le.1 h6) he
    · exact h6
theorem StretchAt.end_ {wt : Nat → Prop} {ld : Nat → Int} {n : Nat} {m : Int} (h : StretchAt wt ld n n n m) : MostIn wt ld 0 n n m := by
  refine ⟨h.low, fun a b _ h2 h3 h4 h5 => h.old a b h2 h3 h4 h5, ?_⟩
  rcases h.one with h1 | ⟨a, b, g1, g2, g3, g4, g5⟩
  · exact .inl h1
  · exact .inr ⟨a, b, Nat.zero_le _, g1, g2, g3, g4, g5⟩

/-- Does a flow wait, where one is sent? -/
def waitsB (ps : List Pk) (l : List Sn) (f i : Nat) : Prop := ∃ (j : Nat) (x y : Sn), i < j ∧ l[i]? = some y ∧ l[j]? = some x ∧ flowOf ps x.num.toNat = f ∧ tickOf ps x.num.toNat ≤ y.beg
/-- The lead that a packet of what was sent gives. -/
def leadAt (ps : List Pk) (ns : List Int) (l : List Sn) (a b i : Nat) : Int := match l[i]? with
  | some x => (if flowOf ps x.num.toNat = a then bytesOf ps x.num.toNat * ns.getD b 0 else 0) - (if flowOf ps x.num.toNat = b then bytesOf ps x.num.toNat * ns.getD a 0 else 0)
  | none => 0
/-- How far two flows are from each other. -/
def SpreadIs (ps : List Pk) (ns : List Int) (l : List Sn) (a b : Nat) (m : Int) : Prop := MostIn (fun i => waitsB ps l a i ∧ waitsB ps l b i) (leadAt ps ns l a b) 0 l.length l.length m
/-- Right numbers of what was sent. -/
def NumsIn (ps : List Pk) (l : List Sn) : Prop := ∀ (i : Nat) x, l[i]? = some x → ∃ k : Nat, x.num = k ∧ k < ps.length
theorem lead_abs {ps : List Pk} {ns : List Int} {l : List Sn} {a b : Nat} {Q : Int} (ho : OkPks ps) (h1 : 0 ≤ ns.getD a 0 ∧ ns.getD a 0 ≤ Q) (h2 : 0 ≤ ns.getD b 0 ∧ ns.getD b 0 ≤ Q) (i : Nat) : -(1500 * Q) ≤ leadAt ps ns l a b i ∧ leadAt ps ns l a b i ≤ 1500 * Q := by
  have hQ : 0 ≤ 1500 * Q := Int.mul_nonneg (by omega) (by omega)
  unfold leadAt
  cases hx : l[i]? with
  | none => simp only; omega
  | some x =>
    simp only
    have hb : 0 ≤ bytesOf ps x.num.toNat ∧ bytesOf ps x.num.toNat ≤ 1500 := by
      cases h : ps[x.num.toNat]? with
      | none => simp [bytesOf, h]
      | some p =>
        rw [bytesOf_get h]
        have := okPk_true (ho.each _ p h).1
        omega
    have g1 : 0 ≤ bytesOf ps x.num.toNat * ns.getD b 0 := Int.mul_nonneg hb.1 h2.1
    have g2 : bytesOf ps x.num.toNat * ns.getD b 0 ≤ 1500 * Q := Int.mul_le_mul hb.2 h2.2 h2.1 (by omega)
    have g3 : 0 ≤ bytesOf ps x.num.toNat * ns.getD a 0 := Int.mul_nonneg hb.1 h1.1
    have g4 : bytesOf ps x.num.toNat * ns.getD a 0 ≤ 1500 * Q := Int.mul_le_mul hb.2 h1.2 h1.1 (by omega)
    split <;> split <;> omega
theorem pre_abs {ld : Nat → Int} {c : Int} (h : ∀ i, -c ≤ ld i ∧ ld i ≤ c) : ∀ n : Nat, -(c * n) ≤ pre ld n ∧ pre ld n ≤ c * n
  | 0 => by simp [pre]
  | n + 1 => by
    have := pre_abs h n
    have := h n
    rw [pre, Int.natCast_add, Int.mul_add, Int.natCast_one, Int.mul_one]
    omega

/-- In the words of rounds. -/
theorem gotTo_lead {ps : List Pk} {ns : List Int} {l : List Sn} {sz : Nat → Int} {qu : Nat → Int} {a b : Nat} (hin : NumsIn ps l) (hs : ∀ k, k < ps.length → sz k = bytesOf ps k) (ha : qu a = ns.getD a 0) (hb : qu b = ns.getD b 0) (i : Nat) : ∀ n, i + n ≤ l.length →
    gotTo (flowOf ps) sz l a i n * qu b - gotTo (flowOf ps) sz l b i n * qu a = pre (leadAt ps ns l a b) (i + n) - pre (leadAt ps ns l a b) i
  | 0, _ => by simp [gotTo]
  | n + 1, h => by
    have ih := gotTo_lead hin hs ha hb i n (by omega)
    have hx : l[i + n]? = some l[i + n] := List.getElem?_eq_getElem (by omega)
    obtain ⟨k, hk, hkl⟩ := hin _ _ hx
    have e : (l[i + n]).num.toNat = k := by rw [hk]; simp
    have eg : ∀ g, gotTo (flowOf ps) sz l g i (n + 1) = gotTo (flowOf ps) sz l g i n + (if flowOf ps k = g then sz k else 0) := fun g => by rw [gotTo, hx]; simp only [e]
    have el : leadAt ps ns l a b (i + n) = (if flowOf ps k = a then bytesOf ps k * ns.getD b 0 else 0) - (if flowOf ps k = b then bytesOf ps k * ns.getD a 0 else 0) := by
      unfold leadAt
      rw [hx]
      simp only [e]
    rw [eg a, eg b, Int.add_mul, Int.add_mul, show i + (n + 1) = (i + n) + 1 by omega, pre, el, hs k hkl, ha, hb]
    rw [ha, hb] at ih
    have f1 : ∀ (c : Prop) [Decidable c] (x y : Int), (if c then x else 0) * y = if c then x * y else 0 := fun c _ x y => by split <;> simp
    rw [f1, f1]
    omega
end Go.Proofs.YtepnfioldbhffabDoor

/- Plain facts: the queue that serves flows round by round, as a link's queue; where a link comes to in the end is but one state. No Go text is named here. -/
namespace Go.Proofs.YtepnfioldbhffabDoor

/-- The size of a packet by its number; where there is none: 1. -/
def sizeAt (ps : List Pk) (j : Nat) : Int := match ps[j]? with | some p => p.size | none => 1
theorem sizeAt_get {ps : List Pk} {j : Nat} {p : Pk} (h : ps[j]? = some p) : sizeAt ps j = p.size := by simp [sizeAt, h]
theorem sizeAt_bytes {ps : List Pk} {j : Nat} (h : j < ps.length) : sizeAt ps j = bytesOf ps j := by
  have e : ps[j]? = some ps[j] := List.getElem?_eq_getElem h
  rw [sizeAt_get e, bytesOf_get e]
theorem sizeAt_in {ps : List Pk} (ho : OkPks ps) (j : Nat) : 1 ≤ sizeAt ps j ∧ sizeAt ps j ≤ 1500 := by
  cases h : ps[j]? with
  | none => simp [sizeAt, h]
  | some p =>
    rw [sizeAt_get h]
    have := okPk_true (ho.each _ p h).1
    omega
theorem flow_lt {ps : List Pk} (ho : OkPks ps) (j : Nat) : flowOf ps j < 8 := by
  cases h : ps[j]? with
  | none => simp [flowOf, h]
  | some p =>
    rw [flowOf_get h]
    have := okPk_true (ho.each _ p h).1
    omega
/-- The quantum of a flow; where there is none: 1. -/
def quOf (ns : List Int) (f : Nat) : Int := ns.getD f 1
theorem quOf_get {ns : List Int} {f : Nat} {x : Int} (h : ns[f]? = some x) : quOf ns f = x := by simp [quOf, List.getD, h]
theorem quOf_in {ns : List Int} {hi : Int} (h : ∀ (i : Nat) x, ns[i]? = some x → 1 ≤ x ∧ x ≤ hi) (h1 : 1 ≤ hi) (f : Nat) : 1 ≤ quOf ns f ∧ quOf ns f ≤ hi := by
  cases hx : ns[f]? with
  | none => simp [quOf, List.getD, hx]; exact h1
  | some x => rw [quOf_get hx]; exact h f x hx

/-- How many wait, of the first flows. -/
def cnt (q : Nat → List Nat) : Nat → Nat
  | 0 => 0
  | n + 1 => cnt q n + (q n).length
theorem cnt_put (q : Nat → List Nat) (f : Nat) (x : List Nat) : ∀ n, cnt (put1 q f x) n + (if f < n then (q f).length else 0) = cnt q n + (if f < n then x.length else 0)
  | 0 => by simp [cnt]
  | n + 1 => by
    have ih := cnt_put q f x n
    simp only [cnt]
    by_cases e : n = f
    · subst e
      rw [put1_same, if_pos (Nat.lt_succ_self _), if_pos (Nat.lt_succ_self _)]
      rw [if_neg (Nat.lt_irrefl _), if_neg (Nat.lt_irrefl _)] at ih
      omega
    · rw [put1_other _ _ e]
      by_cases h : f < n
      · rw [if_pos h, if_pos h] at ih
        rw [if_pos (by omega), if_pos (by omega)]
        omega
      · rw [if_neg h, if_neg h] at ih
        rw [if_neg (by omega), if_neg (by omega)]
        omega
theorem cnt_le (q : Nat → List Nat) {f : Nat} : ∀ n, f < n → (q f).length ≤ cnt q n
  | 0, h => by omega
  | n + 1, h => by
    simp only [cnt]
    by_cases e : f = n
    · subst e; omega
    · have := cnt_le q n (show f < n by omega); omega
theorem cnt_zero {q : Nat → List Nat} (h : ∀ f, q f = []) : ∀ n, cnt q n = 0
  | 0 => rfl
  | n + 1 => by simp only [cnt, h n, List.length_nil, cnt_zero h n]

/-- The queue: its state, and how many wait. -/
structure TQ where
  d : Drr
  n : Nat
def fuelOf (ps : List Pk) (d : Drr) : Nat := 2 * d.need (sizeAt ps) + 5
def goOf (ps : List Pk) (ns : List Int) (d : Drr) : Option (Nat × Drr) := Drr.go (sizeAt ps) (quOf ns) (fuelOf ps d) d
def turnsQ (ps : List Pk) (ns : List Int) : Que TQ where
  come q k := ⟨q.d.come (flowOf ps) k, q.n + 1⟩
  pick q := match goOf ps ns q.d with | some x => x.1 | none => 0
  left q := match goOf ps ns q.d with | some x => ⟨x.2, q.n - 1⟩ | none => q
  rest q := q.n
def turns0 : TQ := ⟨⟨fun _ => [], fun _ => 0, [], none⟩, 0⟩
/-- What holds of it. -/
structure TQOk (ps : List Pk) (ns : List Int) (M : Int) (q : TQ) : Prop where
  state : DrrOk (flowOf ps) (sizeAt ps) (quOf ns) M q.d
  count : q.n = cnt q.d.qs 8
  few : ∀ f, 8 ≤ f → q.d.qs f = []

section
variable {ps : List Pk} {ns : List Int} {M : Int}
theorem TQOk.line {q : TQ} (h : TQOk ps ns M q) : q.n = 0 ↔ q.d.line = [] := by
  constructor
  · intro h0
    have hz : ∀ f, q.d.qs f = [] := fun f => by
      rcases Nat.lt_or_ge f 8 with hf | hf
      · have := cnt_le q.d.qs 8 hf
        have hc := h.count
        exact List.length_eq_zero_iff.1 (by omega)
      · exact h.few f hf
    cases hl : q.d.line with
    | nil => rfl
    | cons f r => exact absurd (hz f) ((h.state.active f).1 (by rw [hl]; exact List.mem_cons_self ..))
  · intro hl
    rw [h.count]
    refine cnt_zero (fun f => ?_) 8
    cases hf : q.d.qs f with
    | nil => rfl
    | cons a b =>
      have := (h.state.active f).2 (by rw [hf]; simp)
      rw [hl] at this
      cases this
theorem TQOk.picks {q : TQ} (hq : ∀ f, 1 ≤ quOf ns f) (h : TQOk ps ns M q) (h0 : 0 < q.n) : ∃ k e, goOf ps ns q.d = some (k, e) ∧ (turnsQ ps ns).pick q = k ∧ (turnsQ ps ns).left q = ⟨e, q.n - 1⟩ ∧ ∃ f r c, SendsAt (flowOf ps) (sizeAt ps) (quOf ns) M q.d k e f r c := by
  have hne : q.d.line ≠ [] := fun e => by have := h.line.2 e; omega
  obtain ⟨⟨k, e⟩, hx⟩ := go_ends hq (q.d.need (sizeAt ps)) q.d h.state hne (Nat.le_refl _)
  have hx' : goOf ps ns q.d = some (k, e) := hx
  refine ⟨k, e, hx', ?_, ?_, go_sends hq _ _ _ _ h.state hx⟩
  · simp only [turnsQ, hx']
  · simp only [turnsQ, hx']
theorem TQOk.left {q : TQ} (hq : ∀ f, 1 ≤ quOf ns f) (h : TQOk ps ns M q) (h0 : 0 < q.n) : TQOk ps ns M ((turnsQ ps ns).left q) := by
  obtain ⟨k, e, hx, h1, h2, f, r, c, sa⟩ := h.picks hq h0
  rw [h2]
  have hqs : e.qs = put1 q.d.qs f r := by rw [sa.left, sent_qs, sa.same]
  have hhead : q.d.qs f = k :: r := by rw [← sa.same]; exact sa.head
  have hf8 : f < 8 := by
    rcases Nat.lt_or_ge f 8 with h' | h'
    · exact h'
    · have := h.few f h'; rw [hhead] at this; cases this
  refine ⟨by rw [sa.left]; exact sa.ok.sent sa.srv sa.head sa.fit, ?_, fun g hg => ?_⟩
  · have hp := cnt_put q.d.qs f r 8
    rw [if_pos hf8, if_pos hf8, hhead, List.length_cons] at hp
    have hc := h.count
    show q.n - 1 = cnt e.qs 8
    rw [hqs]
    omega
  · show e.qs g = []
    rw [hqs, put1_other _ _ (by omega)]
    exact h.few g hg
theorem TQOk.come {q : TQ} (ho : OkPks ps) (hM : ∀ k, sizeAt ps k ≤ M) (h : TQOk ps ns M q) (k : Nat) : TQOk ps ns M ((turnsQ ps ns).come q k) := by
  have hf := flow_lt ho k
  have hqs : ((turnsQ ps ns).come q k).d.qs = put1 q.d.qs (flowOf ps k) (q.d.qs (flowOf ps k) ++ [k]) := rfl
  refine ⟨h.state.come k (sizeAt_in ho k).1 (hM k), ?_, fun g hg => ?_⟩
  · have hp := cnt_put q.d.qs (flowOf ps k) (q.d.qs (flowOf ps k) ++ [k]) 8
    rw [if_pos hf, if_pos hf, List.length_append, List.length_cons, List.length_nil] at hp
    have hc := h.count
    show q.n + 1 = cnt _ 8
    rw [hqs]
    omega
  · rw [hqs, put1_other _ _ (by omega)]
    exact h.few g hg
theorem turns_round (ho : OkPks ps) (hq : ∀ f, 1 ≤ quOf ns f) (h1 : 1 ≤ M) (hM : ∀ k, sizeAt ps k ≤ M) : RoundLaw (turnsQ ps ns) (flowOf ps) (sizeAt ps) (quOf ns) turns0 (TQOk ps ns M) TQ.d where
  start := ⟨⟨drrOk_none h1, (cnt_zero (fun _ => rfl) 8).symm, fun _ _ => rfl⟩, rfl⟩
  come := fun q k h => ⟨h.come ho hM k, rfl⟩
  pick := fun q h h0 => ⟨h.left hq h0, by
    obtain ⟨k, e, hx, e1, e2, -⟩ := h.picks hq h0
    rw [e1, e2]
    exact ⟨_, hx⟩⟩
  rest := fun q h => h.line
  idle := fun q h _ => ⟨h, rfl⟩
variable {per : Int}
theorem turns_law (ho : OkPks ps) (hq : ∀ f, 1 ≤ quOf ns f) : QueLaw (turnsQ ps ns) per ps turns0 where
  none := rfl
  come := fun s _ _ => rfl
  left := fun s hr h0 => by
    obtain ⟨H, r⟩ := round_run (M := 1500) (turns_round ho hq (by omega) (fun k => (sizeAt_in ho k).2)) hq (by omega) (fun k _ => sizeAt_in ho k) ho hr
    obtain ⟨k, e, hx, e1, e2, -⟩ := r.good.picks hq h0
    rw [e2]
    have h0' : 0 < s.q.n := h0
    show s.q.n - 1 + 1 = s.q.n
    omega
  pick := fun s hr h0 => by
    obtain ⟨H, r⟩ := round_run (M := 1500) (turns_round ho hq (by omega) (fun k => (sizeAt_in ho k).2)) hq (by omega) (fun k _ => sizeAt_in ho k) ho hr
    obtain ⟨k, e, hx, e1, e2, f, t, c, sa⟩ := r.good.picks hq h0
    rw [e1]
    refine (r.only f k ?_).1
    rw [← sa.same, sa.head]
    exact List.mem_cons_self ..
  idle := fun s _ h => h
theorem turns_run (ho : OkPks ps) (hq : ∀ f, 1 ≤ quOf ns f) (h1 : 1 ≤ M) (hM : ∀ k, sizeAt ps k ≤ M) {s : St TQ} (hr : Reaches (turnsQ ps ns) per ps turns0 s) : ∃ H, RoundRun (flowOf ps) (sizeAt ps) (quOf ns) M ps (TQOk ps ns M) TQ.d s H :=
  round_run (turns_round ho hq h1 hM) hq h1 (fun k _ => ⟨(sizeAt_in ho k).1, hM k⟩) ho hr
theorem turns_ok (ho : OkPks ps) (hq : ∀ f, 1 ≤ quOf ns f) {s : St TQ} (hr : Reaches (turnsQ ps ns) per ps turns0 s) : TQOk ps ns 1500 s.q := by
  obtain ⟨H, r⟩ := turns_run (M := 1500) ho hq (by omega) (fun k => (sizeAt_in ho k).2) hr
  exact r.good
/-- What the queue holds, in numbers. -/
theorem turns_few (ho : OkPks ps) (hq : ∀ f, 1 ≤ quOf ns f) {s : St TQ} (hr : Reaches (turnsQ ps ns) per ps turns0 s) (f : Nat) : (s.q.d.qs f).length ≤ 300 ∧ ∀ k, k ∈ s.q.d.qs f → k < s.next ∧ flowOf ps k = f := by
  obtain ⟨H, r⟩ := turns_run (M := 1500) ho hq (by omega) (fun k => (sizeAt_in ho k).2) hr
  refine ⟨?_, fun k hk => ⟨(r.only f k hk).1, (r.state.size f k hk).1⟩⟩
  rcases Nat.lt_or_ge f 8 with hf | hf
  · have h1 := cnt_le s.q.d.qs 8 hf
    have h2 := r.good.count
    have h3 := hr.count (turns_law ho hq)
    have h4 := hr.next_le
    have h5 := ho.few
    have h6 : (turnsQ ps ns).rest s.q = s.q.n := rfl
    omega
  · rw [r.good.few f hf]; simp
end

/-- The next state, if there is one. -/
def stepS {σ : Type} (Q : Que σ) (per : Int) (ps : List Pk) (s : St σ) : Option (St σ) :=
  match ps[s.next]? with
  | some p => if p.tick ≤ s.now then some ⟨s.out, s.now, s.next + 1, Q.come s.q s.next⟩ else if 0 < Q.rest s.q then (match ps[Q.pick s.q]? with | some p => some ⟨s.out ++ [⟨Q.pick s.q, s.now, s.now + per * p.size⟩], s.now + per * p.size, s.next, Q.left s.q⟩ | none => none) else some ⟨s.out, p.tick, s.next, Q.idle s.q⟩
  | none => if 0 < Q.rest s.q then (match ps[Q.pick s.q]? with | some p => some ⟨s.out ++ [⟨Q.pick s.q, s.now, s.now + per * p.size⟩], s.now + per * p.size, s.next, Q.left s.q⟩ | none => none) else none
def iterS {σ : Type} (Q : Que σ) (per : Int) (ps : List Pk) (s : St σ) : Nat → Option (St σ)
  | 0 => some s
  | n + 1 => (iterS Q per ps s n).bind (stepS Q per ps)
section
variable {σ : Type} {Q : Que σ} {per : Int} {ps : List Pk} {q0 : σ}
theorem reaches_iter {s : St σ} (h : Reaches Q per ps q0 s) : ∃ n, iterS Q per ps ⟨[], 0, 0, q0⟩ n = some s := by
  refine h.by_steps (C := fun s => ∃ n, iterS Q per ps ⟨[], 0, 0, q0⟩ n = some s) ⟨0, rfl⟩ ?_ ?_ ?_
  · rintro s p _ hp ht ⟨n, hn⟩
    refine ⟨n + 1, ?_⟩
    rw [iterS, hn, Option.bind_some, stepS, hp]
    simp only [if_pos ht]
  · rintro s p _ hall h0 hp ⟨n, hn⟩
    refine ⟨n + 1, ?_⟩
    rw [iterS, hn, Option.bind_some, stepS]
    cases hx : ps[s.next]? with
    | none => simp only [if_pos h0, hp]
    | some r =>
      have := hall r hx
      simp only [if_neg (show ¬ r.tick ≤ s.now by omega), if_pos h0, hp]
  · rintro s p _ hp ht h0 ⟨n, hn⟩
    refine ⟨n + 1, ?_⟩
    rw [iterS, hn, Option.bind_some, stepS, hp]
    simp only [if_neg (show ¬ p.tick ≤ s.now by omega), if_neg (show ¬ 0 < Q.rest s.q by omega)]
theorem iter_none {s0 s : St σ} {n : Nat} (h : iterS Q per ps s0 n = some s) (he : stepS Q per ps s = none) : ∀ k, iterS Q per ps s0 (n + k + 1) = none
  | 0 => by rw [Nat.add_zero, iterS, h, Option.bind_some, he]
  | k + 1 => by rw [show n + (k + 1) + 1 = (n + k + 1) + 1 by omega, iterS, iter_none h he k]; rfl
/-- There is but one end. -/
theorem reaches_same {s t : St σ} (hs : Reaches Q per ps q0 s) (ht : Reaches Q per ps q0 t) (s1 : ¬ s.next < ps.length) (s2 : Q.rest s.q = 0) (t1 : ¬ t.next < ps.length) (t2 : Q.rest t.q = 0) : s = t := by
  have end_ : ∀ u : St σ, ¬ u.next < ps.length → Q.rest u.q = 0 → stepS Q per ps u = none := fun u h1 h2 => by
    rw [stepS, List.getElem?_eq_none (by omega)]
    simp only [if_neg (show ¬ 0 < Q.rest u.q by omega)]
  obtain ⟨n, hn⟩ := reaches_iter hs
  obtain ⟨m, hm⟩ := reaches_iter ht
  rcases Nat.lt_trichotomy n m with h | h | h
  · have := iter_none hn (end_ s s1 s2) (m - n - 1)
    rw [show n + (m - n - 1) + 1 = m by omega, hm] at this
    cases this
  · subst h
    exact Option.some.inj (hn.symm.trans hm)
  · have := iter_none hm (end_ t t1 t2) (n - m - 1)
    rw [show m + (n - m - 1) + 1 = n by omega, hn] at this
    cases this
end

/-- What rounds send: the list that a link comes to in the end. -/
def RoundSent (per : Int) (ps : List Pk) (ns : List Int) (l : List Sn) : Prop := ∃ s, Reaches (turnsQ ps ns) per ps turns0 s ∧ ¬ s.next < ps.length ∧ (turnsQ ps ns).rest s.q = 0 ∧ s.out = l
theorem RoundSent.same {per : Int} {ps : List Pk} {ns : List Int} {l m : List Sn} (h : RoundSent per ps ns l) (k : RoundSent per ps ns m) : l = m := by
  obtain ⟨s, h1, h2, h3, rfl⟩ := h
  obtain ⟨t, k1, k2, k3, rfl⟩ := k
  rw [reaches_same h1 k1 h2 h3 k2 k3]
section
variable {per : Int} {ps : List Pk} {ns : List Int} {l : List Sn}
theorem RoundSent.length (ho : OkPks ps) (hq : ∀ f, 1 ≤ quOf ns f) (h : RoundSent per ps ns l) : l.length = ps.length := by
  obtain ⟨s, h1, h2, h3, rfl⟩ := h
  have := h1.count (turns_law ho hq)
  have := h1.next_le
  omega
/-- Each number is one of a packet's, and stands but once; ticks are not too great. -/
theorem turns_out (ho : OkPks ps) (hq : ∀ f, 1 ≤ quOf ns f) (hper : 1 ≤ per ∧ per ≤ 1000) {s : St TQ} (hr : Reaches (turnsQ ps ns) per ps turns0 s) : (numsOf s.out).Nodup ∧ NumsIn ps s.out ∧ ∀ (i : Nat) x, s.out[i]? = some x → 0 ≤ x.beg ∧ x.beg ≤ x.fin ∧ x.fin ≤ 1099511627776 + 1500000 * s.out.length := by
  refine hr.by_steps (C := fun s => (numsOf s.out).Nodup ∧ NumsIn ps s.out ∧ ∀ (i : Nat) x, s.out[i]? = some x → 0 ≤ x.beg ∧ x.beg ≤ x.fin ∧ x.fin ≤ 1099511627776 + 1500000 * s.out.length) ⟨List.nodup_nil, (fun i x h => by simp at h), fun i x h => by simp at h⟩ ?_ ?_ ?_
  · intro s p _ _ _ ih; exact ih
  · rintro s p hs hall h0 hp ⟨i1, i2, i3⟩
    obtain ⟨H, r⟩ := turns_run (M := 1500) ho hq (by omega) (fun k => (sizeAt_in ho k).2) hs
    obtain ⟨k, e, hx, e1, e2, f, t, c, sa⟩ := r.good.picks hq h0
    rw [e1] at hp ⊢
    have hk := r.only f k (by rw [← sa.same, sa.head]; exact List.mem_cons_self ..)
    have hnow := hs.now_in hper ho
    obtain ⟨-, -, z1, z2, -, -⟩ := okPk_true (ho.each _ p hp).1
    have a1 : 0 ≤ per * p.size := Int.mul_nonneg (by omega) (by omega)
    have a2 : per * p.size ≤ 1000 * 1500 := Int.mul_le_mul (by omega) z2 (by omega) (by omega)
    have split : ∀ (i : Nat) x, (s.out ++ [(⟨(k : Nat), s.now, s.now + per * p.size⟩ : Sn)])[i]? = some x → s.out[i]? = some x ∨ x = ⟨(k : Nat), s.now, s.now + per * p.size⟩ := fun i x h => by
      have hl := lt_of_get h
      rw [List.length_append, List.length_cons, List.length_nil] at hl
      rcases Nat.lt_or_ge i s.out.length with h' | h'
      · rw [List.getElem?_append_left h'] at h; exact .inl h
      · obtain rfl : i = s.out.length := by omega
        rw [List.getElem?_append_right (Nat.le_refl _), Nat.sub_self, List.getElem?_cons_zero] at h
        exact .inr (Option.some.inj h).symm
    refine ⟨?_, fun i x h => ?_, fun i x h => ?_⟩
    · have e3 : numsOf (s.out ++ [(⟨(k : Nat), s.now, s.now + per * p.size⟩ : Sn)]) = numsOf s.out ++ [k] := by simp [numsOf]
      show (numsOf (s.out ++ [(⟨(k : Nat), s.now, s.now + per * p.size⟩ : Sn)])).Nodup
      rw [e3]
      refine List.nodup_append.2 ⟨i1, List.nodup_cons.2 ⟨by simp, List.nodup_nil⟩, fun a ha b hb eab => ?_⟩
      rw [List.mem_singleton] at hb
      obtain ⟨x, hx1, hx2⟩ := List.mem_map.1 ha
      obtain ⟨i, hi⟩ := List.mem_iff_getElem?.1 hx1
      obtain ⟨j, hj, -⟩ := i2 i x hi
      refine isDone_false.1 hk.2 x hx1 ?_
      rw [hj] at hx2
      simp only [Int.toNat_natCast] at hx2
      rw [hj, hx2, eab, hb]
    · rcases split i x h with h' | h'
      · exact i2 i x h'
      · rw [h']; exact ⟨k, rfl, lt_of_get hp⟩
    · simp only [List.length_append, List.length_cons, List.length_nil]
      rcases split i x h with h' | h'
      · have := i3 i x h'; omega
      · rw [h']; simp only; omega
  · intro s p _ _ _ _ ih; exact ih
theorem RoundSent.nums (ho : OkPks ps) (hq : ∀ f, 1 ≤ quOf ns f) (hper : 1 ≤ per ∧ per ≤ 1000) (h : RoundSent per ps ns l) : NumsIn ps l ∧ ∀ (i : Nat) x, l[i]? = some x → 0 ≤ x.beg ∧ x.beg ≤ x.fin ∧ x.fin ≤ 2000000000000 := by
  have hlen := h.length ho hq
  obtain ⟨s, h1, h2, h3, rfl⟩ := h
  obtain ⟨-, g2, g3⟩ := turns_out ho hq hper h1
  refine ⟨g2, fun i x hx => ?_⟩
  have := g3 i x hx
  have := ho.few
  omega
/-- SHREEDHAR and VARGHESE, of what rounds send. -/
theorem RoundSent.shares (ho : OkPks ps) (hq : ∀ (i : Nat) x, ns[i]? = some x → 1 ≤ x) (h8 : ns.length = 8) (hper : 1 ≤ per ∧ per ≤ 1000) (h : RoundSent per ps ns l) {M : Int} (h1 : 1 ≤ M) (hM : ∀ (i : Nat) p, ps[i]? = some p → p.size ≤ M) {a b : Nat} (ha : a < 8) (hb : b < 8) {m : Int} (hs : SpreadIs ps ns l a b m) :
    m ≤ 3 * ns.getD a 0 * ns.getD b 0 + M * (ns.getD a 0 + ns.getD b 0) := by
  have hq1 : ∀ f, 1 ≤ quOf ns f := fun f => by
    cases hx : ns[f]? with
    | none => simp [quOf, List.getD, hx]
    | some x => rw [quOf_get hx]; exact hq f x hx
  have qa : quOf ns a = ns.getD a 0 := by
    have e : ns[a]? = some (ns[a]'(by omega)) := List.getElem?_eq_getElem _
    rw [quOf_get e]; simp [List.getD, e]
  have qb : quOf ns b = ns.getD b 0 := by
    have e : ns[b]? = some (ns[b]'(by omega)) := List.getElem?_eq_getElem _
    rw [quOf_get e]; simp [List.getD, e]
  have hMs : ∀ k, sizeAt ps k ≤ M := fun k => by
    cases hx : ps[k]? with
    | none => simp [sizeAt, hx]; exact h1
    | some p => rw [sizeAt_get hx]; exact hM k p hx
  obtain ⟨s, s1, s2, s3, rfl⟩ := h
  obtain ⟨H, r⟩ := turns_run ho hq1 h1 hMs s1
  obtain ⟨g1, g2, -⟩ := turns_out ho hq1 hper s1
  have n1 := hq1 a
  have n2 := hq1 b
  rw [qa] at n1
  rw [qb] at n2
  have p1 : 0 ≤ 3 * ns.getD a 0 * ns.getD b 0 := Int.mul_nonneg (by omega) (by omega)
  have p2 : 0 ≤ M * (ns.getD a 0 + ns.getD b 0) := Int.mul_nonneg (by omega) (by omega)
  rcases hs.one with e | ⟨i, j, i1, i2, i3, i4, i5, i6⟩
  · omega
  · by_cases hab : a = b
    · subst hab
      have hz : ∀ n, pre (leadAt ps ns s.out a a) n = 0 := fun n => by
        induction n with
        | zero => rfl
        | succ n ih =>
          rw [pre, ih]
          unfold leadAt
          cases s.out[n]? <;> simp
      rw [hz, hz] at i6
      omega
    · obtain ⟨n, rfl⟩ : ∃ n, j = i + (n + 1) := ⟨j - i - 1, by omega⟩
      have hsh := round_shares (a := a) (b := b) (i := i) (n := n) hq1 r g1 (fun i x hx => by obtain ⟨k, h1, h2⟩ := g2 i x hx; exact ⟨k, h1, h2⟩) hab (by omega) (fun j' h1 h2 => i5 j' h1 (by omega))
      have hg := gotTo_lead (sz := sizeAt ps) (qu := quOf ns) (a := a) (b := b) g2 (fun k hk => sizeAt_bytes hk) qa qb i (n + 1) (by omega)
      rw [qa, qb] at hsh hg
      omega
end
end Go.Proofs.YtepnfioldbhffabDoor

/- Plain facts: rounds step by step, by looking at all that wait: the same list. No Go text is named here. -/
namespace Go.Proofs.YtepnfioldbhffabDoor

/-- Those of a flow that have come, and were not sent, by numbers. -/
def waitL (ps : List Pk) (out : List Sn) (f : Nat) (now : Int) (n : Nat) : List Nat := (List.range n).filter fun i => flowOf ps i == f && !isDone out i && decide (tickOf ps i ≤ now)
def cameL (ps : List Pk) (out : List Sn) (f n : Nat) : List Nat := (List.range n).filter fun i => flowOf ps i == f && !isDone out i
theorem cameL_succ (ps : List Pk) (out : List Sn) (f n : Nat) : cameL ps out f (n + 1) = cameL ps out f n ++ if flowOf ps n = f ∧ isDone out n = false then [n] else [] := by
  unfold cameL
  rw [List.range_succ, List.filter_append]
  congr 1
  by_cases h : flowOf ps n = f ∧ isDone out n = false
  · rw [if_pos h]; simp [h.1, h.2]
  · rw [if_neg h]
    simp only [List.filter_cons, List.filter_nil]
    rw [if_neg]
    intro h'
    rw [Bool.and_eq_true, beq_iff_eq, Bool.not_eq_true'] at h'
    exact h h'
theorem waitL_came {ps : List Pk} {out : List Sn} {f : Nat} {now : Int} {next : Nat} (h1 : ∀ i, i < next → tickOf ps i ≤ now) (h2 : ∀ i, next ≤ i → i < ps.length → now < tickOf ps i) (hn : next ≤ ps.length) : waitL ps out f now ps.length = cameL ps out f next := by
  have key : ∀ k, next + k ≤ ps.length → waitL ps out f now (next + k) = cameL ps out f next := by
    intro k
    induction k with
    | zero =>
      intro _
      unfold waitL cameL
      refine List.filter_congr fun i hi => ?_
      have := h1 i (List.mem_range.1 hi)
      simp [this]
    | succ k ih =>
      intro hk
      have e := ih (by omega)
      have h3 := h2 (next + k) (by omega) (by omega)
      unfold waitL at e ⊢
      rw [show next + (k + 1) = (next + k) + 1 by omega, List.range_succ, List.filter_append, e]
      simp [show ¬ tickOf ps (next + k) ≤ now by omega]
  have := key (ps.length - next) (by omega)
  rwa [show next + (ps.length - next) = ps.length by omega] at this

section
variable {ps : List Pk} {ns : List Int} {per : Int}
/-- What has come has a tick that has passed; the flows' queues are what has come, and was not sent. -/
theorem turns_lists (ho : OkPks ps) (hq : ∀ f, 1 ≤ quOf ns f) (hper : 1 ≤ per) {s : St TQ} (hr : Reaches (turnsQ ps ns) per ps turns0 s) : (∀ i, i < s.next → tickOf ps i ≤ s.now) ∧ ∀ f, s.q.d.qs f = cameL ps s.out f s.next := by
  refine hr.by_steps (C := fun s => (∀ i, i < s.next → tickOf ps i ≤ s.now) ∧ ∀ f, s.q.d.qs f = cameL ps s.out f s.next) ⟨fun i h => absurd h (Nat.not_lt_zero _), fun f => rfl⟩ ?_ ?_ ?_
  · rintro s p hs hp ht ⟨i1, i2⟩
    refine ⟨fun i hi => ?_, fun f => ?_⟩
    · rcases Nat.lt_or_ge i s.next with h | h
      · exact i1 i h
      · obtain rfl : i = s.next := by simp only at hi; omega
        rw [tickOf_get hp]; exact ht
    · obtain ⟨H, r⟩ := turns_run (M := 1500) ho hq (by omega) (fun k => (sizeAt_in ho k).2) hs
      have hnew : isDone s.out s.next = false := by
        cases hd : isDone s.out s.next with
        | false => rfl
        | true => have := r.gone _ hd; omega
      show put1 s.q.d.qs (flowOf ps s.next) (s.q.d.qs (flowOf ps s.next) ++ [s.next]) f = cameL ps s.out f (s.next + 1)
      rw [cameL_succ]
      by_cases e : f = flowOf ps s.next
      · subst e
        rw [put1_same, i2, if_pos ⟨rfl, hnew⟩]
      · rw [put1_other _ _ e, i2, if_neg (fun h => e h.1.symm), List.append_nil]
  · rintro s p hs hall h0 hp ⟨i1, i2⟩
    obtain ⟨H, r⟩ := turns_run (M := 1500) ho hq (by omega) (fun k => (sizeAt_in ho k).2) hs
    obtain ⟨k, e, hx, e1, e2, f, t, c, sa⟩ := r.good.picks hq h0
    rw [e1] at hp ⊢
    obtain ⟨-, -, z1, -, -, -⟩ := okPk_true (ho.each _ p hp).1
    have a1 : 0 ≤ per * p.size := Int.mul_nonneg (by omega) (by omega)
    have hqs : e.qs = put1 s.q.d.qs f t := by rw [sa.left, sent_qs, sa.same]
    have hhead : s.q.d.qs f = k :: t := by rw [← sa.same]; exact sa.head
    have hkf : flowOf ps k = f := (r.state.size f k (by rw [hhead]; exact List.mem_cons_self ..)).1
    have hnd := r.once f
    rw [hhead] at hnd
    obtain ⟨n1, -⟩ := List.nodup_cons.1 hnd
    refine ⟨fun i hi => by have := i1 i hi; simp only; omega, fun g => ?_⟩
    rw [e2]
    show e.qs g = cameL ps (s.out ++ [(⟨(k : Nat), s.now, s.now + per * p.size⟩ : Sn)]) g s.next
    have hfil : cameL ps (s.out ++ [(⟨(k : Nat), s.now, s.now + per * p.size⟩ : Sn)]) g s.next = (s.q.d.qs g).filter fun i => !(i == k) := by
      rw [i2, cameL, cameL, List.filter_filter]
      refine List.filter_congr fun i _ => ?_
      rw [isDone_snoc]
      have e3 : (k == i) = (i == k) := by
        rw [Bool.eq_iff_iff, beq_iff_eq, beq_iff_eq]
        omega
      rw [e3]
      cases (flowOf ps i == g) <;> cases isDone s.out i <;> cases (i == k) <;> rfl
    rw [hfil, hqs]
    by_cases eg : g = f
    · subst eg
      rw [put1_same, hhead, List.filter_cons, if_neg (by simp)]
      refine (List.filter_eq_self.2 fun i hi => ?_).symm
      have : i ≠ k := fun e => n1 (by rw [← e]; exact hi)
      simp [this]
    · rw [put1_other _ _ eg]
      refine (List.filter_eq_self.2 fun i hi => ?_).symm
      have : i ≠ k := fun e => eg (by rw [← (r.state.size g i hi).1, e]; exact hkf)
      simp [this]
  · rintro s p hs hp ht h0 ⟨i1, i2⟩
    exact ⟨fun i hi => by have := i1 i hi; simp only; omega, i2⟩
end

theorem sum_but (g : Nat → Nat) (n : Nat) : ∀ l : List Nat, l.Nodup → (l.map g).sum ≤ ((l.filter fun x => x != n).map g).sum + g n
  | [], _ => by simp
  | x :: r, h => by
    obtain ⟨h1, h2⟩ := List.nodup_cons.1 h
    have ih := sum_but g n r h2
    by_cases e : x = n
    · subst e
      have : r.filter (fun y => y != x) = r := List.filter_eq_self.2 fun y hy => by
        have : y ≠ x := fun e => h1 (by rw [← e]; exact hy)
        simp [this]
      simp [this]
      omega
    · simp only [List.filter_cons, bne_iff_ne, ne_eq, e, not_false_eq_true, if_true, List.map_cons, List.sum_cons]
      omega
theorem sum_le (g : Nat → Nat) (c : Nat) : ∀ (n : Nat) (l : List Nat), l.Nodup → (∀ x, x ∈ l → x < n) → (∀ x, g x ≤ c) → (l.map g).sum ≤ n * c
  | 0, l, _, hl, _ => by
    cases l with
    | nil => simp
    | cons x r => exact absurd (hl x (List.mem_cons_self ..)) (Nat.not_lt_zero _)
  | n + 1, l, hn, hl, hc => by
    have h1 := sum_but g n l hn
    have h2 := sum_le g c n (l.filter fun x => x != n) (hn.filter _) (fun x hx => by
      rw [List.mem_filter, bne_iff_ne] at hx
      have := hl x hx.1
      omega) hc
    have := hc n
    rw [Nat.add_mul, Nat.one_mul]
    omega

/-- Where the search stands: s: the state at its start; d: where it stands; fu: steps that are left at most; z: 1 where the link may still be idle ahead of the next packet. -/
structure RoAt (per : Int) (ps : List Pk) (ns : List Int) (s : St TQ) (d : Drr) (fu z : Nat) : Prop where
  reach : Reaches (turnsQ ps ns) per ps turns0 s
  ok : DrrOk (flowOf ps) (sizeAt ps) (quOf ns) 1500 d
  qs : d.qs = s.q.d.qs
  path : (d = s.q.d ∧ fu = 29999) ∨ ((∀ r, ps[s.next]? = some r → s.now < r.tick) ∧ fu ≤ 29999 ∧ ∃ x, Drr.go (sizeAt ps) (quOf ns) fu d = some x ∧ goOf ps ns s.q.d = some x)
  idle : z ≤ 1 ∧ (z = 0 → d.line ≠ [] ∨ ∃ p, ps[s.next]? = some p ∧ p.tick ≤ s.now)
def roLeft (ps : List Pk) (s : St TQ) (fu z : Nat) : Nat := 30000 * (2 * (ps.length - s.out.length) + z) + fu
section
variable {ps : List Pk} {ns : List Int} {per : Int} {s : St TQ} {d : Drr} {fu z : Nat}
theorem RoAt.start (per : Int) (ps : List Pk) (ns : List Int) : RoAt per ps ns ⟨[], 0, 0, turns0⟩ turns0.d 29999 1 :=
  ⟨.start, drrOk_none (by omega), rfl, .inl ⟨rfl, rfl⟩, Nat.le_refl _, fun h => by omega⟩
theorem go_line {sz qu : Nat → Int} : ∀ {n : Nat} {d : Drr} {x : Nat × Drr}, Drr.go sz qu n d = some x → d.line ≠ []
  | 0, d, x, h => by simp [Drr.go] at h
  | n + 1, d, x, h => by
    rw [Drr.go] at h
    unfold Drr.line
    cases hs : d.srv with
    | some f => simp
    | none =>
      rw [hs] at h
      simp only at h ⊢
      intro e
      rw [e] at h
      cases h
theorem RoAt.more (h : RoAt per ps ns s d fu z) {k : Nat} {p : Pk} (ho : OkPks ps) (hb : ∀ j, j < k → tickOf ps j ≤ s.now → j < s.next) (hp : ps[k]? = some p) (ht : p.tick ≤ s.now) (hk : s.next ≤ k) :
    k = s.next ∧ d = s.q.d ∧ fu = 29999 := by
  have e : k = s.next := by
    rcases Nat.lt_or_ge s.next k with h1 | h1
    · have h2 := ticks_le ho (Nat.le_of_lt h1) (lt_of_get hp)
      rw [tickOf_get hp] at h2
      have := hb s.next h1 (by omega)
      omega
    · omega
  refine ⟨e, ?_⟩
  rcases h.path with h1 | ⟨h1, -⟩
  · exact h1
  · subst e
    have := h1 p hp
    omega
/-- One comes. -/
theorem RoAt.come (h : RoAt per ps ns s d fu z) (ho : OkPks ps) {p : Pk} (hp : ps[s.next]? = some p) (ht : p.tick ≤ s.now) (hd : d = s.q.d ∧ fu = 29999) : RoAt per ps ns ⟨s.out, s.now, s.next + 1, (turnsQ ps ns).come s.q s.next⟩ (d.come (flowOf ps) s.next) fu z := by
  obtain ⟨rfl, rfl⟩ := hd
  refine ⟨.come s p h.reach hp ht, h.ok.come _ (sizeAt_in ho _).1 (sizeAt_in ho _).2, rfl, .inl ⟨rfl, rfl⟩, h.idle.1, fun _ => .inl ?_⟩
  rw [Drr.line_come]
  split
  · next hm => intro e; rw [e] at hm; cases hm
  · simp
/-- All have come that could. -/
def NoMore (ps : List Pk) (s : St TQ) : Prop := ∀ i, s.next ≤ i → i < ps.length → s.now < tickOf ps i
/-- The search goes on: fuel is there. -/
theorem RoAt.fuel (h : RoAt per ps ns s d fu z) (ho : OkPks ps) (hq : ∀ f, 1 ≤ quOf ns f) (hl : d.line ≠ []) : ∃ fu' x, fu' ≤ fu ∧ Drr.go (sizeAt ps) (quOf ns) fu' d = some x ∧ goOf ps ns s.q.d = some x := by
  rcases h.path with ⟨rfl, rfl⟩ | ⟨-, -, x, h1, h2⟩
  · obtain ⟨x, hx⟩ := go_ends hq (s.q.d.need (sizeAt ps)) s.q.d h.ok hl (Nat.le_refl _)
    refine ⟨fuelOf ps s.q.d, x, ?_, hx, hx⟩
    have hok := turns_ok ho hq h.reach
    have h8 : ∀ f, f ∈ s.q.d.line → f < 8 := fun f hf => by
      rcases Nat.lt_or_ge f 8 with h' | h'
      · exact h'
      · exact absurd (hok.few f h') ((hok.state.active f).1 hf)
    have hb : ∀ f, s.q.d.lack (sizeAt ps) f ≤ 1500 := fun f => by
      unfold Drr.lack
      cases hk : s.q.d.qs f with
      | nil => simp
      | cons k r =>
        simp only
        have := (sizeAt_in ho k).2
        have := h.ok.low f
        omega
    have := sum_le (s.q.d.lack (sizeAt ps)) 1500 8 s.q.d.line h.ok.nodup h8 hb
    unfold fuelOf
    have e : s.q.d.need (sizeAt ps) = (s.q.d.line.map (s.q.d.lack (sizeAt ps))).sum := rfl
    omega
  · exact ⟨fu, x, Nat.le_refl _, h1, h2⟩
/-- None waits: the link is idle up to the next one's tick. -/
theorem RoAt.rests (h : RoAt per ps ns s d fu z) (ho : OkPks ps) (hq : ∀ f, 1 ≤ quOf ns f) (hl : d.line = []) : d = s.q.d ∧ fu = 29999 ∧ (turnsQ ps ns).rest s.q = 0 := by
  rcases h.path with ⟨rfl, rfl⟩ | ⟨-, -, x, h1, h2⟩
  · exact ⟨rfl, rfl, (turns_ok ho hq h.reach).line.2 hl⟩
  · exact absurd hl (go_line h1)
theorem RoAt.undone (h : RoAt per ps ns s d fu z) (ho : OkPks ps) (hq : ∀ f, 1 ≤ quOf ns f) (h0 : (turnsQ ps ns).rest s.q = 0) : (∀ i, i < s.next → isDone s.out i = true) ∧ isDone s.out s.next = false := by
  obtain ⟨H, r⟩ := turns_run (M := 1500) ho hq (by omega) (fun k => (sizeAt_in ho k).2) h.reach
  refine ⟨fun i hi => ?_, ?_⟩
  · cases hd : isDone s.out i with
    | true => rfl
    | false =>
      have hm := r.wait i hi hd
      have hz := r.good.line.1 h0
      have := (r.state.active (flowOf ps i)).2 (by intro e; rw [e] at hm; cases hm)
      rw [hz] at this
      cases this
  · cases hd : isDone s.out s.next with
    | false => rfl
    | true => have := r.gone _ hd; omega
theorem RoAt.idles (h : RoAt per ps ns s d fu z) (ho : OkPks ps) (hq : ∀ f, 1 ≤ quOf ns f) (hl : d.line = []) (hno : NoMore ps s) (hlen : s.out.length < ps.length) :
    s.next < ps.length ∧ z = 1 ∧ ∀ p, ps[s.next]? = some p → RoAt per ps ns ⟨s.out, p.tick, s.next, s.q⟩ d fu 0 := by
  obtain ⟨rfl, rfl, h0⟩ := h.rests ho hq hl
  have hc := h.reach.count (turns_law ho hq)
  have hn : s.next < ps.length := by omega
  refine ⟨hn, ?_, fun p hp => ?_⟩
  · rcases Nat.lt_or_ge z 1 with hz | hz
    · rcases h.idle.2 (by omega) with h1 | ⟨p, h1, h2⟩
      · exact absurd hl h1
      · have := hno s.next (Nat.le_refl _) hn
        rw [tickOf_get h1] at this
        omega
    · have := h.idle.1; omega
  · have ht := hno s.next (Nat.le_refl _) hn
    rw [tickOf_get hp] at ht
    exact ⟨.idle s p h.reach hp ht h0, h.ok, rfl, .inl ⟨rfl, rfl⟩, by omega, fun _ => .inr ⟨p, hp, Int.le_refl _⟩⟩
/-- One is served: the state behind that. -/
def served (ns : List Int) (d : Drr) (f : Nat) (r : List Nat) : Drr := if d.srv = none then d.turn (quOf ns) f r else d
/-- What is at hand where a flow is served. -/
structure ServeAt (per : Int) (ps : List Pk) (ns : List Int) (s : St TQ) (d : Drr) (f : Nat) (fu z : Nat) : Prop where
  reach : Reaches (turnsQ ps ns) per ps turns0 s
  more : NoMore ps s
  ok : DrrOk (flowOf ps) (sizeAt ps) (quOf ns) 1500 d
  qs : d.qs = s.q.d.qs
  srv : d.srv = some f
  lt : f < 8
  fuel : fu ≤ 29999
  ends : ∃ x, Drr.go (sizeAt ps) (quOf ns) fu d = some x ∧ goOf ps ns s.q.d = some x
  idle : z ≤ 1
theorem line_lt (ho : OkPks ps) (hq : ∀ f, 1 ≤ quOf ns f) (hr : Reaches (turnsQ ps ns) per ps turns0 s) (hok : DrrOk (flowOf ps) (sizeAt ps) (quOf ns) 1500 d) (hqs : d.qs = s.q.d.qs) {f : Nat} (hf : f ∈ d.line) : f < 8 := by
  rcases Nat.lt_or_ge f 8 with h' | h'
  · exact h'
  · have := (turns_ok ho hq hr).few f h'
    rw [← hqs] at this
    exact absurd this ((hok.active f).1 hf)
theorem RoAt.turns (h : RoAt per ps ns s d fu z) (ho : OkPks ps) (hq : ∀ f, 1 ≤ quOf ns f) (hno : NoMore ps s) {f : Nat} {r : List Nat} (hs : d.srv = none) (hr : d.row = f :: r) : ∃ fu', fu' ≤ fu ∧ ServeAt per ps ns s (d.turn (quOf ns) f r) f fu' z := by
  have hl : d.line = f :: r := by unfold Drr.line; rw [hs]; exact hr
  obtain ⟨fu1, x, h1, h2, h3⟩ := h.fuel ho hq (by rw [hl]; simp)
  cases fu1 with
  | zero => simp [Drr.go] at h2
  | succ n =>
    rw [Drr.go, hs] at h2
    simp only [hr] at h2
    have hfu : fu ≤ 29999 := by
      rcases h.path with ⟨-, rfl⟩ | ⟨-, h', -⟩
      · exact Nat.le_refl _
      · exact h'
    exact ⟨n, by omega, h.reach, hno, h.ok.turn hq hs hr, h.qs, rfl, line_lt ho hq h.reach h.ok h.qs (by rw [hl]; exact List.mem_cons_self ..), by omega, ⟨x, h2, h3⟩, h.idle.1⟩
theorem RoAt.stays (h : RoAt per ps ns s d fu z) (ho : OkPks ps) (hq : ∀ f, 1 ≤ quOf ns f) (hno : NoMore ps s) {f : Nat} (hs : d.srv = some f) : ∃ fu', fu' ≤ fu ∧ ServeAt per ps ns s d f fu' z := by
  have hl : d.line = f :: d.row := by unfold Drr.line; rw [hs]
  obtain ⟨fu1, x, h1, h2, h3⟩ := h.fuel ho hq (by rw [hl]; simp)
  have hfu : fu ≤ 29999 := by
    rcases h.path with ⟨-, rfl⟩ | ⟨-, h', -⟩
    · exact Nat.le_refl _
    · exact h'
  exact ⟨fu1, h1, h.reach, hno, h.ok, h.qs, hs, line_lt ho hq h.reach h.ok h.qs (by rw [hl]; exact List.mem_cons_self ..), by omega, ⟨x, h2, h3⟩, h.idle.1⟩
/-- The flow that is served has packets: those that are found by looking at all. -/
theorem ServeAt.head {f : Nat} (h : ServeAt per ps ns s d f fu z) (ho : OkPks ps) (hq : ∀ f, 1 ≤ quOf ns f) (hper : 1 ≤ per) : ∃ k r, d.qs f = k :: r ∧ waitL ps s.out f s.now ps.length = k :: r ∧ k < ps.length ∧ k < s.next ∧ isDone s.out k = false ∧ flowOf ps k = f ∧ (k :: r).length ≤ 300 := by
  have hl : d.line = f :: d.row := by unfold Drr.line; rw [h.srv]
  have hne := (h.ok.active f).1 (by rw [hl]; exact List.mem_cons_self ..)
  obtain ⟨H, rr⟩ := turns_run (M := 1500) ho hq (by omega) (fun k => (sizeAt_in ho k).2) h.reach
  obtain ⟨t1, t2⟩ := turns_lists ho hq hper h.reach
  have hw := waitL_came (out := s.out) (f := f) t1 h.more h.reach.next_le
  have hfew := (turns_few ho hq h.reach f).1
  cases hk : d.qs f with
  | nil => exact absurd hk hne
  | cons k r =>
    have hk' : s.q.d.qs f = k :: r := by rw [← h.qs]; exact hk
    have hm := rr.only f k (by rw [hk']; exact List.mem_cons_self ..)
    have hf := (rr.state.size f k (by rw [hk']; exact List.mem_cons_self ..)).1
    rw [hk'] at hfew
    exact ⟨k, r, rfl, by rw [hw, ← t2, hk'], by have := h.reach.next_le; omega, hm.1, hm.2, hf, hfew⟩
/-- Its credit does not do: it comes to the row's end. -/
theorem ServeAt.back {f : Nat} (h : ServeAt per ps ns s d f fu z) {k : Nat} {r : List Nat} (hk : d.qs f = k :: r) (hb : d.cr f < sizeAt ps k) : ∃ fu', fu' < fu ∧ RoAt per ps ns s (d.back f) fu' z := by
  obtain ⟨x, h1, h2⟩ := h.ends
  cases fu with
  | zero => simp [Drr.go] at h1
  | succ n =>
    rw [Drr.go, h.srv] at h1
    simp only [hk, if_neg (show ¬ sizeAt ps k ≤ d.cr f by omega)] at h1
    have hf := h.fuel
    exact ⟨n, Nat.lt_succ_self _, h.reach, h.ok.back h.srv hk hb, h.qs, .inr ⟨fun p hp => by have := h.more s.next (Nat.le_refl _) (lt_of_get hp); rwa [tickOf_get hp] at this, by omega, x, h1, h2⟩, h.idle, fun _ => .inl (go_line h1)⟩
/-- It does: the packet is sent. -/
theorem ServeAt.send {f : Nat} (h : ServeAt per ps ns s d f fu z) (ho : OkPks ps) (hq : ∀ f, 1 ≤ quOf ns f) {k : Nat} {r : List Nat} {p : Pk} (hk : d.qs f = k :: r) (hp : ps[k]? = some p) (hb : sizeAt ps k ≤ d.cr f) :
    RoAt per ps ns ⟨s.out ++ [⟨(k : Nat), s.now, s.now + per * p.size⟩], s.now + per * p.size, s.next, (turnsQ ps ns).left s.q⟩ (d.sent (sizeAt ps) f k r) 29999 1 := by
  obtain ⟨x, h1, h2⟩ := h.ends
  have hx : x = (k, d.sent (sizeAt ps) f k r) := by
    cases fu with
    | zero => simp [Drr.go] at h1
    | succ n =>
      rw [Drr.go, h.srv] at h1
      simp only [hk, if_pos hb] at h1
      exact (Option.some.inj h1).symm
  subst hx
  have hl : d.line = f :: d.row := by unfold Drr.line; rw [h.srv]
  have hn : 0 < s.q.n := by
    have hok := turns_ok ho hq h.reach
    rcases Nat.eq_zero_or_pos s.q.n with h0 | h0
    · exact absurd (hok.line.1 h0) (go_line h2)
    · exact h0
  have e1 : (turnsQ ps ns).pick s.q = k := by simp only [turnsQ, h2]
  have e2 : (turnsQ ps ns).left s.q = ⟨d.sent (sizeAt ps) f k r, s.q.n - 1⟩ := by simp only [turnsQ, h2]
  have hr := Reaches.send s p h.reach (fun r hr => by have := h.more s.next (Nat.le_refl _) (lt_of_get hr); rwa [tickOf_get hr] at this) hn (by rw [e1]; exact hp)
  rw [e1] at hr
  refine ⟨hr, h.ok.sent h.srv hk hb, ?_, .inl ⟨?_, rfl⟩, Nat.le_refl _, fun h => by omega⟩
  · rw [e2]
  · rw [e2]
/-- What is left of the flow's packets. -/
theorem ServeAt.left {f : Nat} (h : ServeAt per ps ns s d f fu z) (ho : OkPks ps) (hq : ∀ f, 1 ≤ quOf ns f) (hper : 1 ≤ per) {k : Nat} {r : List Nat} {p : Pk} (hk : d.qs f = k :: r) (hp : ps[k]? = some p) (hb : sizeAt ps k ≤ d.cr f) :
    waitL ps (s.out ++ [⟨(k : Nat), s.now, s.now + per * p.size⟩]) f s.now ps.length = r := by
  have hs := h.send ho hq hk hp hb
  obtain ⟨t1, -⟩ := turns_lists ho hq hper h.reach
  obtain ⟨-, t2⟩ := turns_lists ho hq hper hs.reach
  have hw := waitL_came (out := s.out ++ [⟨(k : Nat), s.now, s.now + per * p.size⟩]) (f := f) t1 h.more h.reach.next_le
  have h1 := t2 f
  rw [← hs.qs, sent_qs, put1_same] at h1
  rw [hw, h1]
theorem RoAt.end_ (h : RoAt per ps ns s d fu z) (ho : OkPks ps) (hq : ∀ f, 1 ≤ quOf ns f) (hlen : ¬ s.out.length < ps.length) : RoundSent per ps ns s.out := by
  have := h.reach.count (turns_law ho hq)
  have := h.reach.next_le
  exact ⟨s, h.reach, by omega, by omega, rfl⟩
end
end Go.Proofs.YtepnfioldbhffabDoor

/- Plain facts: of each flow, whether packets are sent behind some place, and their least tick. No Go text is named here. -/
namespace Go.Proofs.YtepnfioldbhffabDoor

/-- From place i on: of each flow, whether packets are sent there, and the least tick at which one of them came. -/
structure BehindAt (ps : List Pk) (l : List Sn) (i : Nat) (are : Nat → Bool) (least : Nat → Int) : Prop where
  some_ : ∀ f, are f = true → ∃ (j : Nat) (x : Sn), i ≤ j ∧ l[j]? = some x ∧ flowOf ps x.num.toNat = f ∧ tickOf ps x.num.toNat = least f
  all : ∀ (j : Nat) (x : Sn), i ≤ j → l[j]? = some x → are (flowOf ps x.num.toNat) = true ∧ least (flowOf ps x.num.toNat) ≤ tickOf ps x.num.toNat
section
variable {ps : List Pk} {l : List Sn} {i : Nat} {are : Nat → Bool} {least : Nat → Int}
theorem BehindAt.start (ps : List Pk) (l : List Sn) : BehindAt ps l l.length (fun _ => false) (fun _ => 0) :=
  ⟨(fun _ h => by cases h), fun j x h1 h2 => by have := lt_of_get h2; omega⟩
theorem BehindAt.take (h : BehindAt ps l (i + 1) are least) {x : Sn} (hx : l[i]? = some x) (hc : are (flowOf ps x.num.toNat) = false ∨ tickOf ps x.num.toNat < least (flowOf ps x.num.toNat)) :
    BehindAt ps l i (put1 are (flowOf ps x.num.toNat) true) (put1 least (flowOf ps x.num.toNat) (tickOf ps x.num.toNat)) := by
  refine ⟨fun f hf => ?_, fun j y h1 h2 => ?_⟩
  · by_cases e : f = flowOf ps x.num.toNat
    · subst e
      rw [put1_same]
      exact ⟨i, x, Nat.le_refl _, hx, rfl, rfl⟩
    · rw [put1_other _ _ e] at hf ⊢
      obtain ⟨j, y, g1, g2, g3, g4⟩ := h.some_ f hf
      exact ⟨j, y, by omega, g2, g3, g4⟩
  · by_cases e : flowOf ps y.num.toNat = flowOf ps x.num.toNat
    · rw [e, put1_same, put1_same]
      refine ⟨rfl, ?_⟩
      rcases Nat.lt_or_ge i j with h3 | h3
      · have := h.all j y h3 h2
        rw [e] at this
        rcases hc with hc | hc
        · rw [hc] at this; cases this.1
        · omega
      · obtain rfl : j = i := by omega
        obtain rfl := Option.some.inj (hx.symm.trans h2)
        exact Int.le_refl _
    · rw [put1_other _ _ e, put1_other _ _ e]
      rcases Nat.lt_or_ge i j with h3 | h3
      · exact h.all j y h3 h2
      · obtain rfl : j = i := by omega
        obtain rfl := Option.some.inj (hx.symm.trans h2)
        exact absurd rfl e
theorem BehindAt.pass (h : BehindAt ps l (i + 1) are least) {x : Sn} (hx : l[i]? = some x) (h1 : are (flowOf ps x.num.toNat) = true) (h2 : ¬ tickOf ps x.num.toNat < least (flowOf ps x.num.toNat)) : BehindAt ps l i are least := by
  refine ⟨fun f hf => ?_, fun j y g1 g2 => ?_⟩
  · obtain ⟨j, y, g1, g2, g3, g4⟩ := h.some_ f hf
    exact ⟨j, y, by omega, g2, g3, g4⟩
  · rcases Nat.lt_or_ge i j with h3 | h3
    · exact h.all j y h3 g2
    · obtain rfl : j = i := by omega
      obtain rfl := Option.some.inj (hx.symm.trans g2)
      exact ⟨h1, by omega⟩
theorem BehindAt.waits (h : BehindAt ps l (i + 1) are least) {y : Sn} (hy : l[i]? = some y) (f : Nat) : (are f && decide (least f ≤ y.beg)) = true ↔ waitsB ps l f i := by
  rw [Bool.and_eq_true, decide_eq_true_eq]
  constructor
  · rintro ⟨h1, h2⟩
    obtain ⟨j, x, g1, g2, g3, g4⟩ := h.some_ f h1
    exact ⟨j, x, y, g1, hy, g2, g3, by omega⟩
  · rintro ⟨j, x, z, g1, g2, g3, g4, g5⟩
    obtain rfl := Option.some.inj (hy.symm.trans g2)
    have := h.all j x g1 g3
    rw [g4] at this
    exact ⟨this.1, by omega⟩
end
end Go.Proofs.YtepnfioldbhffabDoor
