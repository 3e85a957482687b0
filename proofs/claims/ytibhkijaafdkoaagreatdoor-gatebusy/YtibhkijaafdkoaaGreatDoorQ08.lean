/- Own facts, put together: no statement of its own. -/
import Derived.Test.YtibhkijaafdkoaaGreatDoorQ05
namespace Go.Proofs.YtibhkijaafdkoaaGreatDoor
structure Drr where
 qs : Nat → List Nat
 cr : Nat → Int
 row : List Nat
 srv : Option Nat
def put1 {α : Type} (f : Nat → α) (k : Nat) (x : α) : Nat → α := fun i => if i = k then x else f i
theorem put1_same {α : Type} (f : Nat → α) (k : Nat) (x : α) : put1 f k x k = x := if_pos rfl
theorem put1_other {α : Type} (f : Nat → α) {k i : Nat} (x : α) (h : i ≠ k) : put1 f k x i = f i := if_neg h
def Drr.line (d : Drr) : List Nat := match d.srv with | some f => f :: d.row | none => d.row
section
variable (fl : Nat → Nat) (sz : Nat → Int) (qu : Nat → Int)
def Drr.come (d : Drr) (k : Nat) : Drr := { d with qs := put1 d.qs (fl k) (d.qs (fl k) ++ [k]), row := if fl k ∈ d.line then d.row else d.row ++ [fl k] }
def Drr.turn (d : Drr) (f : Nat) (r : List Nat) : Drr := { d with srv := some f, row := r, cr := put1 d.cr f (d.cr f + qu f) }
def Drr.back (d : Drr) (f : Nat) : Drr := { d with srv := none, row := d.row ++ [f] }
def Drr.sent (d : Drr) (f k : Nat) (r : List Nat) : Drr := if r = [] then { d with qs := put1 d.qs f [], cr := put1 d.cr f 0, srv := none } else { d with qs := put1 d.qs f r, cr := put1 d.cr f (d.cr f - sz k) }
structure DrrOk (M : Int) (d : Drr) : Prop where
 nodup : d.line.Nodup
 active : ∀ f, f ∈ d.line ↔ d.qs f ≠ []
 low : ∀ f, 0 ≤ d.cr f
 idle : ∀ f, d.qs f = [] → d.cr f = 0
 high : ∀ f, d.srv ≠ some f → d.cr f ≤ M - 1
 top : ∀ f, d.srv = some f → d.cr f ≤ M - 1 + qu f
 size : ∀ f k, k ∈ d.qs f → fl k = f ∧ 1 ≤ sz k ∧ sz k ≤ M
 big : 1 ≤ M
variable {fl sz qu} {M : Int} {d : Drr}
theorem Drr.line_come (d : Drr) (k : Nat) : (d.come fl k).line = if fl k ∈ d.line then d.line else d.line ++ [fl k] := by
 by_cases hm : fl k ∈ d.line
 ·
  have e : (d.come fl k).row = d.row := if_pos hm
  rw [if_pos hm]
  show (match d.srv with | some f => f :: (d.come fl k).row | none => (d.come fl k).row) = d.line
  rw [e]
  rfl
 ·
  have e : (d.come fl k).row = d.row ++ [fl k] := if_neg hm
  rw [if_neg hm]
  show (match d.srv with | some f => f :: (d.come fl k).row | none => (d.come fl k).row) = d.line ++ [fl k]
  rw [e]
  unfold Drr.line
  cases d.srv <;> rfl
theorem DrrOk.come (h : DrrOk fl sz qu M d) (k : Nat) (h1 : 1 ≤ sz k) (h2 : sz k ≤ M) : DrrOk fl sz qu M (d.come fl k) := by
 have hline := Drr.line_come (fl := fl) d k
 refine ⟨?_, fun f => ?_, h.low, fun f hf => ?_, h.high, h.top, fun f j hj => ?_, h.big⟩
 ·
  rw [hline]
  split
  · exact h.nodup
  · next hn => exact List.nodup_append.2 ⟨h.nodup, List.nodup_cons.2 ⟨by simp, List.nodup_nil⟩, fun a ha b hb e => hn (by rw [List.mem_singleton] at hb; rw [← hb, ← e]; exact ha)⟩
 ·
  rw [hline]
  show _ ↔ put1 d.qs (fl k) (d.qs (fl k) ++ [k]) f ≠ []
  by_cases e : f = fl k
  ·
   subst e
   rw [put1_same]
   constructor
   ·
    intro _ h0
    simp at h0
   ·
    intro _
    split
    · next hm => exact hm
    · exact List.mem_append.2 (.inr (List.mem_singleton.2 rfl))
  ·
   rw [put1_other _ _ e, ← h.active f]
   split
   · exact Iff.rfl
   ·
    constructor
    ·
     intro hm
     rcases List.mem_append.1 hm with hm | hm
     · exact hm
     · exact absurd (List.mem_singleton.1 hm) e
    · intro hm; exact List.mem_append.2 (.inl hm)
 ·
  by_cases e : f = fl k
  ·
   subst e
   have : (d.come fl k).qs (fl k) = d.qs (fl k) ++ [k] := put1_same _ _ _
   rw [this] at hf
   simp at hf
  ·
   have : (d.come fl k).qs f = d.qs f := put1_other _ _ e
   rw [this] at hf
   exact h.idle f hf
 ·
  by_cases e : f = fl k
  ·
   subst e
   have e2 : (d.come fl k).qs (fl k) = d.qs (fl k) ++ [k] := put1_same _ _ _
   rw [e2] at hj
   rcases List.mem_append.1 hj with hj | hj
   · exact h.size _ j hj
   ·
    rw [List.mem_singleton] at hj
    subst hj
    exact ⟨rfl, h1, h2⟩
  ·
   have e2 : (d.come fl k).qs f = d.qs f := put1_other _ _ e
   rw [e2] at hj
   exact h.size f j hj
theorem DrrOk.turn (h : DrrOk fl sz qu M d) (hq : ∀ f, 1 ≤ qu f) (hs : d.srv = none) {f : Nat} {r : List Nat} (hr : d.row = f :: r) : DrrOk fl sz qu M (d.turn qu f r) := by
 have e0 : d.line = f :: r := by unfold Drr.line; rw [hs]; exact hr
 have hline : (d.turn qu f r).line = d.line := by rw [e0]; rfl
 have hne := (h.active f).1 (by rw [e0]; exact List.mem_cons_self ..)
 refine ⟨by rw [hline]; exact h.nodup, fun g => by rw [hline]; exact h.active g, fun g => ?_, fun g hg => ?_, fun g hg => ?_, fun g hg => ?_, h.size, h.big⟩
 ·
  show 0 ≤ put1 d.cr f (d.cr f + qu f) g
  by_cases e : g = f
  ·
   subst e
   rw [put1_same]
   have := h.low g; have := hq g; omega
  · rw [put1_other _ _ e]; exact h.low g
 ·
  show put1 d.cr f (d.cr f + qu f) g = 0
  have hg' : d.qs g = [] := hg
  by_cases e : g = f
  · subst e; exact absurd hg' hne
  · rw [put1_other _ _ e]; exact h.idle g hg'
 ·
  show put1 d.cr f (d.cr f + qu f) g ≤ M - 1
  by_cases e : g = f
  · subst e; exact absurd rfl hg
  · rw [put1_other _ _ e]; exact h.high g (by rw [hs]; intro e; cases e)
 ·
  show put1 d.cr f (d.cr f + qu f) g ≤ M - 1 + qu g
  obtain rfl : f = g := Option.some.inj hg
  rw [put1_same]
  have := h.high f (by rw [hs]; intro e; cases e)
  omega
theorem DrrOk.back (h : DrrOk fl sz qu M d) {f k : Nat} {r : List Nat} (hs : d.srv = some f) (hk : d.qs f = k :: r) (hbig : d.cr f < sz k) : DrrOk fl sz qu M (d.back f) := by
 have e0 : d.line = f :: d.row := by unfold Drr.line; rw [hs]
 have hline : (d.back f).line = d.row ++ [f] := rfl
 have hsz := h.size f k (by rw [hk]; exact List.mem_cons_self ..)
 have hn := h.nodup
 rw [e0] at hn
 obtain ⟨n1, n2⟩ := List.nodup_cons.1 hn
 refine ⟨?_, fun g => ?_, h.low, h.idle, fun g _ => ?_, fun g hg => (by cases hg), h.size, h.big⟩
 ·
  rw [hline]
  exact List.nodup_append.2 ⟨n2, List.nodup_cons.2 ⟨by simp, List.nodup_nil⟩, fun a ha b hb e => n1 (by rw [List.mem_singleton] at hb; rw [← hb, ← e]; exact ha)⟩
 ·
  rw [hline]
  have := h.active g
  rw [e0] at this
  show _ ↔ d.qs g ≠ []
  rw [← this]
  simp only [List.mem_append, List.mem_cons, List.not_mem_nil, or_false]
  constructor
  ·
   rintro (h | h)
   · exact .inr h
   · exact .inl h
  ·
   rintro (h | h)
   · exact .inr h
   · exact .inl h
 ·
  show d.cr g ≤ M - 1
  by_cases e : g = f
  · subst e; omega
  · exact h.high g (by rw [hs]; intro e'; exact e (Option.some.inj e').symm)
theorem DrrOk.sent (h : DrrOk fl sz qu M d) {f k : Nat} {r : List Nat} (hs : d.srv = some f) (hk : d.qs f = k :: r) (hfit : sz k ≤ d.cr f) : DrrOk fl sz qu M (d.sent sz f k r) := by
 have e0 : d.line = f :: d.row := by unfold Drr.line; rw [hs]
 have hsz := h.size f k (by rw [hk]; exact List.mem_cons_self ..)
 have hn := h.nodup
 rw [e0] at hn
 obtain ⟨n1, n2⟩ := List.nodup_cons.1 hn
 have hB := h.big
 by_cases hr : r = []
 ·
  have e1 : d.sent sz f k r = { d with qs := put1 d.qs f [], cr := put1 d.cr f 0, srv := none } := if_pos hr
  rw [e1]
  refine ⟨n2, fun g => ?_, fun g => ?_, fun g hg => ?_, fun g _ => ?_, fun g hg => (by cases hg), fun g j hj => ?_, hB⟩
  ·
   show g ∈ d.row ↔ put1 d.qs f [] g ≠ []
   have := h.active g
   rw [e0] at this
   by_cases e : g = f
   ·
    subst e
    rw [put1_same]
    exact ⟨fun hm => absurd hm n1, fun h0 => absurd rfl h0⟩
   ·
    rw [put1_other _ _ e, ← this]
    exact ⟨fun hm => List.mem_cons_of_mem _ hm, fun hm => by
     rcases List.mem_cons.1 hm with hm | hm
     · exact absurd hm e
     · exact hm⟩
  ·
   show 0 ≤ put1 d.cr f 0 g
   by_cases e : g = f
   · subst e; rw [put1_same]; exact Int.le_refl _
   · rw [put1_other _ _ e]; exact h.low g
  ·
   show put1 d.cr f 0 g = 0
   by_cases e : g = f
   · subst e; exact put1_same _ _ _
   ·
    have hg' : put1 d.qs f [] g = [] := hg
    rw [put1_other _ _ e] at hg' ⊢
    exact h.idle g hg'
  ·
   show put1 d.cr f 0 g ≤ M - 1
   by_cases e : g = f
   · subst e; rw [put1_same]; omega
   ·
    rw [put1_other _ _ e]
    exact h.high g (by rw [hs]; intro e'; exact e (Option.some.inj e').symm)
  ·
   have hj' : j ∈ put1 d.qs f [] g := hj
   by_cases e : g = f
   · subst e; rw [put1_same] at hj'; cases hj'
   · rw [put1_other _ _ e] at hj'; exact h.size g j hj'
 ·
  have e1 : d.sent sz f k r = { d with qs := put1 d.qs f r, cr := put1 d.cr f (d.cr f - sz k) } := if_neg hr
  rw [e1]
  refine ⟨h.nodup, fun g => ?_, fun g => ?_, fun g hg => ?_, fun g hg => ?_, fun g hg => ?_, fun g j hj => ?_, hB⟩
  ·
   show g ∈ d.line ↔ put1 d.qs f r g ≠ []
   by_cases e : g = f
   ·
    subst e
    rw [put1_same]
    exact ⟨fun _ => hr, fun _ => by rw [e0]; exact List.mem_cons_self ..⟩
   · rw [put1_other _ _ e]; exact h.active g
  ·
   show 0 ≤ put1 d.cr f (d.cr f - sz k) g
   by_cases e : g = f
   · subst e; rw [put1_same]; omega
   · rw [put1_other _ _ e]; exact h.low g
  ·
   show put1 d.cr f (d.cr f - sz k) g = 0
   have hg' : put1 d.qs f r g = [] := hg
   by_cases e : g = f
   · subst e; rw [put1_same] at hg'; exact absurd hg' hr
   · rw [put1_other _ _ e] at hg' ⊢; exact h.idle g hg'
  ·
   show put1 d.cr f (d.cr f - sz k) g ≤ M - 1
   have hg' : d.srv ≠ some g := hg
   have e : g ≠ f := fun e => hg' (by rw [e]; exact hs)
   rw [put1_other _ _ e]; exact h.high g hg'
  ·
   show put1 d.cr f (d.cr f - sz k) g ≤ M - 1 + qu g
   have hg' : d.srv = some g := hg
   obtain rfl : f = g := Option.some.inj (hs.symm.trans hg')
   rw [put1_same]
   have := h.top f hs
   omega
  ·
   have hj' : j ∈ put1 d.qs f r g := hj
   by_cases e : g = f
   ·
    subst e
    rw [put1_same] at hj'
    exact h.size g j (by rw [hk]; exact List.mem_cons_of_mem _ hj')
   · rw [put1_other _ _ e] at hj'; exact h.size g j hj'
def aheadOf (a b : Nat) : List Nat → Bool
 | [] => true
 | x :: r => if x = a then true else if x = b then false else aheadOf a b r
theorem aheadOf_append {a b : Nat} : ∀ (l m : List Nat), a ∈ l ∨ b ∈ l → aheadOf a b (l ++ m) = aheadOf a b l := by
 intro l m
 induction l with
 | nil => intro h; rcases h with h | h <;> cases h
 | cons x r ih =>
  intro h
  simp only [List.cons_append, aheadOf]
  by_cases e : x = a
  · rw [if_pos e, if_pos e]
  ·
   by_cases e2 : x = b
   · rw [if_neg e, if_neg e, if_pos e2, if_pos e2]
   ·
    rw [if_neg e, if_neg e, if_neg e2, if_neg e2]
    refine ih ?_
    rcases h with h | h
    ·
     rcases List.mem_cons.1 h with h | h
     · exact absurd h.symm e
     · exact .inl h
    ·
     rcases List.mem_cons.1 h with h | h
     · exact absurd h.symm e2
     · exact .inr h
theorem aheadOf_end {a b : Nat} : ∀ (l : List Nat), a ∉ l → b ∈ l → aheadOf a b l = false := by
 intro l
 induction l with
 | nil => intro _ h; cases h
 | cons x r ih =>
  intro h1 h2
  simp only [aheadOf]
  have e : x ≠ a := fun e => h1 (by rw [e]; exact List.mem_cons_self ..)
  rw [if_neg e]
  by_cases e2 : x = b
  · rw [if_pos e2]
  ·
   rw [if_neg e2]
   refine ih (fun h => h1 (List.mem_cons_of_mem _ h)) ?_
   rcases List.mem_cons.1 h2 with h | h
   · exact absurd h.symm e2
   · exact h
theorem aheadOf_end' {a b : Nat} : ∀ (l : List Nat), b ∉ l → a ∈ l → aheadOf a b l = true := by
 intro l
 induction l with
 | nil => intro _ h; cases h
 | cons x r ih =>
  intro h1 h2
  simp only [aheadOf]
  by_cases e : x = a
  · rw [if_pos e]
  ·
   rw [if_neg e, if_neg (fun e => h1 (by rw [e]; exact List.mem_cons_self ..))]
   refine ih (fun h => h1 (List.mem_cons_of_mem _ h)) ?_
   rcases List.mem_cons.1 h2 with h | h
   · exact absurd h.symm e
   · exact h
def Drr.pot (d : Drr) (a b : Nat) : Int := (if aheadOf a b d.line then 0 else 1) + (if d.srv = some a then 1 else 0) - (if d.srv = some b then 1 else 0)
def Drr.lead (d : Drr) (qu : Nat → Int) (a b : Nat) : Int := qu a * qu b * d.pot a b - d.cr a * qu b + d.cr b * qu a
theorem DrrOk.cr_in (h : DrrOk fl sz qu M d) (hq : ∀ f, 1 ≤ qu f) (f : Nat) : 0 ≤ d.cr f ∧ d.cr f ≤ M - 1 + qu f := by
 refine ⟨h.low f, ?_⟩
 by_cases e : d.srv = some f
 · exact h.top f e
 · have := h.high f e; have := hq f; omega
theorem lead_come {a b : Nat} (k : Nat) (ha : a ∈ d.line) : (d.come fl k).lead qu a b = d.lead qu a b := by
 have hp : (d.come fl k).pot a b = d.pot a b := by
  unfold Drr.pot
  rw [Drr.line_come]
  have e : (d.come fl k).srv = d.srv := rfl
  rw [e]
  split
  · rfl
  · rw [aheadOf_append _ _ (.inl ha)]
 unfold Drr.lead
 rw [hp]
 rfl
theorem lead_turn {a b : Nat} (hab : a ≠ b) (hs : d.srv = none) {f : Nat} {r : List Nat} (hr : d.row = f :: r) : (d.turn qu f r).lead qu a b = d.lead qu a b := by
 have e0 : d.line = f :: r := by unfold Drr.line; rw [hs]; exact hr
 have hline : (d.turn qu f r).line = d.line := by rw [e0]; rfl
 have hs2 : (d.turn qu f r).srv = some f := rfl
 have hc : (d.turn qu f r).cr = put1 d.cr f (d.cr f + qu f) := rfl
 unfold Drr.lead Drr.pot
 rw [hline, hs2, hs, hc, e0]
 simp only [aheadOf, Option.some.injEq]
 by_cases ea : f = a
 ·
  subst ea
  rw [put1_same, put1_other _ _ (Ne.symm hab)]
  simp only [if_true, if_neg hab, reduceCtorEq, if_false]
  rw [Int.add_mul]
  omega
 ·
  by_cases eb : f = b
  ·
   subst eb
   rw [put1_same, put1_other _ _ (Ne.symm ea)]
   simp only [if_true, if_neg ea, reduceCtorEq, if_false, Bool.false_eq_true]
   rw [Int.add_mul, Int.mul_comm (qu f) (qu a)]
   omega
  ·
   rw [put1_other _ _ (Ne.symm ea), put1_other _ _ (Ne.symm eb)]
   simp only [if_neg ea, if_neg eb, reduceCtorEq, if_false]
theorem lead_back {a b : Nat} (hab : a ≠ b) (hn : d.line.Nodup) {f : Nat} (hs : d.srv = some f) (ha : a ∈ d.line) (hb : b ∈ d.line) : (d.back f).lead qu a b = d.lead qu a b := by
 have e0 : d.line = f :: d.row := by unfold Drr.line; rw [hs]
 have hline : (d.back f).line = d.row ++ [f] := rfl
 have hs2 : (d.back f).srv = none := rfl
 have hc : (d.back f).cr = d.cr := rfl
 rw [e0] at hn ha hb
 obtain ⟨n1, n2⟩ := List.nodup_cons.1 hn
 have hp : (d.back f).pot a b = d.pot a b := by
  unfold Drr.pot
  rw [hline, hs2, hs, e0]
  by_cases ea : f = a
  ·
   subst ea
   have hb' : b ∈ d.row := by
    rcases List.mem_cons.1 hb with h | h
    · exact absurd h.symm hab
    · exact h
   have k1 : aheadOf f b (f :: d.row) = true := by simp [aheadOf]
   have k2 : aheadOf f b (d.row ++ [f]) = false := by rw [aheadOf_append _ _ (.inr hb')]; exact aheadOf_end _ n1 hb'
   simp [k1, k2, hab]
  ·
   by_cases eb : f = b
   ·
    subst eb
    have ha' : a ∈ d.row := by
     rcases List.mem_cons.1 ha with h | h
     · exact absurd h.symm ea
     · exact h
    have k1 : aheadOf a f (f :: d.row) = false := by simp [aheadOf, ea]
    have k2 : aheadOf a f (d.row ++ [f]) = true := by rw [aheadOf_append _ _ (.inl ha')]; exact aheadOf_end' _ n1 ha'
    simp [k1, k2, ea]
   ·
    have ha' : a ∈ d.row := by
     rcases List.mem_cons.1 ha with h | h
     · exact absurd h.symm ea
     · exact h
    have k1 : aheadOf a b (f :: d.row) = aheadOf a b d.row := by simp [aheadOf, ea, eb]
    have k2 : aheadOf a b (d.row ++ [f]) = aheadOf a b d.row := aheadOf_append _ _ (.inl ha')
    simp [k1, k2, ea, eb]
 unfold Drr.lead
 rw [hp, hc]
end
end Go.Proofs.YtibhkijaafdkoaaGreatDoor
