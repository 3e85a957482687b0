/- Plain facts: the search for the next one that is sent, packet by packet. No Go text is named here. -/
import Derived.Test.YtcldgpbimaoliabDoorPlainSched
namespace Go.Proofs.YtcldgpbimaoliabDoor

def isDone (out : List Sn) (i : Nat) : Bool := out.any fun x => x.num == (i : Int)
theorem isDone_false {out : List Sn} {i : Nat} : isDone out i = false ↔ ∀ x ∈ out, x.num ≠ (i : Int) := by simp [isDone]
theorem isDone_snoc (out : List Sn) (b i : Nat) (f t : Int) : isDone (out ++ [⟨b, f, t⟩]) i = (isDone out i || b == i) := by
  simp only [isDone, List.any_append, List.any_cons, List.any_nil, Bool.or_false]
  have e : ((b : Int) == (i : Int)) = (b == i) := by
    by_cases h : b = i
    · subst h; rw [beq_self_eq_true, beq_self_eq_true]
    · have h' : (b : Int) ≠ (i : Int) := by omega
      rw [beq_eq_false_iff_ne.2 h', beq_eq_false_iff_ne.2 h]
  rw [e]
theorem undone_iff {n : Nat} {out : List Sn} {i : Nat} : Undone n out i ↔ i < n ∧ isDone out i = false := by simp [Undone, isDone_false]

/-- The best one so far, and the first one. -/
def scan (ps : List Pk) (keys : List Int) (out : List Sn) (t : Int) : Nat → Option Nat
  | 0 => none
  | i + 1 => if isDone out i = true then scan ps keys out t i else if tickOf ps i ≤ t ∧ (∀ b, scan ps keys out t i = some b → keys.getD i 0 < keys.getD b 0) then some i else scan ps keys out t i
def firstTo (out : List Sn) : Nat → Option Nat
  | 0 => none
  | i + 1 => if isDone out i = true then firstTo out i else match firstTo out i with | some f => some f | none => some i
def optInt : Option Nat → Int
  | none => -1
  | some k => k

theorem scan_some {ps : List Pk} {keys : List Int} {out : List Sn} {t : Int} : ∀ (i : Nat) (b : Nat), scan ps keys out t i = some b → b < i ∧ isDone out b = false ∧ tickOf ps b ≤ t ∧ ∀ k, k < i → isDone out k = false → tickOf ps k ≤ t → keys.getD b 0 < keys.getD k 0 ∨ (keys.getD b 0 = keys.getD k 0 ∧ b ≤ k) := by
  intro i
  induction i with
  | zero => intro b h; simp [scan] at h
  | succ i ih =>
    intro b h
    simp only [scan] at h
    by_cases hd : isDone out i = true
    · rw [if_pos hd] at h
      obtain ⟨h1, h2, h3, h4⟩ := ih b h
      refine ⟨by omega, h2, h3, fun k hk hu ht => ?_⟩
      rcases Nat.lt_or_ge k i with h' | h'
      · exact h4 k h' hu ht
      · obtain rfl : k = i := by omega
        rw [hd] at hu; cases hu
    · rw [if_neg hd] at h
      have hd' : isDone out i = false := by simpa using hd
      by_cases hc : tickOf ps i ≤ t ∧ (∀ b, scan ps keys out t i = some b → keys.getD i 0 < keys.getD b 0)
      · rw [if_pos hc] at h
        obtain rfl := Option.some.inj h
        refine ⟨by omega, hd', hc.1, fun k hk hu ht => ?_⟩
        rcases Nat.lt_or_ge k i with h' | h'
        · cases hs : scan ps keys out t i with
          | none =>
            exact absurd ht (Int.not_le.2 (by
              have : ∀ i, scan ps keys out t i = none → ∀ k, k < i → isDone out k = false → t < tickOf ps k := by
                intro i
                induction i with
                | zero => intro _ k hk; omega
                | succ i ih2 =>
                  intro hn k hk hu
                  simp only [scan] at hn
                  by_cases hd : isDone out i = true
                  · rw [if_pos hd] at hn
                    rcases Nat.lt_or_ge k i with h'' | h''
                    · exact ih2 hn k h'' hu
                    · obtain rfl : k = i := by omega
                      rw [hd] at hu; cases hu
                  · rw [if_neg hd] at hn
                    by_cases hc : tickOf ps i ≤ t ∧ (∀ b, scan ps keys out t i = some b → keys.getD i 0 < keys.getD b 0)
                    · rw [if_pos hc] at hn; cases hn
                    · rw [if_neg hc] at hn
                      rcases Nat.lt_or_ge k i with h'' | h''
                      · exact ih2 hn k h'' hu
                      · obtain rfl : k = i := by omega
                        rcases Int.lt_or_le t (tickOf ps k) with h3 | h3
                        · exact h3
                        · exact absurd ⟨h3, fun b hb => by rw [hn] at hb; cases hb⟩ hc
              exact this i hs k h' hu))
          | some c =>
            have h5 := hc.2 c hs
            have h6 := (ih c hs).2.2.2 k h' hu ht
            exact .inl (by omega)
        · obtain rfl : k = i := by omega
          exact .inr ⟨rfl, Nat.le_refl _⟩
      · rw [if_neg hc] at h
        obtain ⟨h1, h2, h3, h4⟩ := ih b h
        refine ⟨by omega, h2, h3, fun k hk hu ht => ?_⟩
        rcases Nat.lt_or_ge k i with h' | h'
        · exact h4 k h' hu ht
        · obtain rfl : k = i := by omega
          rcases Int.lt_or_le (keys.getD k 0) (keys.getD b 0) with h5 | h5
          · exact absurd ⟨ht, fun c hc' => by rw [h] at hc'; obtain rfl := Option.some.inj hc'; exact h5⟩ hc
          · omega
theorem scan_none {ps : List Pk} {keys : List Int} {out : List Sn} {t : Int} : ∀ i, scan ps keys out t i = none → ∀ k, k < i → isDone out k = false → t < tickOf ps k := by
  intro i
  induction i with
  | zero => intro _ k hk; omega
  | succ i ih2 =>
    intro hn k hk hu
    simp only [scan] at hn
    by_cases hd : isDone out i = true
    · rw [if_pos hd] at hn
      rcases Nat.lt_or_ge k i with h'' | h''
      · exact ih2 hn k h'' hu
      · obtain rfl : k = i := by omega
        rw [hd] at hu; cases hu
    · rw [if_neg hd] at hn
      by_cases hc : tickOf ps i ≤ t ∧ (∀ b, scan ps keys out t i = some b → keys.getD i 0 < keys.getD b 0)
      · rw [if_pos hc] at hn; cases hn
      · rw [if_neg hc] at hn
        rcases Nat.lt_or_ge k i with h'' | h''
        · exact ih2 hn k h'' hu
        · obtain rfl : k = i := by omega
          rcases Int.lt_or_le t (tickOf ps k) with h3 | h3
          · exact h3
          · exact absurd ⟨h3, fun b hb => by rw [hn] at hb; cases hb⟩ hc
theorem first_some {out : List Sn} : ∀ i f, firstTo out i = some f → f < i ∧ isDone out f = false ∧ ∀ k, k < i → isDone out k = false → f ≤ k := by
  intro i
  induction i with
  | zero => intro f h; simp [firstTo] at h
  | succ i ih =>
    intro f h
    simp only [firstTo] at h
    by_cases hd : isDone out i = true
    · rw [if_pos hd] at h
      obtain ⟨h1, h2, h3⟩ := ih f h
      refine ⟨by omega, h2, fun k hk hu => ?_⟩
      rcases Nat.lt_or_ge k i with h' | h'
      · exact h3 k h' hu
      · omega
    · rw [if_neg hd] at h
      cases hf : firstTo out i with
      | some g =>
        rw [hf] at h
        obtain rfl := Option.some.inj h
        obtain ⟨h1, h2, h3⟩ := ih g hf
        refine ⟨by omega, h2, fun k hk hu => ?_⟩
        rcases Nat.lt_or_ge k i with h' | h'
        · exact h3 k h' hu
        · omega
      | none =>
        rw [hf] at h
        obtain rfl := Option.some.inj h
        refine ⟨by omega, by simpa using hd, fun k hk hu => ?_⟩
        rcases Nat.lt_or_ge k i with h' | h'
        · exact absurd hu (by
            have : ∀ i, firstTo out i = none → ∀ k, k < i → isDone out k = true := by
              intro i
              induction i with
              | zero => intro _ k hk; omega
              | succ i ih2 =>
                intro hn k hk
                simp only [firstTo] at hn
                by_cases hd : isDone out i = true
                · rw [if_pos hd] at hn
                  rcases Nat.lt_or_ge k i with h'' | h''
                  · exact ih2 hn k h''
                  · obtain rfl : k = i := by omega
                    exact hd
                · rw [if_neg hd] at hn
                  split at hn <;> cases hn
            rw [this i hf k h']
            simp)
        · omega
theorem first_none {out : List Sn} : ∀ i, firstTo out i = none → ∀ k, k < i → isDone out k = true := by
  intro i
  induction i with
  | zero => intro _ k hk; omega
  | succ i ih2 =>
    intro hn k hk
    simp only [firstTo] at hn
    by_cases hd : isDone out i = true
    · rw [if_pos hd] at hn
      rcases Nat.lt_or_ge k i with h'' | h''
      · exact ih2 hn k h''
      · obtain rfl : k = i := by omega
        exact hd
    · rw [if_neg hd] at hn
      split at hn <;> cases hn

/-- Not all can be done while fewer were sent. -/
theorem all_done : ∀ (n : Nat) (out : List Sn), (∀ i, i < n → isDone out i = true) → n ≤ out.length := by
  intro n
  induction n with
  | zero => intro _ _; exact Nat.zero_le _
  | succ n ih =>
    intro out h
    have h1 := ih (out.filter fun x => !(x.num == (n : Int))) (fun i hi => by
      have := h i (by omega)
      simp only [isDone, List.any_eq_true, beq_iff_eq] at this ⊢
      obtain ⟨x, hx, hxi⟩ := this
      exact ⟨x, List.mem_filter.2 ⟨hx, by simp [hxi]; omega⟩, hxi⟩)
    have h2 : (out.filter fun x => !(x.num == (n : Int))).length < out.length := by
      have := h n (by omega)
      simp only [isDone, List.any_eq_true, beq_iff_eq] at this
      obtain ⟨x, hx, hxi⟩ := this
      exact List.length_filter_lt_length_iff_exists.2 ⟨x, hx, by simp [hxi]⟩
    omega

/-- While the next one is sought: how late it is; f is 0 where the tick was moved on. -/
structure Seeks (per : Int) (ps : List Pk) (keys : List Int) (out : List Sn) (t : Int) (f : Nat) : Prop where
  sched : Sched per ps keys out
  len : out.length ≤ ps.length
  tick : (f = 1 ∧ t = lastFin out) ∨ (f = 0 ∧ (∀ i, Undone ps.length out i → lastFin out < tickOf ps i) ∧ ∃ i, Undone ps.length out i ∧ t = tickOf ps i ∧ ∀ k, Undone ps.length out k → tickOf ps i ≤ tickOf ps k)
  low : 0 ≤ t
  high : t ≤ 1099511627776 + 1500000 * out.length
theorem seeks_start (per : Int) (ps : List Pk) (keys : List Int) : Seeks per ps keys [] 0 1 := ⟨Sched.nil _ _ _, Nat.zero_le _, .inl ⟨rfl, rfl⟩, Int.le_refl _, by simp⟩
section
variable {per : Int} {ps : List Pk} {keys : List Int} {out : List Sn} {t : Int} {f : Nat}
theorem Seeks.send (h : Seeks per ps keys out t f) (ho : OkPks ps) (h1 : 1 ≤ per) (h2 : per ≤ 1000) {b : Nat} (hb : scan ps keys out t ps.length = some b) {p : Pk} (hp : ps[b]? = some p) (hl : out.length < ps.length) : Seeks per ps keys (out ++ [⟨b, t, t + per * p.size⟩]) (t + per * p.size) 1 := by
  obtain ⟨b1, b2, b3, b4⟩ := scan_some _ _ hb
  have hbest : Best ps keys out t b := ⟨undone_iff.2 ⟨b1, b2⟩, b3, fun i hi ht => b4 i (undone_iff.1 hi).1 (undone_iff.1 hi).2 ht⟩
  have htick : Tick ps out t := by
    rcases h.tick with ⟨-, e⟩ | ⟨-, e1, e2⟩
    · exact .inl ⟨e, b, hbest.undone, b3⟩
    · exact .inr ⟨e1, e2⟩
  obtain ⟨-, -, s1, s2, -, -⟩ := okPk_true (ho.each _ p hp).1
  have a1 : 0 ≤ per * p.size := Int.mul_nonneg (by omega) (by omega)
  have a2 : per * p.size ≤ 1000 * 1500 := Int.mul_le_mul (by omega) s2 (by omega) (by omega)
  have l1 := h.low
  have l2 := h.high
  refine ⟨h.sched.snoc ⟨t, b, htick, hbest, by rw [bytesOf_get hp]⟩, by simp; omega, .inl ⟨rfl, by rw [lastFin_snoc]⟩, by omega, ?_⟩
  simp only [List.length_append, List.length_cons, List.length_nil]
  omega
theorem Seeks.idle (h : Seeks per ps keys out t f) (ho : OkPks ps) (hb : scan ps keys out t ps.length = none) (hl : out.length < ps.length) : f = 1 ∧ ∃ k p, firstTo out ps.length = some k ∧ ps[k]? = some p ∧ Seeks per ps keys out p.tick 0 := by
  have hs := scan_none _ hb
  have hf : f = 1 ∧ t = lastFin out := by
    rcases h.tick with h1 | ⟨-, -, i, h2, h3, -⟩
    · exact h1
    · have := hs i (undone_iff.1 h2).1 (undone_iff.1 h2).2
      omega
  refine ⟨hf.1, ?_⟩
  cases hk : firstTo out ps.length with
  | none =>
    have := all_done ps.length out (first_none _ hk)
    omega
  | some k =>
    obtain ⟨k1, k2, k3⟩ := first_some _ _ hk
    have e : ps[k]? = some ps[k] := List.getElem?_eq_getElem k1
    obtain ⟨-, -, -, -, t1, t2⟩ := okPk_true (ho.each _ _ e).1
    refine ⟨k, ps[k], rfl, e, h.sched, h.len, .inr ⟨rfl, fun i hi => ?_, k, undone_iff.2 ⟨k1, k2⟩, (tickOf_get e).symm, fun i hi => ?_⟩, t1, by omega⟩
    · rw [← hf.2]
      exact hs i (undone_iff.1 hi).1 (undone_iff.1 hi).2
    · exact ticks_le ho (k3 i (undone_iff.1 hi).1 (undone_iff.1 hi).2) (undone_iff.1 hi).1
end
end Go.Proofs.YtcldgpbimaoliabDoor
