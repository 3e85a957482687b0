/- Own facts, put together: no statement of its own. -/
import Derived.Test.YtibhkijaafdkoaaGreatDoorR02
namespace Go.Proofs.YtibhkijaafdkoaaGreatDoor
def lto (per : Int) (ps : List Pk) : Nat → Int
 | 0 => 0
 | j + 1 => max (lto per ps j) (tickOf ps j) + per * bytesOf ps j
def lind (per : Int) (ps : List Pk) (j : Nat) : Sn := ⟨j, max (lto per ps j) (tickOf ps j), lto per ps (j + 1)⟩
def lindAll (per : Int) (ps : List Pk) (j : Nat) : List Sn := (List.range j).map (lind per ps)
theorem lindAll_length (per : Int) (ps : List Pk) (j : Nat) : (lindAll per ps j).length = j := by simp [lindAll]
theorem lindAll_get {per : Int} {ps : List Pk} {j k : Nat} (h : k < j) : (lindAll per ps j)[k]? = some (lind per ps k) := by simp [lindAll, h]
theorem lindAll_succ (per : Int) (ps : List Pk) (j : Nat) : lindAll per ps (j + 1) = lindAll per ps j ++ [lind per ps j] := by simp [lindAll, List.range_succ]
theorem lindAll_take {per : Int} {ps : List Pk} {j k : Nat} (h : k ≤ j) : (lindAll per ps j).take k = lindAll per ps k := by
 rw [lindAll, ← List.map_take, List.take_range, Nat.min_eq_left h]; rfl
def fifoQ : Que (List Nat) := ⟨fun q k => q ++ [k], fun q => q.headD 0, fun q => q.tail, fun q => q.length, fun q => q⟩
structure InOrder (per : Int) (ps : List Pk) (s : St (List Nat)) (j : Nat) : Prop where
 le : j ≤ s.next
 q : s.q = List.range' j (s.next - j)
 out : s.out = lindAll per ps j
 came : ∀ i, i < s.next → tickOf ps i ≤ s.now
 now : max s.now (tickOf ps j) = max (lto per ps j) (tickOf ps j)
theorem fifo_order {per : Int} {ps : List Pk} {s : St (List Nat)} (hper : 0 ≤ per) (ho : OkPks ps) (h : Reaches fifoQ per ps [] s) : ∃ j, InOrder per ps s j := by
 refine h.by_steps (C := fun s => ∃ j, InOrder per ps s j) ⟨0, Nat.le_refl _, rfl, rfl, fun i h => absurd h (Nat.not_lt_zero _), rfl⟩ ?_ ?_ ?_
 ·
  intro s p hs hp ht ih
  obtain ⟨j, h1, h2, h3, h4, h5⟩ := ih
  refine ⟨j, by simp only; omega, ?_, h3, fun i hi => ?_, h5⟩
  ·
   simp only [fifoQ, h2]
   rw [show s.next + 1 - j = (s.next - j) + 1 by omega, List.range'_concat, Nat.one_mul, show j + (s.next - j) = s.next by omega]
  ·
   simp only at hi ⊢
   rcases Nat.lt_or_ge i s.next with h | h
   · exact h4 i h
   ·
    obtain rfl : i = s.next := by omega
    rw [tickOf_get hp]; exact ht
 ·
  intro s p hs hall h0 hp ih
  obtain ⟨j, h1, h2, h3, h4, h5⟩ := ih
  have hlt : j < s.next := by
   rcases Nat.lt_or_ge j s.next with h | h
   · exact h
   ·
    rw [h2, show s.next - j = 0 by omega] at h0
    simp [fifoQ] at h0
  have hr : List.range' j (s.next - j) = j :: List.range' (j + 1) (s.next - (j + 1)) := by
   rw [show s.next - j = (s.next - (j + 1)) + 1 by omega, List.range'_succ]
  have hpick : fifoQ.pick s.q = j := by rw [h2, hr]; rfl
  rw [hpick] at hp
  have e1 := tickOf_get hp
  have e2 := bytesOf_get hp
  have hn : s.now = max (lto per ps j) (tickOf ps j) := by
   have := h4 j hlt
   omega
  have hpos : 0 ≤ per * p.size := Int.mul_nonneg hper (by have := okPk_true (ho.each _ p hp).1; omega)
  refine ⟨j + 1, by simp only; omega, ?_, ?_, fun i hi => ?_, ?_⟩
  · simp only [fifoQ]; rw [h2, hr]; rfl
  ·
   simp only [hpick]
   rw [lindAll_succ, h3]
   simp only [lind, lto, e2, hn]
  ·
   have := h4 i hi
   simp only
   omega
  · simp only [lto, e2, hn]
 ·
  intro s p hs hp ht h0 ih
  obtain ⟨j, h1, h2, h3, h4, h5⟩ := ih
  have hj : j = s.next := by
   have h0' : s.q.length = 0 := h0
   rw [h2, List.length_range'] at h0'
   omega
  subst hj
  have e1 := tickOf_get hp
  refine ⟨s.next, Nat.le_refl _, h2, h3, fun i hi => ?_, ?_⟩
  ·
   have := h4 i hi
   simp only
   omega
  ·
   simp only [e1] at h5 ⊢
   omega
theorem fifo_law {per : Int} {ps : List Pk} (hper : 0 ≤ per) (ho : OkPks ps) : QueLaw fifoQ per ps [] where
 none := rfl
 come := fun s _ _ => by simp [fifoQ]
 left := fun s _ h => by
  simp only [fifoQ] at h ⊢
  rw [List.length_tail]
  omega
 pick := fun s hs h => by
  obtain ⟨j, h1, h2, -, -, -⟩ := fifo_order hper ho hs
  have h' : 0 < s.q.length := h
  rw [h2, List.length_range'] at h'
  show s.q.headD 0 < s.next
  rw [h2, show s.next - j = (s.next - (j + 1)) + 1 by omega, List.range'_succ]
  simp
  omega
 idle := fun _ _ h => h
theorem fifo_end {per : Int} {ps : List Pk} {s : St (List Nat)} (hper : 0 ≤ per) (ho : OkPks ps) (h : Reaches fifoQ per ps [] s) (hn : ¬ s.next < ps.length) (hr : fifoQ.rest s.q = 0) : s.out = lindAll per ps ps.length := by
 obtain ⟨j, h1, h2, h3, -, -⟩ := fifo_order hper ho h
 have := h.next_le
 have h' : s.q.length = 0 := hr
 rw [h2, List.length_range'] at h'
 rw [h3, show j = ps.length by omega]
end Go.Proofs.YtibhkijaafdkoaaGreatDoor

namespace Go.Proofs.YtibhkijaafdkoaaGreatDoor
def Undone (n : Nat) (out : List Sn) (i : Nat) : Prop := i < n ∧ ∀ x ∈ out, x.num ≠ (i : Int)
def lastFin (out : List Sn) : Int := match out.getLast? with | some x => x.fin | none => 0
theorem lastFin_snoc (out : List Sn) (x : Sn) : lastFin (out ++ [x]) = x.fin := by simp [lastFin]
structure Best (ps : List Pk) (keys : List Int) (out : List Sn) (t : Int) (b : Nat) : Prop where
 undone : Undone ps.length out b
 came : tickOf ps b ≤ t
 least : ∀ i, Undone ps.length out i → tickOf ps i ≤ t → keys.getD b 0 < keys.getD i 0 ∨ (keys.getD b 0 = keys.getD i 0 ∧ b ≤ i)
def Tick (ps : List Pk) (out : List Sn) (t : Int) : Prop :=
 (t = lastFin out ∧ ∃ i, Undone ps.length out i ∧ tickOf ps i ≤ t) ∨
 ((∀ i, Undone ps.length out i → lastFin out < tickOf ps i) ∧ ∃ i, Undone ps.length out i ∧ t = tickOf ps i ∧ ∀ k, Undone ps.length out k → tickOf ps i ≤ tickOf ps k)
theorem Tick.same {ps : List Pk} {out : List Sn} {t u : Int} (h : Tick ps out t) (k : Tick ps out u) : t = u := by
 rcases h with ⟨rfl, i, h1, h2⟩ | ⟨h0, i, h1, rfl, h2⟩
 ·
  rcases k with ⟨rfl, -⟩ | ⟨k0, -⟩
  · rfl
  · have := k0 i h1; omega
 ·
  rcases k with ⟨rfl, j, k1, k2⟩ | ⟨-, j, k1, rfl, k2⟩
  · have := h0 j k1; omega
  ·
   have := h2 j k1
   have := k2 i h1
   omega
theorem Best.same {ps : List Pk} {keys : List Int} {out : List Sn} {t : Int} {b c : Nat} (h : Best ps keys out t b) (k : Best ps keys out t c) : b = c := by
 have h1 := h.least c k.undone k.came
 have k1 := k.least b h.undone h.came
 omega
def IsNext (per : Int) (ps : List Pk) (keys : List Int) (out : List Sn) (x : Sn) : Prop := ∃ t b, Tick ps out t ∧ Best ps keys out t b ∧ x = ⟨b, t, t + per * bytesOf ps b⟩
theorem IsNext.same {per : Int} {ps : List Pk} {keys : List Int} {out : List Sn} {x y : Sn} (h : IsNext per ps keys out x) (k : IsNext per ps keys out y) : x = y := by
 obtain ⟨t, b, h1, h2, rfl⟩ := h
 obtain ⟨u, c, k1, k2, rfl⟩ := k
 obtain rfl := h1.same k1
 obtain rfl := h2.same k2
 rfl
def Sched (per : Int) (ps : List Pk) (keys : List Int) (out : List Sn) : Prop := ∀ k x, out[k]? = some x → IsNext per ps keys (out.take k) x
theorem Sched.nil (per : Int) (ps : List Pk) (keys : List Int) : Sched per ps keys [] := fun k x h => by simp at h
theorem Sched.snoc {per : Int} {ps : List Pk} {keys : List Int} {out : List Sn} {x : Sn} (h : Sched per ps keys out) (hx : IsNext per ps keys out x) : Sched per ps keys (out ++ [x]) := by
 intro k y hk
 have hl := lt_of_get hk
 rw [List.length_append, List.length_cons, List.length_nil] at hl
 rcases Nat.lt_or_ge k out.length with h1 | h1
 ·
  rw [List.getElem?_append_left h1] at hk
  rw [List.take_append_of_le_length (by omega)]
  exact h k y hk
 ·
  obtain rfl : k = out.length := by omega
  rw [List.getElem?_append_right (Nat.le_refl _)] at hk
  simp at hk
  subst hk
  rw [List.take_append_of_le_length (Nat.le_refl _), List.take_length]
  exact hx
theorem Sched.same {per : Int} {ps : List Pk} {keys : List Int} {a b : List Sn} (h : Sched per ps keys a) (k : Sched per ps keys b) (hl : a.length = b.length) : a = b := by
 have key : ∀ n, n ≤ a.length → a.take n = b.take n := by
  intro n
  induction n with
  | zero => intro _; simp
  | succ n ih =>
   intro hn
   have e := ih (by omega)
   have h1 : a[n]? = some a[n] := List.getElem?_eq_getElem (by omega)
   have h2 : b[n]? = some (b[n]'(by omega)) := List.getElem?_eq_getElem (by omega)
   have g1 := h n _ h1
   have g2 := k n _ h2
   rw [← e] at g2
   have := g1.same g2
   rw [List.take_add_one, List.take_add_one, e, h1, h2, this]
 have := key a.length (Nat.le_refl _)
 rw [List.take_length, hl, List.take_length] at this
 exact this
theorem undone_lind {per : Int} {ps : List Pk} {j i : Nat} : Undone ps.length (lindAll per ps j) i ↔ i < ps.length ∧ j ≤ i := by
 unfold Undone
 constructor
 ·
  rintro ⟨h1, h2⟩
  refine ⟨h1, ?_⟩
  rcases Nat.lt_or_ge i j with h | h
  ·
   have hm : lind per ps i ∈ lindAll per ps j := List.mem_map.2 ⟨i, List.mem_range.2 h, rfl⟩
   exact absurd rfl (h2 _ hm)
  · exact h
 ·
  rintro ⟨h1, h2⟩
  refine ⟨h1, fun x hx => ?_⟩
  obtain ⟨k, hk, rfl⟩ := List.mem_map.1 hx
  have := List.mem_range.1 hk
  simp only [lind]
  omega
theorem lastFin_lind (per : Int) (ps : List Pk) : ∀ j, lastFin (lindAll per ps j) = lto per ps j
 | 0 => rfl
 | j + 1 => by rw [lindAll_succ, lastFin_snoc]; rfl
theorem lind_sched {per : Int} {ps : List Pk} (ho : OkPks ps) (keys : List Int) (hk : ∀ i, keys.getD i 0 = 0) : Sched per ps keys (lindAll per ps ps.length) := by
 intro k x hx
 have hkl := lt_of_get hx
 rw [lindAll_length] at hkl
 rw [lindAll_get hkl] at hx
 have hx := Option.some.inj hx
 subst hx
 rw [lindAll_take (by omega)]
 refine ⟨max (lto per ps k) (tickOf ps k), k, ?_, ⟨undone_lind.2 ⟨hkl, Nat.le_refl _⟩, by omega, fun i hi _ => .inr ⟨by rw [hk, hk], (undone_lind.1 hi).2⟩⟩, ?_⟩
 ·
  by_cases h : tickOf ps k ≤ lto per ps k
  · exact .inl ⟨by rw [lastFin_lind]; omega, k, undone_lind.2 ⟨hkl, Nat.le_refl _⟩, by omega⟩
  ·
   refine .inr ⟨fun i hi => ?_, k, undone_lind.2 ⟨hkl, Nat.le_refl _⟩, by omega, fun i hi => ?_⟩
   ·
    rw [lastFin_lind]
    have := undone_lind.1 hi
    have := ticks_le ho this.2 this.1
    omega
   ·
    have := undone_lind.1 hi
    exact ticks_le ho this.2 this.1
 · simp only [lind, lto]
end Go.Proofs.YtibhkijaafdkoaaGreatDoor

namespace Go.Proofs.YtibhkijaafdkoaaGreatDoor
def isDone (out : List Sn) (i : Nat) : Bool := out.any fun x => x.num == (i : Int)
theorem isDone_false {out : List Sn} {i : Nat} : isDone out i = false ↔ ∀ x ∈ out, x.num ≠ (i : Int) := by simp [isDone]
theorem isDone_snoc (out : List Sn) (b i : Nat) (f t : Int) : isDone (out ++ [⟨b, f, t⟩]) i = (isDone out i || b == i) := by
 simp only [isDone, List.any_append, List.any_cons, List.any_nil, Bool.or_false]
 have e : ((b : Int) == (i : Int)) = (b == i) := by
  by_cases h : b = i
  · subst h; rw [beq_self_eq_true, beq_self_eq_true]
  ·
   have h' : (b : Int) ≠ (i : Int) := by omega
   rw [beq_eq_false_iff_ne.2 h', beq_eq_false_iff_ne.2 h]
 rw [e]
theorem undone_iff {n : Nat} {out : List Sn} {i : Nat} : Undone n out i ↔ i < n ∧ isDone out i = false := by simp [Undone, isDone_false]
def scan (ps : List Pk) (keys : List Int) (out : List Sn) (t : Int) : Nat → Option Nat
 | 0 => none
 | i + 1 => if isDone out i = true then scan ps keys out t i else if tickOf ps i ≤ t ∧ (∀ b, scan ps keys out t i = some b → keys.getD i 0 < keys.getD b 0) then some i else scan ps keys out t i
def firstTo (out : List Sn) : Nat → Option Nat
 | 0 => none
 | i + 1 => if isDone out i = true then firstTo out i else match firstTo out i with | some f => some f | none => some i
def optInt : Option Nat → Int
 | none => -1
 | some k => k
theorem scan_some {ps : List Pk} {keys : List Int} {out : List Sn} {t : Int} : ∀ (i : Nat) (b : Nat), scan ps keys out t i = some b → b < i ∧ isDone out b = false ∧ tickOf ps b ≤ t ∧ ∀ k, k < i → isDone out k = false → tickOf ps k ≤ t → keys.getD b 0 < keys.getD k 0 ∨ (keys.getD b 0 = keys.getD k 0 ∧ b ≤ k) := by
 intro i
 induction i with
 | zero => intro b h; simp [scan] at h
 | succ i ih =>
  intro b h
  simp only [scan] at h
  by_cases hd : isDone out i = true
  ·
   rw [if_pos hd] at h
   obtain ⟨h1, h2, h3, h4⟩ := ih b h
   refine ⟨by omega, h2, h3, fun k hk hu ht => ?_⟩
   rcases Nat.lt_or_ge k i with h' | h'
   · exact h4 k h' hu ht
   ·
    obtain rfl : k = i := by omega
    rw [hd] at hu; cases hu
  ·
   rw [if_neg hd] at h
   have hd' : isDone out i = false := by simpa using hd
   by_cases hc : tickOf ps i ≤ t ∧ (∀ b, scan ps keys out t i = some b → keys.getD i 0 < keys.getD b 0)
   ·
    rw [if_pos hc] at h
    obtain rfl := Option.some.inj h
    refine ⟨by omega, hd', hc.1, fun k hk hu ht => ?_⟩
    rcases Nat.lt_or_ge k i with h' | h'
    ·
     cases hs : scan ps keys out t i with
     | none =>
      exact absurd ht (Int.not_le.2 (by
       have : ∀ i, scan ps keys out t i = none → ∀ k, k < i → isDone out k = false → t < tickOf ps k := by
        intro i
        induction i with
        | zero => intro _ k hk; omega
        | succ i ih2 =>
         intro hn k hk hu
         simp only [scan] at hn
         by_cases hd : isDone out i = true
         ·
          rw [if_pos hd] at hn
          rcases Nat.lt_or_ge k i with h'' | h''
          · exact ih2 hn k h'' hu
          ·
           obtain rfl : k = i := by omega
           rw [hd] at hu; cases hu
         ·
          rw [if_neg hd] at hn
          by_cases hc : tickOf ps i ≤ t ∧ (∀ b, scan ps keys out t i = some b → keys.getD i 0 < keys.getD b 0)
          · rw [if_pos hc] at hn; cases hn
          ·
           rw [if_neg hc] at hn
           rcases Nat.lt_or_ge k i with h'' | h''
           · exact ih2 hn k h'' hu
           ·
            obtain rfl : k = i := by omega
            rcases Int.lt_or_le t (tickOf ps k) with h3 | h3
            · exact h3
            · exact absurd ⟨h3, fun b hb => by rw [hn] at hb; cases hb⟩ hc
       exact this i hs k h' hu))
     | some c =>
      have h5 := hc.2 c hs
      have h6 := (ih c hs).2.2.2 k h' hu ht
      exact .inl (by omega)
    ·
     obtain rfl : k = i := by omega
     exact .inr ⟨rfl, Nat.le_refl _⟩
   ·
    rw [if_neg hc] at h
    obtain ⟨h1, h2, h3, h4⟩ := ih b h
    refine ⟨by omega, h2, h3, fun k hk hu ht => ?_⟩
    rcases Nat.lt_or_ge k i with h' | h'
    · exact h4 k h' hu ht
    ·
     obtain rfl : k = i := by omega
     rcases Int.lt_or_le (keys.getD k 0) (keys.getD b 0) with h5 | h5
     · exact absurd ⟨ht, fun c hc' => by rw [h] at hc'; obtain rfl := Option.some.inj hc'; exact h5⟩ hc
     · omega
theorem scan_none {ps : List Pk} {keys : List Int} {out : List Sn} {t : Int} : ∀ i, scan ps keys out t i = none → ∀ k, k < i → isDone out k = false → t < tickOf ps k := by
 intro i
 induction i with
 | zero => intro _ k hk; omega
 | succ i ih2 =>
  intro hn k hk hu
  simp only [scan] at hn
  by_cases hd : isDone out i = true
  ·
   rw [if_pos hd] at hn
   rcases Nat.lt_or_ge k i with h'' | h''
   · exact ih2 hn k h'' hu
   ·
    obtain rfl : k = i := by omega
    rw [hd] at hu; cases hu
  ·
   rw [if_neg hd] at hn
   by_cases hc : tickOf ps i ≤ t ∧ (∀ b, scan ps keys out t i = some b → keys.getD i 0 < keys.getD b 0)
   · rw [if_pos hc] at hn; cases hn
   ·
    rw [if_neg hc] at hn
    rcases Nat.lt_or_ge k i with h'' | h''
    · exact ih2 hn k h'' hu
    ·
     obtain rfl : k = i := by omega
     rcases Int.lt_or_le t (tickOf ps k) with h3 | h3
     · exact h3
     · exact absurd ⟨h3, fun b hb => by rw [hn] at hb; cases hb⟩ hc
theorem first_some {out : List Sn} : ∀ i f, firstTo out i = some f → f < i ∧ isDone out f = false ∧ ∀ k, k < i → isDone out k = false → f ≤ k := by
 intro i
 induction i with
 | zero => intro f h; simp [firstTo] at h
 | succ i ih =>
  intro f h
  simp only [firstTo] at h
  by_cases hd : isDone out i = true
  ·
   rw [if_pos hd] at h
   obtain ⟨h1, h2, h3⟩ := ih f h
   refine ⟨by omega, h2, fun k hk hu => ?_⟩
   rcases Nat.lt_or_ge k i with h' | h'
   · exact h3 k h' hu
   · omega
  ·
   rw [if_neg hd] at h
   cases hf : firstTo out i with
   | some g =>
    rw [hf] at h
    obtain rfl := Option.some.inj h
    obtain ⟨h1, h2, h3⟩ := ih g hf
    refine ⟨by omega, h2, fun k hk hu => ?_⟩
    rcases Nat.lt_or_ge k i with h' | h'
    · exact h3 k h' hu
    · omega
   | none =>
    rw [hf] at h
    obtain rfl := Option.some.inj h
    refine ⟨by omega, by simpa using hd, fun k hk hu => ?_⟩
    rcases Nat.lt_or_ge k i with h' | h'
    ·
     exact absurd hu (by
      have : ∀ i, firstTo out i = none → ∀ k, k < i → isDone out k = true := by
       intro i
       induction i with
       | zero => intro _ k hk; omega
       | succ i ih2 =>
        intro hn k hk
        simp only [firstTo] at hn
        by_cases hd : isDone out i = true
        ·
         rw [if_pos hd] at hn
         rcases Nat.lt_or_ge k i with h'' | h''
         · exact ih2 hn k h''
         ·
          obtain rfl : k = i := by omega
          exact hd
        ·
         rw [if_neg hd] at hn
         split at hn <;> cases hn
      rw [this i hf k h']
      simp)
    · omega
theorem first_none {out : List Sn} : ∀ i, firstTo out i = none → ∀ k, k < i → isDone out k = true := by
 intro i
 induction i with
 | zero => intro _ k hk; omega
 | succ i ih2 =>
  intro hn k hk
  simp only [firstTo] at hn
  by_cases hd : isDone out i = true
  ·
   rw [if_pos hd] at hn
   rcases Nat.lt_or_ge k i with h'' | h''
   · exact ih2 hn k h''
   ·
    obtain rfl : k = i := by omega
    exact hd
  ·
   rw [if_neg hd] at hn
   split at hn <;> cases hn
theorem all_done : ∀ (n : Nat) (out : List Sn), (∀ i, i < n → isDone out i = true) → n ≤ out.length := by
 intro n
 induction n with
 | zero => intro _ _; exact Nat.zero_le _
 | succ n ih =>
  intro out h
  have h1 := ih (out.filter fun x => !(x.num == (n : Int))) (fun i hi => by
   have := h i (by omega)
   simp only [isDone, List.any_eq_true, beq_iff_eq] at this ⊢
   obtain ⟨x, hx, hxi⟩ := this
   exact ⟨x, List.mem_filter.2 ⟨hx, by simp [hxi]; omega⟩, hxi⟩)
  have h2 : (out.filter fun x => !(x.num == (n : Int))).length < out.length := by
   have := h n (by omega)
   simp only [isDone, List.any_eq_true, beq_iff_eq] at this
   obtain ⟨x, hx, hxi⟩ := this
   exact List.length_filter_lt_length_iff_exists.2 ⟨x, hx, by simp [hxi]⟩
  omega
structure Seeks (per : Int) (ps : List Pk) (keys : List Int) (out : List Sn) (t : Int) (f : Nat) : Prop where
 sched : Sched per ps keys out
 len : out.length ≤ ps.length
 tick : (f = 1 ∧ t = lastFin out) ∨ (f = 0 ∧ (∀ i, Undone ps.length out i → lastFin out < tickOf ps i) ∧ ∃ i, Undone ps.length out i ∧ t = tickOf ps i ∧ ∀ k, Undone ps.length out k → tickOf ps i ≤ tickOf ps k)
 low : 0 ≤ t
 high : t ≤ 1099511627776 + 1500000 * out.length
theorem seeks_start (per : Int) (ps : List Pk) (keys : List Int) : Seeks per ps keys [] 0 1 := ⟨Sched.nil _ _ _, Nat.zero_le _, .inl ⟨rfl, rfl⟩, Int.le_refl _, by simp⟩
section
variable {per : Int} {ps : List Pk} {keys : List Int} {out : List Sn} {t : Int} {f : Nat}
theorem Seeks.send (h : Seeks per ps keys out t f) (ho : OkPks ps) (h1 : 1 ≤ per) (h2 : per ≤ 1000) {b : Nat} (hb : scan ps keys out t ps.length = some b) {p : Pk} (hp : ps[b]? = some p) (hl : out.length < ps.length) : Seeks per ps keys (out ++ [⟨b, t, t + per * p.size⟩]) (t + per * p.size) 1 := by
 obtain ⟨b1, b2, b3, b4⟩ := scan_some _ _ hb
 have hbest : Best ps keys out t b := ⟨undone_iff.2 ⟨b1, b2⟩, b3, fun i hi ht => b4 i (undone_iff.1 hi).1 (undone_iff.1 hi).2 ht⟩
 have htick : Tick ps out t := by
  rcases h.tick with ⟨-, e⟩ | ⟨-, e1, e2⟩
  · exact .inl ⟨e, b, hbest.undone, b3⟩
  · exact .inr ⟨e1, e2⟩
 obtain ⟨-, -, s1, s2, -, -⟩ := okPk_true (ho.each _ p hp).1
 have a1 : 0 ≤ per * p.size := Int.mul_nonneg (by omega) (by omega)
 have a2 : per * p.size ≤ 1000 * 1500 := Int.mul_le_mul (by omega) s2 (by omega) (by omega)
 have l1 := h.low
 have l2 := h.high
 refine ⟨h.sched.snoc ⟨t, b, htick, hbest, by rw [bytesOf_get hp]⟩, by simp; omega, .inl ⟨rfl, by rw [lastFin_snoc]⟩, by omega, ?_⟩
 simp only [List.length_append, List.length_cons, List.length_nil]
 omega
theorem Seeks.idle (h : Seeks per ps keys out t f) (ho : OkPks ps) (hb : scan ps keys out t ps.length = none) (hl : out.length < ps.length) : f = 1 ∧ ∃ k p, firstTo out ps.length = some k ∧ ps[k]? = some p ∧ Seeks per ps keys out p.tick 0 := by
 have hs := scan_none _ hb
 have hf : f = 1 ∧ t = lastFin out := by
  rcases h.tick with h1 | ⟨-, -, i, h2, h3, -⟩
  · exact h1
  ·
   have := hs i (undone_iff.1 h2).1 (undone_iff.1 h2).2
   omega
 refine ⟨hf.1, ?_⟩
 cases hk : firstTo out ps.length with
 | none =>
  have := all_done ps.length out (first_none _ hk)
  omega
 | some k =>
  obtain ⟨k1, k2, k3⟩ := first_some _ _ hk
  have e : ps[k]? = some ps[k] := List.getElem?_eq_getElem k1
  obtain ⟨-, -, -, -, t1, t2⟩ := okPk_true (ho.each _ _ e).1
  refine ⟨k, ps[k], rfl, e, h.sched, h.len, .inr ⟨rfl, fun i hi => ?_, k, undone_iff.2 ⟨k1, k2⟩, (tickOf_get e).symm, fun i hi => ?_⟩, t1, by omega⟩
  ·
   rw [← hf.2]
   exact hs i (undone_iff.1 hi).1 (undone_iff.1 hi).2
  · exact ticks_le ho (k3 i (undone_iff.1 hi).1 (undone_iff.1 hi).2) (undone_iff.1 hi).1
end
end Go.Proofs.YtibhkijaafdkoaaGreatDoor

namespace Go.Proofs.YtibhkijaafdkoaaGreatDoor
structure PickLaw {σ : Type} (Q : Que σ) (keys : List Int) (q0 : σ) (ok : σ → Prop) (items : σ → List Nat) : Prop where
 start : ok q0 ∧ items q0 = []
 rest : ∀ q, ok q → Q.rest q = (items q).length
 come : ∀ q k, ok q → (∀ i, i ∈ items q → i < k) → ok (Q.come q k) ∧ (items (Q.come q k)).length = (items q).length + 1 ∧ ∀ i, i ∈ items (Q.come q k) ↔ i ∈ items q ∨ i = k
 idle : ∀ q, ok q → Q.rest q = 0 → ok (Q.idle q) ∧ items (Q.idle q) = items q
 left : ∀ q, ok q → 0 < (items q).length → ok (Q.left q) ∧ (items (Q.left q)).length + 1 = (items q).length ∧ ∀ i, i ∈ items (Q.left q) ↔ i ∈ items q ∧ i ≠ Q.pick q
 pick : ∀ q, ok q → 0 < (items q).length → Q.pick q ∈ items q ∧ ∀ i, i ∈ items q → keys.getD (Q.pick q) 0 < keys.getD i 0 ∨ (keys.getD (Q.pick q) 0 = keys.getD i 0 ∧ Q.pick q ≤ i)
structure Ranked {σ : Type} (ok : σ → Prop) (items : σ → List Nat) (per : Int) (ps : List Pk) (keys : List Int) (s : St σ) : Prop where
 good : ok s.q
 sched : Sched per ps keys s.out
 wait : ∀ i, i ∈ items s.q ↔ i < s.next ∧ isDone s.out i = false
 sent : ∀ i : Nat, isDone s.out i = true → i < s.next
 came : ∀ i, i < s.next → tickOf ps i ≤ s.now
 le : s.next ≤ ps.length
 now : s.now = lastFin s.out ∨ ((∀ i, Undone ps.length s.out i → lastFin s.out < tickOf ps i) ∧ ∃ i, Undone ps.length s.out i ∧ s.now = tickOf ps i ∧ ∀ k, Undone ps.length s.out k → tickOf ps i ≤ tickOf ps k)
theorem ranked {σ : Type} {Q : Que σ} {keys : List Int} {q0 : σ} {ok : σ → Prop} {items : σ → List Nat} {per : Int} {ps : List Pk} {s : St σ} (hQ : PickLaw Q keys q0 ok items) (hper : 0 ≤ per) (ho : OkPks ps) (h : Reaches Q per ps q0 s) : Ranked ok items per ps keys s := by
 refine h.by_steps (C := fun s => Ranked ok items per ps keys s) ?_ ?_ ?_ ?_
 ·
  refine ⟨hQ.start.1, Sched.nil _ _ _, fun i => ?_, fun i h => ?_, fun i h => ?_, Nat.zero_le _, .inl rfl⟩
  ·
   simp only [hQ.start.2]
   constructor
   · intro h; cases h
   · rintro ⟨h, -⟩; exact absurd h (Nat.not_lt_zero _)
  · simp [isDone] at h
  · exact absurd h (Nat.not_lt_zero _)
 ·
  intro s p _ hp ht ih
  have hn : ∀ i, i ∈ items s.q → i < s.next := fun i hm => ((ih.wait _).1 hm).1
  obtain ⟨c1, -, c3⟩ := hQ.come s.q s.next ih.good hn
  have hlt := lt_of_get hp
  refine ⟨c1, ih.sched, fun i => ?_, fun i hi => Nat.lt_succ_of_lt (ih.sent i hi), fun i hi => ?_, hlt, ih.now⟩
  ·
   rw [c3, ih.wait]
   simp only
   constructor
   ·
    rintro (⟨a, b⟩ | rfl)
    · exact ⟨by omega, b⟩
    ·
     refine ⟨by omega, ?_⟩
     cases hd : isDone s.out s.next with
     | false => rfl
     | true => have := ih.sent _ hd; omega
   ·
    rintro ⟨a, b⟩
    rcases Nat.lt_or_ge i s.next with h' | h'
    · exact .inl ⟨h', b⟩
    · exact .inr (by omega)
  ·
   simp only at hi ⊢
   rcases Nat.lt_or_ge i s.next with h' | h'
   · exact ih.came i h'
   ·
    obtain rfl : i = s.next := by omega
    rw [tickOf_get hp]; exact ht
 ·
  intro s p _ hall h0 hp ih
  rw [hQ.rest _ ih.good] at h0
  obtain ⟨l1, -, l3⟩ := hQ.left s.q ih.good h0
  obtain ⟨p1, p2⟩ := hQ.pick s.q ih.good h0
  obtain ⟨w1, w2⟩ := (ih.wait _).1 p1
  have hle := ih.le
  have hcome : ∀ i, Undone ps.length s.out i → tickOf ps i ≤ s.now → i ∈ items s.q := by
   intro i hi ht
   obtain ⟨u1, u2⟩ := undone_iff.1 hi
   refine (ih.wait i).2 ⟨?_, u2⟩
   rcases Nat.lt_or_ge i s.next with h' | h'
   · exact h'
   ·
    have hnl : s.next < ps.length := by omega
    have e : ps[s.next]? = some ps[s.next] := List.getElem?_eq_getElem hnl
    have a1 := hall _ e
    have a2 := ticks_le ho h' u1
    rw [tickOf_get e] at a2
    omega
  have hbest : Best ps keys s.out s.now (Q.pick s.q) := ⟨undone_iff.2 ⟨by omega, w2⟩, ih.came _ w1, fun i hi ht => p2 i (hcome i hi ht)⟩
  have htick : Tick ps s.out s.now := by
   rcases ih.now with e | ⟨e1, e2⟩
   · exact .inl ⟨e, _, hbest.undone, hbest.came⟩
   · exact .inr ⟨e1, e2⟩
  have hpos : 0 ≤ per * p.size := Int.mul_nonneg hper (by have := okPk_true (ho.each _ p hp).1; omega)
  refine ⟨l1, ih.sched.snoc ⟨s.now, Q.pick s.q, htick, hbest, by rw [bytesOf_get hp]⟩, fun i => ?_, fun i hi => ?_, fun i hi => ?_, ih.le, .inl (by rw [lastFin_snoc])⟩
  ·
   rw [l3, ih.wait]
   simp only
   rw [isDone_snoc]
   constructor
   ·
    rintro ⟨⟨a, b⟩, c⟩
    refine ⟨a, ?_⟩
    rw [b, Bool.false_or]
    exact beq_eq_false_iff_ne.2 (fun e => c e.symm)
   ·
    rintro ⟨a, b⟩
    rw [Bool.or_eq_false_iff] at b
    exact ⟨⟨a, b.1⟩, fun e => beq_eq_false_iff_ne.1 b.2 e.symm⟩
  ·
   simp only at hi ⊢
   rw [isDone_snoc, Bool.or_eq_true] at hi
   rcases hi with hi | hi
   · exact ih.sent i hi
   ·
    have := beq_iff_eq.1 hi
    omega
  ·
   have := ih.came i hi
   simp only
   omega
 ·
  intro s p _ hp ht h0 ih
  rw [hQ.rest _ ih.good] at h0
  have hnone : items s.q = [] := List.length_eq_zero_iff.1 h0
  have hge : ∀ i, Undone ps.length s.out i → s.next ≤ i := by
   intro i hi
   rcases Nat.lt_or_ge i s.next with h' | h'
   ·
    have := (ih.wait i).2 ⟨h', (undone_iff.1 hi).2⟩
    rw [hnone] at this; cases this
   · exact h'
  have hmin : ∀ i, Undone ps.length s.out i → p.tick ≤ tickOf ps i := by
   intro i hi
   have := ticks_le ho (hge i hi) (undone_iff.1 hi).1
   rwa [tickOf_get hp] at this
  have hnow : s.now = lastFin s.out := by
   rcases ih.now with e | ⟨-, i, hi, e, -⟩
   · exact e
   ·
    have := hmin i hi
    omega
  have hund : Undone ps.length s.out s.next := by
   refine undone_iff.2 ⟨lt_of_get hp, ?_⟩
   cases hd : isDone s.out s.next with
   | false => rfl
   | true => have := ih.sent _ hd; omega
  obtain ⟨i1, i2⟩ := hQ.idle s.q ih.good (by rw [hQ.rest _ ih.good]; exact h0)
  refine ⟨i1, ih.sched, fun i => by rw [i2]; exact ih.wait i, ih.sent, fun i hi => ?_, ih.le, .inr ⟨fun i hi => ?_, s.next, hund, (tickOf_get hp).symm, fun k hk => ?_⟩⟩
  ·
   have := ih.came i hi
   simp only
   omega
  ·
   have := hmin i hi
   show lastFin s.out < _
   omega
  ·
   rw [tickOf_get hp]
   exact hmin k hk
theorem ranked_law {σ : Type} {Q : Que σ} {keys : List Int} {q0 : σ} {ok : σ → Prop} {items : σ → List Nat} {per : Int} {ps : List Pk} (hQ : PickLaw Q keys q0 ok items) (hper : 0 ≤ per) (ho : OkPks ps) : QueLaw Q per ps q0 where
 none := by rw [hQ.rest _ hQ.start.1, hQ.start.2]; rfl
 come := fun s hs _ => by
  have r := ranked hQ hper ho hs
  have hn : ∀ i, i ∈ items s.q → i < s.next := fun i hm => ((r.wait _).1 hm).1
  obtain ⟨c1, c2, -⟩ := hQ.come s.q s.next r.good hn
  rw [hQ.rest _ c1, hQ.rest _ r.good, c2]
 left := fun s hs h => by
  have r := ranked hQ hper ho hs
  rw [hQ.rest _ r.good] at h ⊢
  obtain ⟨l1, l2, -⟩ := hQ.left s.q r.good h
  rw [hQ.rest _ l1, l2]
 pick := fun s hs h => by
  have r := ranked hQ hper ho hs
  rw [hQ.rest _ r.good] at h
  exact ((r.wait _).1 (hQ.pick s.q r.good h).1).1
 idle := fun s hs h => by
  have r := ranked hQ hper ho hs
  obtain ⟨i1, i2⟩ := hQ.idle s.q r.good h
  rw [hQ.rest _ i1, i2, ← hQ.rest _ r.good]
  exact h
theorem ranked_end {σ : Type} {Q : Que σ} {keys : List Int} {q0 : σ} {ok : σ → Prop} {items : σ → List Nat} {per : Int} {ps : List Pk} {s : St σ} (hQ : PickLaw Q keys q0 ok items) (hper : 0 ≤ per) (ho : OkPks ps) (h : Reaches Q per ps q0 s) (hn : ¬ s.next < ps.length) (hr : Q.rest s.q = 0) : Sched per ps keys s.out ∧ s.out.length = ps.length := by
 have r := ranked hQ hper ho h
 have hc := h.count (ranked_law hQ hper ho)
 have := r.le
 exact ⟨r.sched, by omega⟩
end Go.Proofs.YtibhkijaafdkoaaGreatDoor

namespace Go.Proofs.YtibhkijaafdkoaaGreatDoor
def sumOf (f : Nat → Int) : List Nat → Int
 | [] => 0
 | a :: r => f a + sumOf f r
theorem sumOf_nonneg {f : Nat → Int} (hf : ∀ i, 0 ≤ f i) : ∀ l, 0 ≤ sumOf f l
 | [] => Int.le_refl _
 | a :: r => by
  have := sumOf_nonneg hf r
  have := hf a
  simp only [sumOf]
  omega
theorem sumOf_erase {f : Nat → Int} {a : Nat} : ∀ {l : List Nat}, a ∈ l → sumOf f l = f a + sumOf f (l.erase a) := by
 intro l
 induction l with
 | nil => intro h; cases h
 | cons x r ih =>
  intro h
  by_cases e : x = a
  · subst e; simp [sumOf]
  ·
   have hm : a ∈ r := by
    rcases List.mem_cons.1 h with h | h
    · exact absurd h.symm e
    · exact h
   have he : (x :: r).erase a = x :: r.erase a := List.erase_cons_tail (by simpa using e)
   rw [he]
   simp only [sumOf, ih hm]
   omega
theorem sumOf_le {f : Nat → Int} (hf : ∀ i, 0 ≤ f i) : ∀ (A B : List Nat), A.Nodup → (∀ a, a ∈ A → a ∈ B) → sumOf f A ≤ sumOf f B := by
 intro A
 induction A with
 | nil => intro B _ _; exact sumOf_nonneg hf B
 | cons a r ih =>
  intro B hn hs
  obtain ⟨h1, h2⟩ := List.nodup_cons.1 hn
  have hb := hs a (List.mem_cons_self ..)
  rw [sumOf_erase hb]
  have := ih (B.erase a) h2 (fun x hx => (List.mem_erase_of_ne (fun e : x = a => h1 (by rw [← e]; exact hx))).2 (hs x (List.mem_cons_of_mem _ hx)))
  simp only [sumOf]
  omega
end Go.Proofs.YtibhkijaafdkoaaGreatDoor

namespace Go.Proofs.YtibhkijaafdkoaaGreatDoor
def firstLeast (key : Nat → Int) (q : List Nat) : Nat → Nat
 | 0 => 0
 | i + 1 => if key (q.getD i 0) < key (q.getD (firstLeast key q i) 0) then i else firstLeast key q i
theorem firstLeast_le (key : Nat → Int) (q : List Nat) : ∀ i, firstLeast key q i ≤ i - 1
 | 0 => Nat.le_refl _
 | i + 1 => by
  have := firstLeast_le key q i
  simp only [firstLeast]
  split <;> omega
theorem firstLeast_lt (key : Nat → Int) {q : List Nat} {i : Nat} (h : 0 < q.length) (hi : i ≤ q.length) : firstLeast key q i < q.length := by
 have := firstLeast_le key q i
 omega
theorem firstLeast_min (key : Nat → Int) (q : List Nat) : ∀ i j, j < i → key (q.getD (firstLeast key q i) 0) < key (q.getD j 0) ∨ (key (q.getD (firstLeast key q i) 0) = key (q.getD j 0) ∧ firstLeast key q i ≤ j) := by
 intro i
 induction i with
 | zero => intro j hj; omega
 | succ i ih =>
  intro j hj
  have hle := firstLeast_le key q i
  simp only [firstLeast]
  by_cases hc : key (q.getD i 0) < key (q.getD (firstLeast key q i) 0)
  ·
   rw [if_pos hc]
   rcases Nat.lt_or_ge j i with h | h
   ·
    have := ih j h
    omega
   ·
    obtain rfl : j = i := by omega
    exact .inr ⟨rfl, Nat.le_refl _⟩
  ·
   rw [if_neg hc]
   rcases Nat.lt_or_ge j i with h | h
   · exact ih j h
   ·
    obtain rfl : j = i := by omega
    omega
def pickAt (key : Nat → Int) (q : List Nat) : Nat := firstLeast key q q.length
def waits (key : Nat → Int) : Que (List Nat) where
 come := fun q k => q ++ [k]
 pick := fun q => q.getD (pickAt key q) 0
 left := fun q => q.eraseIdx (pickAt key q)
 rest := List.length
theorem getD_lt {α : Type} {l : List α} {j : Nat} {d : α} (h : j < l.length) : l.getD j d = l[j] := by simp [List.getD, List.getElem?_eq_getElem h]
theorem rises_same {q : List Nat} (h : q.Pairwise (· < ·)) {i j : Nat} (hi : i < q.length) (hj : j < q.length) (e : q[i] = q[j]) : i = j := by
 have h1 := List.pairwise_iff_getElem.1 h i j hi hj
 have h2 := List.pairwise_iff_getElem.1 h j i hj hi
 omega
theorem pickAt_lt (key : Nat → Int) {q : List Nat} (h : 0 < q.length) : pickAt key q < q.length := firstLeast_lt key h (Nat.le_refl _)
theorem waits_law (keys : List Int) : PickLaw (waits fun i => keys.getD i 0) keys [] (fun q => q.Pairwise (· < ·)) (fun q => q) where
 start := ⟨List.Pairwise.nil, rfl⟩
 rest := fun q _ => rfl
 idle := fun q h _ => ⟨h, rfl⟩
 come := fun q k h hk => by
  refine ⟨List.pairwise_append.2 ⟨h, List.pairwise_singleton _ _, fun a ha b hb => ?_⟩, by simp [waits], fun i => by simp [waits]⟩
  rw [List.mem_singleton] at hb
  subst hb
  exact hk a ha
 left := fun q h h0 => by
  have hlt := pickAt_lt (fun i => keys.getD i 0) h0
  refine ⟨List.Pairwise.sublist (List.eraseIdx_sublist ..) h, ?_, fun i => ?_⟩
  ·
   show (q.eraseIdx (pickAt _ q)).length + 1 = _
   rw [List.length_eraseIdx, if_pos hlt]
   omega
  ·
   show i ∈ q.eraseIdx (pickAt _ q) ↔ i ∈ q ∧ i ≠ q.getD (pickAt _ q) 0
   have hg : q.getD (pickAt (fun i => keys.getD i 0) q) 0 = q[pickAt (fun i => keys.getD i 0) q]'hlt := getD_lt hlt
   rw [hg, List.mem_eraseIdx_iff_getElem]
   constructor
   ·
    rintro ⟨j, hj, hne, rfl⟩
    exact ⟨List.getElem_mem _, fun e => hne (rises_same h _ _ e)⟩
   ·
    rintro ⟨hm, hne⟩
    obtain ⟨j, hj, rfl⟩ := List.getElem_of_mem hm
    exact ⟨j, hj, fun e => hne (by subst e; rfl), rfl⟩
 pick := fun q h h0 => by
  have hlt := pickAt_lt (fun i => keys.getD i 0) h0
  have hg : q.getD (pickAt (fun i => keys.getD i 0) q) 0 = q[pickAt (fun i => keys.getD i 0) q]'hlt := getD_lt hlt
  refine ⟨?_, fun i hi => ?_⟩
  ·
   show q.getD (pickAt _ q) 0 ∈ q
   rw [hg]
   exact List.getElem_mem _
  ·
   obtain ⟨j, hj, rfl⟩ := List.getElem_of_mem hi
   show keys.getD (q.getD (pickAt _ q) 0) 0 < _ ∨ (keys.getD (q.getD (pickAt _ q) 0) 0 = _ ∧ q.getD (pickAt _ q) 0 ≤ _)
   have hm := firstLeast_min (fun i => keys.getD i 0) q q.length j hj
   have hgj : q.getD j 0 = q[j] := getD_lt hj
   simp only [hgj] at hm
   rcases hm with hm | ⟨hm, hle⟩
   · exact .inl hm
   ·
    refine .inr ⟨hm, ?_⟩
    rw [hg]
    rcases Nat.lt_or_eq_of_le hle with h' | h'
    · exact Nat.le_of_lt (List.pairwise_iff_getElem.1 h _ _ hlt hj h')
    ·
     have e : pickAt (fun i => keys.getD i 0) q = j := h'
     simp only [e]
     exact Nat.le_refl _
end Go.Proofs.YtibhkijaafdkoaaGreatDoor

namespace Go.Proofs.YtibhkijaafdkoaaGreatDoor
def flowOf (ps : List Pk) (j : Nat) : Nat := match ps[j]? with | some p => p.flow.toNat | none => 0
theorem flowOf_get {ps : List Pk} {j : Nat} {p : Pk} (h : ps[j]? = some p) : flowOf ps j = p.flow.toNat := by simp [flowOf, h]
def ofFlow (ps : List Pk) (ns : List Int) (j : Nat) : Int := ns.getD (flowOf ps j) 0
def rankKeys (ps : List Pk) (ns : List Int) : List Int := (List.range ps.length).map (ofFlow ps ns)
def dueKeys (ps : List Pk) (ns : List Int) : List Int := (List.range ps.length).map fun i => tickOf ps i + ofFlow ps ns i
theorem rankKeys_length (ps : List Pk) (ns : List Int) : (rankKeys ps ns).length = ps.length := by simp [rankKeys]
theorem dueKeys_length (ps : List Pk) (ns : List Int) : (dueKeys ps ns).length = ps.length := by simp [dueKeys]
theorem rankKeys_get {ps : List Pk} {ns : List Int} {i : Nat} (h : i < ps.length) : (rankKeys ps ns).getD i 0 = ofFlow ps ns i := by
 rw [getD_lt (by rw [rankKeys_length]; exact h)]
 simp [rankKeys]
theorem dueKeys_get {ps : List Pk} {ns : List Int} {i : Nat} (h : i < ps.length) : (dueKeys ps ns).getD i 0 = tickOf ps i + ofFlow ps ns i := by
 rw [getD_lt (by rw [dueKeys_length]; exact h)]
 simp [dueKeys]
section
end
end Go.Proofs.YtibhkijaafdkoaaGreatDoor

namespace Go.Proofs.YtibhkijaafdkoaaGreatDoor
def Conv (per : Int) (ps : List Pk) (l : List Sn) : Prop := ∀ (k : Nat) x, l[k]? = some x → ∃ t b, Tick ps (l.take k) t ∧ Undone ps.length (l.take k) b ∧ tickOf ps b ≤ t ∧ x = ⟨(b : Nat), t, t + per * bytesOf ps b⟩
def Turns (ps : List Pk) (l : List Sn) : Prop := ∀ (k : Nat) x, l[k]? = some x → ∀ j, j < x.num.toNat → flowOf ps j = flowOf ps x.num.toNat → ¬ Undone ps.length (l.take k) j
section
variable {per : Int} {ps : List Pk} {l : List Sn} {keys : List Int}
theorem Sched.conv (h : Sched per ps keys l) : Conv per ps l := fun k x hx => by
 obtain ⟨t, b, h1, h2, e⟩ := h k x hx
 exact ⟨t, b, h1, h2.undone, h2.came, e⟩
theorem Sched.turns (ho : OkPks ps) (hk : ∀ i j, i < j → j < ps.length → flowOf ps i = flowOf ps j → keys.getD i 0 ≤ keys.getD j 0) (h : Sched per ps keys l) : Turns ps l := fun k x hx j hj hf hu => by
 obtain ⟨t, b, h1, h2, e⟩ := h k x hx
 have eb : x.num.toNat = b := by rw [e]; simp
 rw [eb] at hj hf
 have hb := h2.undone.1
 have c := ticks_le ho (Nat.le_of_lt hj) hb
 have c1 := h2.least j hu (by have := h2.came; omega)
 have c2 := hk j b hj hb hf
 omega
theorem sum_one : ∀ L : List Nat, sumOf (fun _ => 1) L = L.length
 | [] => rfl
 | a :: L => by
  have := sum_one L
  simp only [sumOf, List.length_cons]
  omega
theorem few_of {A B : List Nat} (hA : A.Nodup) (h : ∀ a, a ∈ A → a ∈ B) : A.length ≤ B.length := by
 have := sumOf_le (f := fun _ => 1) (fun _ => by omega) A B hA h
 rw [sum_one, sum_one] at this
 omega
theorem rank_turns (ho : OkPks ps) {ns : List Int} (h : Sched per ps (rankKeys ps ns) l) : Turns ps l := by
 refine h.turns ho fun i j hij hj hf => ?_
 have e : ∀ k, k < ps.length → (rankKeys ps ns).getD k 0 = ofFlow ps ns k := fun k hk => by simp [rankKeys, List.getD, hk]
 rw [e i (by omega), e j hj]
 unfold ofFlow
 rw [hf]
 exact Int.le_refl _
theorem due_turns (ho : OkPks ps) {ns : List Int} (h : Sched per ps (dueKeys ps ns) l) : Turns ps l := by
 refine h.turns ho fun i j hij hj hf => ?_
 have e : ∀ k, k < ps.length → (dueKeys ps ns).getD k 0 = tickOf ps k + ofFlow ps ns k := fun k hk => by simp [dueKeys, List.getD, hk]
 rw [e i (by omega), e j hj]
 have := ticks_le ho (Nat.le_of_lt hij) hj
 unfold ofFlow
 rw [hf]
 omega
theorem lind_may (ho : OkPks ps) : Conv per ps (lindAll per ps ps.length) ∧ Turns ps (lindAll per ps ps.length) := by
 have h := lind_sched (per := per) ho [] (fun _ => rfl)
 exact ⟨h.conv, h.turns ho fun _ _ _ _ _ => Int.le_refl _⟩
end
end Go.Proofs.YtibhkijaafdkoaaGreatDoor

namespace Go.Proofs.YtibhkijaafdkoaaGreatDoor
def Ahead (at_ : Nat → Int) (a b : Nat) : Prop := at_ a < at_ b ∨ (at_ a = at_ b ∧ a < b)
structure IsOrder (at_ : Nat → Int) (n : Nat) (L : List Nat) : Prop where
 sorted : L.Pairwise (Ahead at_)
 mem : ∀ j, j ∈ L ↔ j < n
section
variable {at_ bt : Nat → Int} {n : Nat} {L M : List Nat}
theorem Ahead.ne {a b : Nat} (h : Ahead at_ a b) : a ≠ b := fun e => by subst e; rcases h with h | ⟨-, h⟩ <;> omega
theorem Ahead.not {a b : Nat} (h : Ahead at_ a b) : ¬ Ahead at_ b a := fun k => by unfold Ahead at h k; omega
theorem sorted_same : ∀ {L M : List Nat}, L.Pairwise (Ahead at_) → M.Pairwise (Ahead at_) → (∀ j, j ∈ L ↔ j ∈ M) → L = M
 | [], [], _, _, _ => rfl
 | [], b :: M, _, _, h => by have := (h b).2 (List.mem_cons_self ..); cases this
 | a :: L, [], _, _, h => by have := (h a).1 (List.mem_cons_self ..); cases this
 | a :: L, b :: M, hL, hM, h => by
  obtain ⟨l1, l2⟩ := List.pairwise_cons.1 hL
  obtain ⟨m1, m2⟩ := List.pairwise_cons.1 hM
  have hab : a = b := by
   by_cases e : a = b
   · exact e
   ·
    have h1 : a ∈ M := by
     rcases List.mem_cons.1 ((h a).1 (List.mem_cons_self ..)) with h' | h'
     · exact absurd h' e
     · exact h'
    have h2 : b ∈ L := by
     rcases List.mem_cons.1 ((h b).2 (List.mem_cons_self ..)) with h' | h'
     · exact absurd h'.symm e
     · exact h'
    exact absurd (l1 b h2) (m1 a h1).not
  subst hab
  have na : a ∉ L := fun hm => (l1 a hm).ne rfl
  have nb : a ∉ M := fun hm => (m1 a hm).ne rfl
  have := sorted_same l2 m2 (fun j => ⟨fun hj => by
   rcases List.mem_cons.1 ((h j).1 (List.mem_cons_of_mem _ hj)) with e | e
   · exact absurd (by rw [← e]; exact hj) na
   · exact e, fun hj => by
   rcases List.mem_cons.1 ((h j).2 (List.mem_cons_of_mem _ hj)) with e | e
   · exact absurd (by rw [← e]; exact hj) nb
   · exact e⟩)
  rw [this]
theorem IsOrder.same (h : IsOrder at_ n L) (k : IsOrder at_ n M) : L = M := sorted_same h.sorted k.sorted fun j => by rw [h.mem, k.mem]
theorem IsOrder.nodup (h : IsOrder at_ n L) : L.Nodup := by
 refine List.pairwise_iff_getElem.2 fun i j hi hj hij => (List.pairwise_iff_getElem.1 h.sorted i j hi hj hij).ne
theorem IsOrder.length (h : IsOrder at_ n L) : L.length = n := by
 have h1 := few_of (B := List.range n) h.nodup (fun a ha => List.mem_range.2 ((h.mem a).1 ha))
 have h2 := few_of (A := List.range n) (B := L) List.nodup_range (fun a ha => (h.mem a).2 (List.mem_range.1 ha))
 simp only [List.length_range] at h1 h2
 omega
theorem IsOrder.start (at_ : Nat → Int) : IsOrder at_ 0 [] := ⟨List.Pairwise.nil, fun j => ⟨(fun h => by cases h), fun h => absurd h (Nat.not_lt_zero _)⟩⟩
theorem IsOrder.put (h : IsOrder at_ n L) {k : Nat} (hlow : ∀ (i : Nat) a, i < k → L[i]? = some a → at_ a ≤ at_ n) (hhigh : ∀ (i : Nat) a, k ≤ i → L[i]? = some a → at_ n < at_ a) : IsOrder at_ (n + 1) (L.take k ++ n :: L.drop k) := by
 have hin : ∀ a, a ∈ L → a < n := fun a ha => (h.mem a).1 ha
 have htake : ∀ a, a ∈ L.take k → at_ a ≤ at_ n ∧ a < n := fun a ha => by
  obtain ⟨i, hi, e⟩ := List.getElem_of_mem ha
  have hi' := hi
  rw [List.length_take] at hi'
  refine ⟨hlow i a (by omega) ?_, hin a (List.mem_of_mem_take ha)⟩
  rw [← e, List.getElem_take]
  exact List.getElem?_eq_getElem (by omega)
 have hdrop : ∀ a, a ∈ L.drop k → at_ n < at_ a := fun a ha => by
  obtain ⟨i, hi, e⟩ := List.getElem_of_mem ha
  have hi' := hi
  rw [List.length_drop] at hi'
  refine hhigh (k + i) a (Nat.le_add_right _ _) ?_
  rw [← e, List.getElem_drop]
  exact List.getElem?_eq_getElem (by omega)
 refine ⟨List.pairwise_append.2 ⟨h.sorted.sublist (List.take_sublist _ _), List.pairwise_cons.2 ⟨fun b hb => .inl (hdrop b hb), h.sorted.sublist (List.drop_sublist _ _)⟩, fun a ha b hb => ?_⟩, fun j => ?_⟩
 ·
  obtain ⟨a1, a2⟩ := htake a ha
  rcases List.mem_cons.1 hb with e | hb
  · rw [e]; unfold Ahead; omega
  · have := hdrop b hb; exact .inl (by omega)
 ·
  rw [List.mem_append, List.mem_cons]
  have hsplit : j ∈ L ↔ j ∈ L.take k ∨ j ∈ L.drop k := by rw [← List.mem_append, List.take_append_drop]
  constructor
  ·
   rintro (hj | hj | hj)
   · have := (htake j hj).2; omega
   · omega
   · have := hin j (List.mem_of_mem_drop hj); omega
  ·
   intro hj
   rcases Nat.lt_or_ge j n with h' | h'
   ·
    rcases hsplit.1 ((h.mem j).2 h') with h1 | h1
    · exact .inl h1
    · exact .inr (.inr h1)
   · exact .inr (.inl (by omega))
theorem IsOrder.range (hm : ∀ i j, i < j → j < n → at_ i ≤ at_ j) : IsOrder at_ n (List.range n) := by
 refine ⟨List.pairwise_iff_getElem.2 fun i j hi hj hij => ?_, fun j => List.mem_range⟩
 rw [List.length_range] at hi hj
 rw [List.getElem_range, List.getElem_range]
 have := hm i j hij hj
 unfold Ahead
 omega
end
end Go.Proofs.YtibhkijaafdkoaaGreatDoor
