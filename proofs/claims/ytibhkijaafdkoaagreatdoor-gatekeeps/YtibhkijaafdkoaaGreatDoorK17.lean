/- Own facts, put together: no statement of its own. -/
import Derived.Test.YtibhkijaafdkoaaGreatDoorK12
import Derived.Test.YtibhkijaafdkoaaGreatDoorK16
import Derived.Laws.MakeOwn
import Derived.Test.YtibhkijaafdkoaaGreatDoorK01
import Derived.Deep.LoopGhost
import Derived.Test.YtibhkijaafdkoaaGreatDoorK11
namespace Go.Proofs.YtibhkijaafdkoaaGreatDoor
structure MayLaw {σ : Type} (Q : Que σ) (per : Int) (ps : List Pk) (q0 : σ) : Prop where
 law : QueLaw Q per ps q0
 pick : ∀ s, Reaches Q per ps q0 s → 0 < Q.rest s.q → isDone s.out (Q.pick s.q) = false ∧ ∀ j, j < Q.pick s.q → flowOf ps j = flowOf ps (Q.pick s.q) → isDone s.out j = true
 none : ∀ s, Reaches Q per ps q0 s → Q.rest s.q = 0 → ∀ i, i < s.next → isDone s.out i = true
structure MayRun {σ : Type} (per : Int) (ps : List Pk) (s : St σ) : Prop where
 conv : Conv per ps s.out
 turns : Turns ps s.out
 gone : ∀ i : Nat, isDone s.out i = true → i < s.next
 came : ∀ i, i < s.next → tickOf ps i ≤ s.now
 now : s.now = lastFin s.out ∨ ((∀ i, Undone ps.length s.out i → lastFin s.out < tickOf ps i) ∧ ∃ i, Undone ps.length s.out i ∧ s.now = tickOf ps i ∧ ∀ k, Undone ps.length s.out k → tickOf ps i ≤ tickOf ps k)
theorem may_run {σ : Type} {Q : Que σ} {per : Int} {ps : List Pk} {q0 : σ} {s : St σ} (hQ : MayLaw Q per ps q0) (hper : 0 ≤ per) (ho : OkPks ps) (h : Reaches Q per ps q0 s) : MayRun per ps s := by
 refine h.by_steps (C := fun s => MayRun per ps s) ⟨fun k x hx => by simp at hx, fun k x hx => by simp at hx, (fun i hi => by simp [isDone] at hi), fun i hi => absurd hi (Nat.not_lt_zero _), .inl rfl⟩ ?_ ?_ ?_
 ·
  rintro s p hs hp ht r
  refine ⟨r.conv, r.turns, fun i hi => Nat.lt_succ_of_lt (r.gone i hi), fun i hi => ?_, r.now⟩
  rcases Nat.lt_or_ge i s.next with h' | h'
  · exact r.came i h'
  ·
   obtain rfl : i = s.next := by simp only at hi; omega
   rw [tickOf_get hp]; exact ht
 ·
  rintro s p hs hall h0 hp r
  obtain ⟨p1, p2⟩ := hQ.pick s hs h0
  have p3 := hQ.law.pick s hs h0
  obtain ⟨k, hk⟩ : ∃ k, k = Q.pick s.q := ⟨_, rfl⟩
  rw [← hk] at p1 p2 p3 hp ⊢
  have hu : Undone ps.length s.out k := undone_iff.2 ⟨lt_of_get hp, p1⟩
  have hc := r.came k p3
  have htick : Tick ps s.out s.now := by
   rcases r.now with e | e
   · exact .inl ⟨e, k, hu, hc⟩
   · exact .inr e
  obtain ⟨-, -, z1, -, -, -⟩ := okPk_true (ho.each _ p hp).1
  have a1 : 0 ≤ per * p.size := Int.mul_nonneg hper (by omega)
  have htake : ∀ (i : Nat), i ≤ s.out.length → (s.out ++ [(⟨(k : Nat), s.now, s.now + per * p.size⟩ : Sn)]).take i = s.out.take i := fun i hi => List.take_append_of_le_length hi
  refine ⟨fun i x hx => ?_, fun i x hx j hj hf => ?_, fun i hi => ?_, fun i hi => ?_, .inl (by rw [lastFin_snoc])⟩
  ·
   rcases snoc_get hx with ⟨h', hx⟩ | ⟨rfl, rfl⟩
   ·
    simp only [htake i (by omega)]
    exact r.conv i x hx
   ·
    simp only [htake _ (Nat.le_refl _), List.take_length]
    exact ⟨s.now, k, htick, hu, hc, by rw [bytesOf_get hp]⟩
  ·
   rcases snoc_get hx with ⟨h', hx⟩ | ⟨rfl, rfl⟩
   ·
    simp only [htake i (by omega)]
    exact r.turns i x hx j hj hf
   ·
    simp only [htake _ (Nat.le_refl _), List.take_length]
    simp only [Int.toNat_natCast] at hj hf
    intro hu'
    have := p2 j hj hf
    rw [(undone_iff.1 hu').2] at this
    cases this
  ·
   rw [isDone_snoc, Bool.or_eq_true] at hi
   show i < s.next
   rcases hi with hi | hi
   · exact r.gone i hi
   ·
    have := beq_iff_eq.1 hi
    omega
  ·
   have := r.came i hi
   simp only
   omega
 ·
  rintro s p hs hp ht h0 r
  have hge : ∀ i, Undone ps.length s.out i → s.next ≤ i := fun i hi => by
   rcases Nat.lt_or_ge i s.next with h' | h'
   ·
    have := hQ.none s hs h0 i h'
    rw [(undone_iff.1 hi).2] at this
    cases this
   · exact h'
  have hmin : ∀ i, Undone ps.length s.out i → p.tick ≤ tickOf ps i := fun i hi => by
   have := ticks_le ho (hge i hi) (undone_iff.1 hi).1
   rwa [tickOf_get hp] at this
  have hnow : s.now = lastFin s.out := by
   rcases r.now with e | ⟨-, i, hi, e, -⟩
   · exact e
   ·
    have := hmin i hi
    omega
  have hund : Undone ps.length s.out s.next := by
   refine undone_iff.2 ⟨lt_of_get hp, ?_⟩
   cases hd : isDone s.out s.next with
   | false => rfl
   | true => have := r.gone _ hd; omega
  refine ⟨r.conv, r.turns, r.gone, fun i hi => ?_, .inr ⟨fun i hi => ?_, s.next, hund, (tickOf_get hp).symm, fun k hk => ?_⟩⟩
  ·
   have := r.came i hi
   simp only
   omega
  ·
   have := hmin i hi
   show lastFin s.out < _
   omega
  ·
   rw [tickOf_get hp]
   exact hmin k hk
section
variable {ps : List Pk} {ws ns : List Int} {per : Int} {l : List Sn} {ts : List Int}
theorem fair_may (hw : WtsOk ws) (ho : OkPks ps) (hper : 1 ≤ per) : MayLaw (fairQ ps ws) per ps fair0 where
 law := fair_law hw ho hper
 pick := fun s hs h0 => by
  obtain ⟨H, r⟩ := fair_run hw ho hper hs
  obtain ⟨l1, l2⟩ := least_first (tag := s.q.tag) (q := s.q.q) h0
  obtain ⟨k, hk⟩ : ∃ k, k = (fairQ ps ws).pick s.q := ⟨_, rfl⟩
  have hkd : s.q.q.getD (pickAt s.q.tag s.q.q) 0 = k := hk.symm
  rw [hkd] at l1 l2
  rw [← hk]
  refine ⟨(r.only k l1).2, fun j hj hf => ?_⟩
  cases hd : isDone s.out j with
  | true => rfl
  | false =>
   have hm := r.wait j (by have := (r.only k l1).1; omega) hd
   obtain ⟨t, ht⟩ := least_head r.state (fun i _ => (incOf_in hw ho i).1) ⟨l1, l2⟩
   have hp : (s.q.of (flowOf ps) (flowOf ps k)).Pairwise (· < ·) := r.rises.filter _
   have hjm : j ∈ s.q.of (flowOf ps) (flowOf ps k) := mem_of.2 ⟨hm, hf⟩
   rw [ht] at hp hjm
   rcases List.mem_cons.1 hjm with e | hjm
   · omega
   ·
    have := (List.pairwise_cons.1 hp).1 j hjm
    omega
 none := fun s hs h0 i hi => by
  obtain ⟨H, r⟩ := fair_run hw ho hper hs
  have hq : s.q.q = [] := List.length_eq_zero_iff.1 h0
  cases hd : isDone s.out i with
  | true => rfl
  | false =>
   have := r.wait i hi hd
   rw [hq] at this
   cases this
theorem FairSent.may (hw : WtsOk ws) (ho : OkPks ps) (hper : 1 ≤ per) (h : FairSent per ps ws l ts) : Conv per ps l ∧ Turns ps l ∧ l.length = ps.length := by
 have hl := (h.length hw ho hper).1
 obtain ⟨s, h1, h2, h3, rfl, rfl⟩ := h
 have r := may_run (fair_may hw ho hper) (by omega) ho h1
 exact ⟨r.conv, r.turns, hl⟩
theorem turns_may (ho : OkPks ps) (hq : ∀ f, 1 ≤ quOf ns f) (hper : 1 ≤ per) : MayLaw (turnsQ ps ns) per ps turns0 where
 law := turns_law ho hq
 pick := fun s hs h0 => by
  obtain ⟨H, r⟩ := turns_run (M := 1500) ho hq (by omega) (fun k => (sizeAt_in ho k).2) hs
  obtain ⟨k, e, hx, e1, e2, f, t, c, sa⟩ := r.good.picks hq h0
  obtain ⟨-, hl⟩ := turns_lists ho hq hper hs
  rw [e1]
  have hhead : s.q.d.qs f = k :: t := by rw [← sa.same]; exact sa.head
  have hkm : k ∈ s.q.d.qs f := by rw [hhead]; exact List.mem_cons_self ..
  have hkf : flowOf ps k = f := (r.state.size f k hkm).1
  refine ⟨(r.only f k hkm).2, fun j hj hf => ?_⟩
  cases hd : isDone s.out j with
  | true => rfl
  | false =>
   have hm := r.wait j (by have := (r.only f k hkm).1; omega) hd
   rw [hf, hkf] at hm
   have hp : (s.q.d.qs f).Pairwise (· < ·) := by
    rw [hl f]
    exact List.pairwise_lt_range.filter _
   rw [hhead] at hp hm
   rcases List.mem_cons.1 hm with e | hm
   · omega
   ·
    have := (List.pairwise_cons.1 hp).1 j hm
    omega
 none := fun s hs h0 i hi => by
  obtain ⟨H, r⟩ := turns_run (M := 1500) ho hq (by omega) (fun k => (sizeAt_in ho k).2) hs
  cases hd : isDone s.out i with
  | true => rfl
  | false =>
   have hm := r.wait i hi hd
   have hz := r.good.line.1 h0
   have := (r.state.active (flowOf ps i)).2 (by intro e; rw [e] at hm; cases hm)
   rw [hz] at this
   cases this
theorem RoundSent.may (ho : OkPks ps) (hq : ∀ f, 1 ≤ quOf ns f) (hper : 1 ≤ per) (h : RoundSent per ps ns l) : Conv per ps l ∧ Turns ps l ∧ l.length = ps.length := by
 have hl := h.length ho hq
 obtain ⟨s, h1, h2, h3, rfl⟩ := h
 have r := may_run (turns_may ho hq hper) (by omega) ho h1
 exact ⟨r.conv, r.turns, hl⟩
end
end Go.Proofs.YtibhkijaafdkoaaGreatDoor

namespace Go.Proofs.YtibhkijaafdkoaaGreatDoor
section
variable (per : Int) (ps : List Pk) (out : List Sn) (x : Sn)
def IdlesAt : Prop := lastFin out < x.beg ∧ ∃ i, i < ps.length ∧ isDone out i = false ∧ tickOf ps i < x.beg
def OutOfTurn (k : Nat) : Prop := ∃ i, i < k ∧ isDone out i = false ∧ flowOf ps i = flowOf ps k
def SentIs (c : Int) : Prop :=
 (c = 4 ∧ (x.num < 0 ∨ (ps.length : Int) ≤ x.num)) ∨ ∃ k : Nat, x.num = k ∧ k < ps.length ∧ ((c = 4 ∧ isDone out k = true) ∨ (isDone out k = false ∧
  ((c = 5 ∧ (x.beg < tickOf ps k ∨ x.beg < lastFin out)) ∨ (tickOf ps k ≤ x.beg ∧ lastFin out ≤ x.beg ∧
   ((c = 3 ∧ x.fin - x.beg ≠ per * bytesOf ps k) ∨ (x.fin - x.beg = per * bytesOf ps k ∧
    ((c = 7 ∧ IdlesAt ps out x) ∨ (¬ IdlesAt ps out x ∧ ((c = 8 ∧ OutOfTurn ps out k) ∨ (c = 0 ∧ ¬ OutOfTurn ps out k))))))))))
theorem sentIs_is : ∃ c, SentIs per ps out x c := by
 by_cases h1 : x.num < 0 ∨ (ps.length : Int) ≤ x.num
 · exact ⟨4, .inl ⟨rfl, h1⟩⟩
 ·
  obtain ⟨k, hk⟩ : ∃ k : Nat, x.num = k := ⟨x.num.toNat, by omega⟩
  have hkl : k < ps.length := by omega
  cases h2 : isDone out k with
  | true => exact ⟨4, .inr ⟨k, hk, hkl, .inl ⟨rfl, h2⟩⟩⟩
  | false =>
   by_cases h3 : x.beg < tickOf ps k ∨ x.beg < lastFin out
   · exact ⟨5, .inr ⟨k, hk, hkl, .inr ⟨h2, .inl ⟨rfl, h3⟩⟩⟩⟩
   ·
    have h3' : tickOf ps k ≤ x.beg ∧ lastFin out ≤ x.beg := by omega
    by_cases h4 : x.fin - x.beg = per * bytesOf ps k
    ·
     by_cases h5 : IdlesAt ps out x
     · exact ⟨7, .inr ⟨k, hk, hkl, .inr ⟨h2, .inr ⟨h3'.1, h3'.2, .inr ⟨h4, .inl ⟨rfl, h5⟩⟩⟩⟩⟩⟩
     ·
      by_cases h6 : OutOfTurn ps out k
      · exact ⟨8, .inr ⟨k, hk, hkl, .inr ⟨h2, .inr ⟨h3'.1, h3'.2, .inr ⟨h4, .inr ⟨h5, .inl ⟨rfl, h6⟩⟩⟩⟩⟩⟩⟩
      · exact ⟨0, .inr ⟨k, hk, hkl, .inr ⟨h2, .inr ⟨h3'.1, h3'.2, .inr ⟨h4, .inr ⟨h5, .inr ⟨rfl, h6⟩⟩⟩⟩⟩⟩⟩
    · exact ⟨3, .inr ⟨k, hk, hkl, .inr ⟨h2, .inr ⟨h3'.1, h3'.2, .inl ⟨rfl, h4⟩⟩⟩⟩⟩
variable {per ps out x}
theorem SentIs.may (h : SentIs per ps out x 0) : MayOne per ps out x := by
 rcases h with ⟨h, -⟩ | ⟨k, hk, hkl, ⟨h, -⟩ | ⟨hd, ⟨h, -⟩ | ⟨h1, h2, ⟨h, -⟩ | ⟨h3, ⟨h, -⟩ | ⟨h4, ⟨h, -⟩ | ⟨-, h5⟩⟩⟩⟩⟩⟩
 · omega
 · omega
 · omega
 · omega
 · omega
 · omega
 ·
  refine ⟨⟨k, hk, hkl, hd⟩, by rw [hk, Int.toNat_natCast]; exact ⟨h1, h2⟩, by rw [hk, Int.toNat_natCast]; omega, fun hi i hil hid => ?_, fun i hi hf => ?_⟩
  ·
   rcases Int.lt_or_le (tickOf ps i) x.beg with h' | h'
   · exact absurd ⟨hi, i, hil, hid, h'⟩ h4
   · exact h'
  ·
   rw [hk, Int.toNat_natCast] at hi hf
   cases hdi : isDone out i with
   | true => rfl
   | false => exact absurd ⟨i, hi, hdi, hf⟩ h5
theorem MayOne.is (h : MayOne per ps out x) : SentIs per ps out x 0 := by
 obtain ⟨k, hk, hkl, hd⟩ := h.num
 have e : x.num.toNat = k := by rw [hk]; simp
 have h1 := h.old
 have h2 := h.shape
 rw [e] at h1 h2
 refine .inr ⟨k, hk, hkl, .inr ⟨hd, .inr ⟨h1.1, h1.2, .inr ⟨by omega, .inr ⟨fun hi => ?_, .inr ⟨rfl, fun ht => ?_⟩⟩⟩⟩⟩⟩
 ·
  obtain ⟨g1, i, g2, g3, g4⟩ := hi
  have := h.idle g1 i g2 g3
  omega
 ·
  obtain ⟨i, g1, g2, g3⟩ := ht
  have := h.turn i (by rw [e]; exact g1) (by rw [e]; exact g3)
  rw [g2] at this
  cases this
theorem SentIs.range {c : Int} (h : SentIs per ps out x c) : 0 ≤ c ∧ c ≤ 8 := by
 rcases h with ⟨h, -⟩ | ⟨k, -, -, ⟨h, -⟩ | ⟨-, ⟨h, -⟩ | ⟨-, -, ⟨h, -⟩ | ⟨-, ⟨h, -⟩ | ⟨-, ⟨h, -⟩ | ⟨h, -⟩⟩⟩⟩⟩⟩ <;> omega
theorem SentIs.same {c d : Int} (h : SentIs per ps out x c) (h' : SentIs per ps out x d) : c = d := by
 rcases h with ⟨rfl, h1⟩ | ⟨k, hk, hkl, hr⟩
 ·
  rcases h' with ⟨rfl, -⟩ | ⟨k', hk', hkl', -⟩
  · rfl
  · omega
 ·
  rcases h' with ⟨rfl, h1⟩ | ⟨k', hk', hkl', hr'⟩
  · omega
  ·
   obtain rfl : k = k' := by omega
   rcases hr with ⟨rfl, a⟩ | ⟨a, hr⟩
   ·
    rcases hr' with ⟨rfl, -⟩ | ⟨b, -⟩
    · rfl
    · rw [a] at b; cases b
   ·
    rcases hr' with ⟨-, b⟩ | ⟨-, hr'⟩
    · rw [a] at b; cases b
    ·
     rcases hr with ⟨rfl, a1⟩ | ⟨a1, a2, hr⟩
     ·
      rcases hr' with ⟨rfl, -⟩ | ⟨b1, b2, -⟩
      · rfl
      · omega
     ·
      rcases hr' with ⟨-, b1⟩ | ⟨-, -, hr'⟩
      · omega
      ·
       rcases hr with ⟨rfl, a3⟩ | ⟨a3, hr⟩
       ·
        rcases hr' with ⟨rfl, -⟩ | ⟨b3, -⟩
        · rfl
        · exact absurd b3 a3
       ·
        rcases hr' with ⟨-, b3⟩ | ⟨-, hr'⟩
        · exact absurd a3 b3
        ·
         rcases hr with ⟨rfl, a4⟩ | ⟨a4, hr⟩
         ·
          rcases hr' with ⟨rfl, -⟩ | ⟨b4, -⟩
          · rfl
          · exact absurd a4 b4
         ·
          rcases hr' with ⟨-, b4⟩ | ⟨-, hr'⟩
          · exact absurd b4 a4
          ·
           rcases hr with ⟨rfl, a5⟩ | ⟨rfl, a5⟩
           ·
            rcases hr' with ⟨rfl, -⟩ | ⟨-, b5⟩
            · rfl
            · exact absurd a5 b5
           ·
            rcases hr' with ⟨-, b5⟩ | ⟨rfl, -⟩
            · exact absurd b5 a5
            · rfl
end
def AuditIs (per : Int) (ps : List Pk) (l : List Sn) (c p : Int) : Prop :=
 (∃ (i : Nat) (x : Sn), l[i]? = some x ∧ SentIs per ps (l.take i) x c ∧ 0 < c ∧ p = i ∧ ∀ (j : Nat) y, j < i → l[j]? = some y → MayOne per ps (l.take j) y) ∨
  ((∀ (j : Nat) y, l[j]? = some y → MayOne per ps (l.take j) y) ∧ p = -1 ∧ ((c = 4 ∧ ∃ i, i < ps.length ∧ isDone l i = false) ∨ (c = 0 ∧ ∀ i, i < ps.length → isDone l i = true)))
theorem Conv.audit {per : Int} {ps : List Pk} {l : List Sn} (ho : OkPks ps) (hper : 1 ≤ per) (h : Conv per ps l) (ht : Turns ps l) (hl : l.length = ps.length) : AuditIs per ps l 0 (-1) :=
 .inr ⟨fun _ _ hy => h.may ho hper ht hy, rfl, .inr ⟨rfl, fun _ hi => h.all hl hi⟩⟩
theorem AuditIs.first {per : Int} {ps : List Pk} {l : List Sn} {c p d : Int} (h : AuditIs per ps l c p) {i : Nat} {x : Sn} (hx : l[i]? = some x) (hs : SentIs per ps (l.take i) x d) (h0 : 0 < d) (hall : ∀ (j : Nat) y, j < i → l[j]? = some y → MayOne per ps (l.take j) y) : c = d ∧ p = i := by
 rcases h with ⟨i', x', hx', hs', h0', rfl, hall'⟩ | ⟨hall', -, -⟩
 ·
  rcases Nat.lt_trichotomy i i' with h | h | h
  ·
   have := (hall' i x h hx).is.same hs
   omega
  ·
   subst h
   rw [hx] at hx'
   obtain rfl := Option.some.inj hx'
   exact ⟨hs'.same hs, rfl⟩
  ·
   have := (hall i' x' h hx').is.same hs'
   omega
 ·
  have := (hall' i x hx).is.same hs
  omega
theorem AuditIs.last {per : Int} {ps : List Pk} {l : List Sn} {c p : Int} (h : AuditIs per ps l c p) (hall : ∀ (j : Nat) y, l[j]? = some y → MayOne per ps (l.take j) y) : p = -1 ∧ ((c = 4 ∧ ∃ i, i < ps.length ∧ isDone l i = false) ∨ (c = 0 ∧ ∀ i, i < ps.length → isDone l i = true)) := by
 rcases h with ⟨i', x', hx', hs', h0', -, -⟩ | ⟨-, h1, h2⟩
 ·
  have := (hall i' x' hx').is.same hs'
  omega
 · exact ⟨h1, h2⟩
end Go.Proofs.YtibhkijaafdkoaaGreatDoor

namespace Go.Proofs.YtibhkijaafdkoaaGreatDoor
open Go.RowKit
theorem ownsRow_of_block {w w' : World} {base : Nat} {e : TypeId} {size : Nat} {v : Value} {n : Nat} {xs : List Value} (h : w.ownsRow base e size v n xs) (hb : ∀ g, v.ownBlock = some g → g < w.heap.size → w'.heap[g]? = w.heap[g]?) : w'.ownsRow base e size v n xs := by
 obtain ⟨h1, h2 | ⟨g, cap, cur, rfl, hB, hg, r⟩⟩ := h
 · exact ⟨h1, .inl h2⟩
 · exact ⟨h1, .inr ⟨g, cap, cur, rfl, hB, (hb g rfl (lt_of_block hg)).trans hg, r⟩⟩
theorem ownsRow_lt {w : World} {base : Nat} {e : TypeId} {size : Nat} {v : Value} {n : Nat} {xs : List Value} (h : w.ownsRow base e size v n xs) {g : Nat} (hg : v.ownBlock = some g) : base ≤ g ∧ g < w.heap.size := by
 obtain ⟨h1, ⟨rfl, -⟩ | ⟨g', cap, cur, rfl, hB, hgc, r⟩⟩ := h
 · cases hg
 ·
  cases hg
  exact ⟨hB, lt_of_block hgc⟩
theorem Tryz.infoInt : (Tryz.prog.info? 3).map (fun i => (i.zero, i.size, i.bytes)) = some (some (.int .i64 0), 1, 8) := by kernel_rfl
theorem made_get (u : Value) (n j : Nat) (h : j < n) : (madeCells #[u] n)[j]? = some u := by
 rw [Array.getElem?_eq_getElem (by rw [size_madeCells]; exact h)]
 simp [madeCells, Nat.mod_one]
def LiesN (w : World) (a : Option Addr) (xs : List Int) : Prop :=
 xs = [] ∨ ∃ b off, a = some ⟨b, off, none⟩ ∧ b < w.heap.size ∧ ∀ (i : Nat) x, xs[i]? = some x → w.cell? ⟨b, off + i, none⟩ = some (.int .i64 x)
theorem LiesN.place {w : World} {a : Option Addr} {xs : List Int} (h : LiesN w a xs) (h1 : 1 ≤ xs.length) : ∃ b off, a = some ⟨b, off, none⟩ ∧ b < w.heap.size ∧ ∀ (i : Nat) x, xs[i]? = some x → w.cell? ⟨b, off + i, none⟩ = some (.int .i64 x) := by
 rcases h with rfl | h
 · simp at h1
 · exact h
theorem LiesN.below {w w' : World} {a : Option Addr} {xs : List Int} (h : LiesN w a xs) (hb : Below w.heap.size w w') : LiesN w' a xs := by
 rcases h with rfl | ⟨b, off, rfl, hlt, hc⟩
 · exact .inl rfl
 · exact .inr ⟨b, off, rfl, Nat.lt_of_lt_of_le hlt hb.size, fun i x hi => cell_later hb (hc i x hi)⟩
end Go.Proofs.YtibhkijaafdkoaaGreatDoor

namespace Go.Proofs.YtibhkijaafdkoaaGreatDoor
open Go.RowKit
structure NumsOk (lo hi : Int) (ns : List Int) : Prop where
 len : ns.length = 8
 each : ∀ (i : Nat) x, ns[i]? = some x → lo ≤ x ∧ x ≤ hi
def NumBad (lo hi : Int) (ns : List Int) (j : Nat) : Prop := ns.length = 8 ∧ (∃ x, ns[j]? = some x ∧ ¬ (lo ≤ x ∧ x ≤ hi)) ∧ ∀ (i : Nat) y, i < j → ns[i]? = some y → lo ≤ y ∧ y ≤ hi
def NumsFault (lo hi : Int) (ns : List Int) (c : Nat) : Prop := (c = 3 ∧ ns.length ≠ 8) ∨ (c = 2 ∧ ∃ j, NumBad lo hi ns j) ∨ (c = 0 ∧ NumsOk lo hi ns)
theorem numsFault_is (lo hi : Int) (ns : List Int) : ∃ c, NumsFault lo hi ns c := by
 by_cases hl : ns.length = 8
 ·
  have key : ∀ k, k ≤ ns.length → (∀ (i : Nat) y, i < k → ns[i]? = some y → lo ≤ y ∧ y ≤ hi) ∨ ∃ j, NumBad lo hi ns j := by
   intro k
   induction k with
   | zero => intro _; exact .inl fun i y h => by omega
   | succ k ih =>
    intro hk
    rcases ih (by omega) with h | h
    ·
     obtain ⟨x, hx, -⟩ := get_some ns k (by omega)
     by_cases hb : lo ≤ x ∧ x ≤ hi
     ·
      refine .inl fun i y hi' hy => ?_
      rcases Nat.lt_or_ge i k with h' | h'
      · exact h i y h' hy
      ·
       obtain rfl : i = k := by omega
       obtain rfl := Option.some.inj (hx.symm.trans hy)
       exact hb
     · exact .inr ⟨k, hl, ⟨x, hx, hb⟩, h⟩
    · exact .inr h
  rcases key ns.length (Nat.le_refl _) with h | h
  ·
   exact ⟨0, .inr (.inr ⟨rfl, hl, fun i x hx => h i x (by
    rcases Nat.lt_or_ge i ns.length with h' | h'
    · exact h'
    · simp [List.getElem?_eq_none h'] at hx) hx⟩)⟩
  · exact ⟨2, .inr (.inl ⟨rfl, h⟩)⟩
 · exact ⟨3, .inl ⟨rfl, hl⟩⟩
end Go.Proofs.YtibhkijaafdkoaaGreatDoor

namespace Go.Proofs.YtibhkijaafdkoaaGreatDoor
def isWt (x : Int) : Prop := 1 ≤ x ∧ 12 % x = 0
theorem isWt_le {x : Int} (h : isWt x) : x ≤ 12 := Int.le_of_dvd (by decide) (Int.dvd_of_emod_eq_zero h.2)
structure WtsAll (ns : List Int) : Prop where
 len : ns.length = 8
 each : ∀ (i : Nat) x, ns[i]? = some x → isWt x
def WtBad (ns : List Int) (j : Nat) : Prop := ns.length = 8 ∧ (∃ x, ns[j]? = some x ∧ ¬ isWt x) ∧ ∀ (i : Nat) y, i < j → ns[i]? = some y → isWt y
def WtsFault (ns : List Int) (c : Nat) : Prop := (c = 3 ∧ ns.length ≠ 8) ∨ (c = 2 ∧ ∃ j, WtBad ns j) ∨ (c = 0 ∧ WtsAll ns)
theorem wtsFault_is (ns : List Int) : ∃ c, WtsFault ns c := by
 by_cases hl : ns.length = 8
 ·
  have key : ∀ k, k ≤ ns.length → (∀ (i : Nat) y, i < k → ns[i]? = some y → isWt y) ∨ ∃ j, WtBad ns j := by
   intro k
   induction k with
   | zero => intro _; exact .inl fun i y h => by omega
   | succ k ih =>
    intro hk
    rcases ih (by omega) with h | h
    ·
     obtain ⟨x, hx, -⟩ := get_some ns k (by omega)
     by_cases hb : isWt x
     ·
      refine .inl fun i y hi' hy => ?_
      rcases Nat.lt_or_ge i k with h' | h'
      · exact h i y h' hy
      ·
       obtain rfl : i = k := by omega
       obtain rfl := Option.some.inj (hx.symm.trans hy)
       exact hb
     · exact .inr ⟨k, hl, ⟨x, hx, hb⟩, h⟩
    · exact .inr h
  rcases key ns.length (Nat.le_refl _) with h | h
  · exact ⟨0, .inr (.inr ⟨rfl, hl, fun i x hx => h i x (lt_of_get hx) hx⟩)⟩
  · exact ⟨2, .inr (.inl ⟨rfl, h⟩)⟩
 · exact ⟨3, .inl ⟨rfl, hl⟩⟩
theorem WtsAll.ok {ns : List Int} (h : WtsAll ns) : WtsOk ns := fun f => by
 cases hf : ns[f]? with
 | some x =>
  rw [quOf_get hf]
  have := h.each f x hf
  exact ⟨this.1, Int.ediv_mul_cancel (Int.dvd_of_emod_eq_zero this.2)⟩
 | none =>
  have : quOf ns f = 1 := by simp [quOf, hf]
  rw [this]
  exact ⟨Int.le_refl _, by decide⟩
theorem inc_tdiv {x z : Int} (h : isWt x) (hz : 0 ≤ z) : (z * 12).tdiv x = z * (12 / x) := by
 have hd := Int.dvd_of_emod_eq_zero h.2
 rw [Int.tdiv_eq_ediv_of_nonneg (by omega), Int.mul_ediv_assoc _ hd]
theorem erase_filter : ∀ (q : List Nat) (i : Nat), q.Nodup → i < q.length → q.eraseIdx i = q.filter fun j => j != q.getD i 0
 | [], i, _, h => absurd h (Nat.not_lt_zero _)
 | a :: q, 0, hn, _ => by
  obtain ⟨h1, -⟩ := List.nodup_cons.1 hn
  have e : (a :: q).getD 0 0 = a := rfl
  rw [e, List.filter_cons, if_neg (by simp)]
  refine (List.filter_eq_self.2 fun j hj => ?_).symm
  have : j ≠ a := fun e => h1 (by rw [← e]; exact hj)
  simp [this]
 | a :: q, i + 1, hn, h => by
  obtain ⟨h1, h2⟩ := List.nodup_cons.1 hn
  have hi : i < q.length := by simpa using h
  have e : (a :: q).getD (i + 1) 0 = q.getD i 0 := by simp [List.getD]
  have hne : a ≠ q.getD i 0 := fun e' => h1 (by rw [e', getD_lt hi]; exact List.getElem_mem hi)
  rw [e, List.filter_cons, if_pos (bne_iff_ne.2 hne), ← erase_filter q i h2 hi]
  rfl
end Go.Proofs.YtibhkijaafdkoaaGreatDoor

namespace Go.Proofs.YtibhkijaafdkoaaGreatDoor
open Go.RowKit
def LiesP (w : World) (a : Option Addr) (ps : List Pk) : Prop :=
 ps = [] ∨ ∃ b off, a = some ⟨b, off, none⟩ ∧ b < w.heap.size ∧ ∀ (i : Nat) p, ps[i]? = some p → w.cell? ⟨b, off + i * 3, none⟩ = some (.int .i64 p.flow) ∧ w.cell? ⟨b, off + i * 3 + 1, none⟩ = some (.int .i64 p.size) ∧ w.cell? ⟨b, off + i * 3 + 2, none⟩ = some (.int .i64 p.tick)
theorem LiesP.place {w : World} {a : Option Addr} {ps : List Pk} (h : LiesP w a ps) (h1 : 1 ≤ ps.length) :
  ∃ b off, a = some ⟨b, off, none⟩ ∧ b < w.heap.size ∧ ∀ (i : Nat) p, ps[i]? = some p → w.cell? ⟨b, off + i * 3, none⟩ = some (.int .i64 p.flow) ∧ w.cell? ⟨b, off + i * 3 + 1, none⟩ = some (.int .i64 p.size) ∧ w.cell? ⟨b, off + i * 3 + 2, none⟩ = some (.int .i64 p.tick) := by
 rcases h with rfl | h
 · simp at h1
 · exact h
theorem LiesP.but {S : Nat → Prop} {w w' : World} {a : Option Addr} {ps : List Pk} (h : LiesP w a ps) (hb : But S w w') (hs : ∀ ad, a = some ad → ¬ S ad.block) : LiesP w' a ps := by
 rcases h with rfl | ⟨b, off, rfl, hlt, hc⟩
 · exact .inl rfl
 ·
  have hn : ¬ S b := hs _ rfl
  refine .inr ⟨b, off, rfl, Nat.lt_of_lt_of_le hlt hb.size, fun i p hi => ?_⟩
  have := hc i p hi
  exact ⟨by rw [hb.cell (p := ⟨b, off + i * 3, none⟩) hlt hn]; exact this.1, by rw [hb.cell (p := ⟨b, off + i * 3 + 1, none⟩) hlt hn]; exact this.2.1, by rw [hb.cell (p := ⟨b, off + i * 3 + 2, none⟩) hlt hn]; exact this.2.2⟩
theorem LiesP.below {w w' : World} {a : Option Addr} {ps : List Pk} (h : LiesP w a ps) (hb : Below w.heap.size w w') : LiesP w' a ps :=
 h.but (S := fun _ => False) (.ofBelow hb) (fun _ _ h => h)
def cellsP (ps : List Pk) : List Value := ps.flatMap fun p => [.int .i64 p.flow, .int .i64 p.size, .int .i64 p.tick]
theorem cellsP_cons (p : Pk) (r : List Pk) : cellsP (p :: r) = .int .i64 p.flow :: .int .i64 p.size :: .int .i64 p.tick :: cellsP r := rfl
theorem cellsP_append (a b : List Pk) : cellsP (a ++ b) = cellsP a ++ cellsP b := by simp [cellsP]
theorem cellsP_length (ps : List Pk) : (cellsP ps).length = ps.length * 3 := by
 induction ps with
 | nil => rfl
 | cons p r ih => rw [cellsP_cons]; simp [ih]; omega
theorem cellsP_get (ps : List Pk) : ∀ (i : Nat) p, ps[i]? = some p → (cellsP ps)[i * 3]? = some (.int .i64 p.flow) ∧ (cellsP ps)[i * 3 + 1]? = some (.int .i64 p.size) ∧ (cellsP ps)[i * 3 + 2]? = some (.int .i64 p.tick) := by
 induction ps with
 | nil => intro i p h; simp at h
 | cons q r ih =>
  intro i p h
  rw [cellsP_cons]
  cases i with
  | zero => simp at h; subst h; exact ⟨rfl, rfl, rfl⟩
  | succ i =>
   have := ih i p (by simpa using h)
   rw [show (i + 1) * 3 = i * 3 + 1 + 1 + 1 by omega]
   exact ⟨by simpa using this.1, by simpa using this.2.1, by simpa using this.2.2⟩
theorem cellsP_at (ps : List Pk) : ∀ j u, (cellsP ps)[j]? = some u → ∃ (i : Nat) (p : Pk), ps[i]? = some p ∧ ((j = i * 3 ∧ u = .int .i64 p.flow) ∨ (j = i * 3 + 1 ∧ u = .int .i64 p.size) ∨ (j = i * 3 + 2 ∧ u = .int .i64 p.tick)) := by
 induction ps with
 | nil => intro j u h; simp [cellsP] at h
 | cons p r ih =>
  intro j u h
  rw [cellsP_cons] at h
  match j, h with
  | 0, h => exact ⟨0, p, rfl, .inl ⟨rfl, by simpa using h.symm⟩⟩
  | 1, h => exact ⟨0, p, rfl, .inr (.inl ⟨rfl, by simpa using h.symm⟩)⟩
  | 2, h => exact ⟨0, p, rfl, .inr (.inr ⟨rfl, by simpa using h.symm⟩)⟩
  | j + 3, h =>
   obtain ⟨i, q, hi, hj⟩ := ih j u (by simpa using h)
   refine ⟨i + 1, q, by simpa using hi, ?_⟩
   rcases hj with ⟨e, f⟩ | ⟨e, f⟩ | ⟨e, f⟩
   · exact .inl ⟨by omega, f⟩
   · exact .inr (.inl ⟨by omega, f⟩)
   · exact .inr (.inr ⟨by omega, f⟩)
theorem cellsP_one (ps : List Pk) : ∀ u ∈ cellsP ps, u.oneCell' = true := by
 intro u hu
 obtain ⟨j, hj⟩ := List.mem_iff_getElem?.1 hu
 obtain ⟨i, p, -, h⟩ := cellsP_at ps j u hj
 rcases h with ⟨-, rfl⟩ | ⟨-, rfl⟩ | ⟨-, rfl⟩ <;> rfl
def OwnP (w : World) (B : Nat) (v : Value) (ps : List Pk) : Prop := w.ownsRow B 52 3 v ps.length (cellsP ps)
theorem OwnP.open {w : World} {B : Nat} {v : Value} {ps : List Pk} (h : OwnP w B v ps) :
  ∃ a cap, v = .slice a ps.length cap ∧ ps.length ≤ cap ∧ cap ≤ maxLen ∧ LiesP w a ps ∧ (∀ ad, a = some ad → B ≤ ad.block) ∧ (a = none → ps = [] ∧ cap = 0) := by
 obtain ⟨hlen, ⟨rfl, h0⟩ | ⟨g, cap, cur, rfl, hB, hg, hn, hm, hc, ht⟩⟩ := h
 · exact ⟨none, 0, by rw [h0], by omega, by simp [maxLen], .inl (List.length_eq_zero_iff.1 h0), (fun ad e => by cases e), fun _ => ⟨List.length_eq_zero_iff.1 h0, rfl⟩⟩
 ·
  refine ⟨_, cap, rfl, hn, hm, .inr ⟨g, 0, rfl, ?_, fun i p hi => ?_⟩, (fun ad e => by cases e; exact hB), fun e => by cases e⟩
  ·
   rcases Nat.lt_or_ge g w.heap.size with h | h
   · exact h
   · simp [Array.getElem?_eq_none h] at hg
  ·
   have hh : w.ownsRow B 52 3 (.slice (some ⟨g, 0, none⟩) ps.length cap) ps.length (cellsP ps) := ⟨hlen, .inr ⟨g, cap, cur, rfl, hB, hg, hn, hm, hc, ht⟩⟩
   have hil : i < ps.length := by
    rcases Nat.lt_or_ge i ps.length with h | h
    · exact h
    · simp [List.getElem?_eq_none h] at hi
   have := cellsP_get ps i p hi
   rw [hh.cellAt _ (by omega), hh.cellAt _ (by omega), hh.cellAt _ (by omega), Nat.zero_add]
   exact this
theorem liesP_news {w : World} {ad : Addr} {ps : List Pk} (h : LiesP w (some ad) ps) : ∀ j u, (cellsP ps)[j]? = some u → w.cell? (ad.add j) = some u := by
 intro j u hj
 obtain ⟨i, p, hi, hc⟩ := cellsP_at ps j u hj
 rcases h with rfl | ⟨b, off, e, -, h⟩
 · simp at hi
 ·
  cases e
  have := h i p hi
  rw [Addr.add_lit]
  rcases hc with ⟨rfl, rfl⟩ | ⟨rfl, rfl⟩ | ⟨rfl, rfl⟩
  · exact this.1
  · exact this.2.1
  · exact this.2.2
theorem Tryz.infoPkt : (Tryz.prog.info? 52).map (fun i => (i.zero, i.size, i.bytes)) = some (some (.agg #[.int .i64 0, .int .i64 0, .int .i64 0]), 3, 24) := by kernel_rfl
set_option maxHeartbeats 400000 in
theorem ownPackets_any (a : Option Addr) (cap : Nat) (ps : List Pk) (w : World) (hl : LiesP w a ps) (hn : ps.length ≤ 1000) (ha : a = none → ps = [] ∧ cap = 0) :
  Calls Tryz.prog 21 #[.slice a ps.length cap] w fun e w' => ∃ v, e = .returned v ∧ OwnP w' w.heap.size v ps ∧ Below w.heap.size w w' := by
 obtain ⟨i0, hi, hz0, hz1, hz2⟩ := info_parts Tryz.infoPkt
 cases a with
 | none =>
  obtain ⟨rfl, rfl⟩ := ha rfl
  show Calls Tryz.prog 21 #[.slice none 0 0] w _
  go_enter Tryz.func21, Tryz.ntmps21
  go_wp2
  go_ret
  exact ⟨_, rfl, World.ownsRow_nil _ _ _ _, Below.refl _ _⟩
 | some ad =>
  have H1 : Hid (∀ j u, (cellsP ps)[j]? = some u → w.cell? (ad.add j) = some u) := liesP_news hl
  have H2 : Hid ((cellsP ps).length = ps.length * 3) := cellsP_length ps
  have H3 : Hid (∀ u ∈ cellsP ps, u.oneCell' = true) := cellsP_one ps
  clear hl ha
  go_enter Tryz.func21, Tryz.ntmps21
  go_wp2_with (at_builtin; refine wpList_append_own _ rfl _ _ 43 rfl w.heap.size 52 i0 (.agg #[.int .i64 0, .int .i64 0, .int .i64 0]) 3 24 Tryz.underlying43 hi hz0 hz1 hz2 rfl (by decide) (.slice none 0 0) 0 [] rfl (World.ownsRow_nil _ _ _ _) ad ps.length cap (cellsP ps) rfl H2.out H1.out H3.out (by unfold maxLen; omega) (by omega) (Nat.le_refl _) ?_; intro v' w3 hown' hgrow3 hnil3)
  go_ret
  refine ⟨_, rfl, by simpa [OwnP] using hown', ?_⟩
  exact (Below.refl _ _).grown hgrow3 (Nat.le_refl _) (fun k hk => by cases hk)
end Go.Proofs.YtibhkijaafdkoaaGreatDoor

namespace Go.Proofs.YtibhkijaafdkoaaGreatDoor
open Go.RowKit
set_option maxHeartbeats 400000 in
theorem isSize_any (n : Int) (w : World) : Calls Tryz.prog 123 #[.int .i64 n] w fun e w' => e = .returned (.bool (decide (1 ≤ n ∧ n ≤ 1500))) ∧ w' = w := by
 by_cases h1 : 1 ≤ n
 ·
  by_cases h2 : n ≤ 1500
  ·
   rw [show decide (1 ≤ n ∧ n ≤ 1500) = true by simp [h1, h2]]
   go_enter Tryz.func123, Tryz.ntmps123
   go_wp2
   go_ret
   exact ⟨rfl, rfl⟩
  ·
   rw [show decide (1 ≤ n ∧ n ≤ 1500) = false by simp [h2]]
   go_enter Tryz.func123, Tryz.ntmps123
   go_wp2
   go_ret
   exact ⟨rfl, rfl⟩
 ·
  rw [show decide (1 ≤ n ∧ n ≤ 1500) = false by simp [h1]]
  go_enter Tryz.func123, Tryz.ntmps123
  go_wp2
  go_ret
  exact ⟨rfl, rfl⟩
set_option maxHeartbeats 400000 in
theorem isTick_any (t : Int) (w : World) : Calls Tryz.prog 124 #[.int .i64 t] w fun e w' => e = .returned (.bool (decide (0 ≤ t ∧ t ≤ 1099511627776))) ∧ w' = w := by
 by_cases h1 : 0 ≤ t
 ·
  by_cases h2 : t ≤ 1099511627776
  ·
   rw [show decide (0 ≤ t ∧ t ≤ 1099511627776) = true by simp [h1, h2]]
   go_enter Tryz.func124, Tryz.ntmps124
   go_wp2
   go_ret
   exact ⟨rfl, rfl⟩
  ·
   rw [show decide (0 ≤ t ∧ t ≤ 1099511627776) = false by simp [h2]]
   go_enter Tryz.func124, Tryz.ntmps124
   go_wp2
   go_ret
   exact ⟨rfl, rfl⟩
 ·
  rw [show decide (0 ≤ t ∧ t ≤ 1099511627776) = false by simp [h1]]
  go_enter Tryz.func124, Tryz.ntmps124
  go_wp2
  go_ret
  exact ⟨rfl, rfl⟩
end Go.Proofs.YtibhkijaafdkoaaGreatDoor
