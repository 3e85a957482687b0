/- Own facts, put together: no statement of its own. -/
import Derived.Test.YtolbmkniafkeaaaDoorCAllAudits
import Derived.Test.YtolbmkniafkeaaaDoorCAllRounds
import Derived.Test.YtolbmkniafkeaaaDoorCAllFairs

/- Plain facts: how great the ticks of what a link sends are. No Go text is named here. -/
namespace Go.Proofs.YtolbmkniafkeaaaDoor
section
variable {per : Int} {ps : List Pk} {l : List Sn}
theorem tick_most (ho : OkPks ps) (j : Nat) : 0 ≤ tickOf ps j ∧ tickOf ps j ≤ 1099511627776 := by
  unfold tickOf
  cases e : ps[j]? with
  | none => simp only; omega
  | some p =>
    have := okPk_true (ho.each _ p e).1
    simp only
    omega
theorem Conv.range (ho : OkPks ps) (hper : 1 ≤ per ∧ per ≤ 1000) (h : Conv per ps l) : ∀ (k : Nat) x, l[k]? = some x → 0 ≤ x.beg ∧ x.beg ≤ x.fin ∧ x.fin ≤ 1099511627776 + 1500000 * ((k : Int) + 1)
  | k, x, hx => by
    obtain ⟨t, b, h1, h2, -, e⟩ := h k x hx
    have hl : lastFin (l.take k) ≤ 1099511627776 + 1500000 * (k : Int) ∧ 0 ≤ lastFin (l.take k) := by
      cases k with
      | zero => exact ⟨by rw [List.take_zero, lastFin_nil]; omega, by rw [List.take_zero, lastFin_nil]; omega⟩
      | succ k =>
        have hkl : k < l.length := by have := lt_of_get hx; omega
        have e2 : l[k]? = some l[k] := List.getElem?_eq_getElem hkl
        have := Conv.range ho hper h k l[k] e2
        rw [lastFin_take e2]
        omega
    have ht : 0 ≤ t ∧ t ≤ 1099511627776 + 1500000 * (k : Int) := by
      rcases h1 with ⟨rfl, -⟩ | ⟨-, j, -, rfl, -⟩
      · omega
      · have := tick_most ho j; omega
    have hb : 0 ≤ per * bytesOf ps b ∧ per * bytesOf ps b ≤ 1500000 := by
      have e2 : ps[b]? = some (ps[b]'h2.1) := List.getElem?_eq_getElem h2.1
      have := okPk_true (ho.each _ _ e2).1
      rw [bytesOf_get e2]
      have a1 : 0 ≤ per * (ps[b]'h2.1).size := Int.mul_nonneg (by omega) (by omega)
      have a2 : per * (ps[b]'h2.1).size ≤ 1000 * 1500 := Int.mul_le_mul (by omega) (by omega) (by omega) (by omega)
      omega
    rw [e]
    simp only
    omega
end
end Go.Proofs.YtolbmkniafkeaaaDoor

/- Plain facts: what rounds and tags send is what a link may do. No Go text is named here. -/
namespace Go.Proofs.YtolbmkniafkeaaaDoor

/-- What is asked of a queue. -/
structure MayLaw {σ : Type} (Q : Que σ) (per : Int) (ps : List Pk) (q0 : σ) : Prop where
  law : QueLaw Q per ps q0
  pick : ∀ s, Reaches Q per ps q0 s → 0 < Q.rest s.q → isDone s.out (Q.pick s.q) = false ∧ ∀ j, j < Q.pick s.q → flowOf ps j = flowOf ps (Q.pick s.q) → isDone s.out j = true
  none : ∀ s, Reaches Q per ps q0 s → Q.rest s.q = 0 → ∀ i, i < s.next → isDone s.out i = true
/-- What holds wherever it comes to. -/
structure MayRun {σ : Type} (per : Int) (ps : List Pk) (s : St σ) : Prop where
  conv : Conv per ps s.out
  turns : Turns ps s.out
  gone : ∀ i : Nat, isDone s.out i = true → i < s.next
  came : ∀ i, i < s.next → tickOf ps i ≤ s.now
  now : s.now = lastFin s.out ∨ ((∀ i, Undone ps.length s.out i → lastFin s.out < tickOf ps i) ∧ ∃ i, Undone ps.length s.out i ∧ s.now = tickOf ps i ∧ ∀ k, Undone ps.length s.out k → tickOf ps i ≤ tickOf ps k)
theorem may_run {σ : Type} {Q : Que σ} {per : Int} {ps : List Pk} {q0 : σ} {s : St σ} (hQ : MayLaw Q per ps q0) (hper : 0 ≤ per) (ho : OkPks ps) (h : Reaches Q per ps q0 s) : MayRun per ps s := by
  refine h.by_steps (C := fun s => MayRun per ps s) ⟨fun k x hx => by simp at hx, fun k x hx => by simp at hx, (fun i hi => by simp [isDone] at hi), fun i hi => absurd hi (Nat.not_lt_zero _), .inl rfl⟩ ?_ ?_ ?_
  · rintro s p hs hp ht r
    refine ⟨r.conv, r.turns, fun i hi => Nat.lt_succ_of_lt (r.gone i hi), fun i hi => ?_, r.now⟩
    rcases Nat.lt_or_ge i s.next with h' | h'
    · exact r.came i h'
    · obtain rfl : i = s.next := by simp only at hi; omega
      rw [tickOf_get hp]; exact ht
  · rintro s p hs hall h0 hp r
    obtain ⟨p1, p2⟩ := hQ.pick s hs h0
    have p3 := hQ.law.pick s hs h0
    obtain ⟨k, hk⟩ : ∃ k, k = Q.pick s.q := ⟨_, rfl⟩
    rw [← hk] at p1 p2 p3 hp ⊢
    have hu : Undone ps.length s.out k := undone_iff.2 ⟨lt_of_get hp, p1⟩
    have hc := r.came k p3
    have htick : Tick ps s.out s.now := by
      rcases r.now with e | e
      · exact .inl ⟨e, k, hu, hc⟩
      · exact .inr e
    obtain ⟨-, -, z1, -, -, -⟩ := okPk_true (ho.each _ p hp).1
    have a1 : 0 ≤ per * p.size := Int.mul_nonneg hper (by omega)
    have htake : ∀ (i : Nat), i ≤ s.out.length → (s.out ++ [(⟨(k : Nat), s.now, s.now + per * p.size⟩ : Sn)]).take i = s.out.take i := fun i hi => List.take_append_of_le_length hi
    refine ⟨fun i x hx => ?_, fun i x hx j hj hf => ?_, fun i hi => ?_, fun i hi => ?_, .inl (by rw [lastFin_snoc])⟩
    · rcases snoc_get hx with ⟨h', hx⟩ | ⟨rfl, rfl⟩
      · simp only [htake i (by omega)]
        exact r.conv i x hx
      · simp only [htake _ (Nat.le_refl _), List.take_length]
        exact ⟨s.now, k, htick, hu, hc, by rw [bytesOf_get hp]⟩
    · rcases snoc_get hx with ⟨h', hx⟩ | ⟨rfl, rfl⟩
      · simp only [htake i (by omega)]
        exact r.turns i x hx j hj hf
      · simp only [htake _ (Nat.le_refl _), List.take_length]
        simp only [Int.toNat_natCast] at hj hf
        intro hu'
        have := p2 j hj hf
        rw [(undone_iff.1 hu').2] at this
        cases this
    · rw [isDone_snoc, Bool.or_eq_true] at hi
      show i < s.next
      rcases hi with hi | hi
      · exact r.gone i hi
      · have := beq_iff_eq.1 hi
        omega
    · have := r.came i hi
      simp only
      omega
  · rintro s p hs hp ht h0 r
    have hge : ∀ i, Undone ps.length s.out i → s.next ≤ i := fun i hi => by
      rcases Nat.lt_or_ge i s.next with h' | h'
      · have := hQ.none s hs h0 i h'
        rw [(undone_iff.1 hi).2] at this
        cases this
      · exact h'
    have hmin : ∀ i, Undone ps.length s.out i → p.tick ≤ tickOf ps i := fun i hi => by
      have := ticks_le ho (hge i hi) (undone_iff.1 hi).1
      rwa [tickOf_get hp] at this
    have hnow : s.now = lastFin s.out := by
      rcases r.now with e | ⟨-, i, hi, e, -⟩
      · exact e
      · have := hmin i hi
        omega
    have hund : Undone ps.length s.out s.next := by
      refine undone_iff.2 ⟨lt_of_get hp, ?_⟩
      cases hd : isDone s.out s.next with
      | false => rfl
      | true => have := r.gone _ hd; omega
    refine ⟨r.conv, r.turns, r.gone, fun i hi => ?_, .inr ⟨fun i hi => ?_, s.next, hund, (tickOf_get hp).symm, fun k hk => ?_⟩⟩
    · have := r.came i hi
      simp only
      omega
    · have := hmin i hi
      show lastFin s.out < _
      omega
    · rw [tickOf_get hp]
      exact hmin k hk
section
variable {ps : List Pk} {ws ns : List Int} {per : Int} {l : List Sn} {ts : List Int}
theorem fair_may (hw : WtsOk ws) (ho : OkPks ps) (hper : 1 ≤ per) : MayLaw (fairQ ps ws) per ps fair0 where
  law := fair_law hw ho hper
  pick := fun s hs h0 => by
    obtain ⟨H, r⟩ := fair_run hw ho hper hs
    obtain ⟨l1, l2⟩ := least_first (tag := s.q.tag) (q := s.q.q) h0
    obtain ⟨k, hk⟩ : ∃ k, k = (fairQ ps ws).pick s.q := ⟨_, rfl⟩
    have hkd : s.q.q.getD (pickAt s.q.tag s.q.q) 0 = k := hk.symm
    rw [hkd] at l1 l2
    rw [← hk]
    refine ⟨(r.only k l1).2, fun j hj hf => ?_⟩
    cases hd : isDone s.out j with
    | true => rfl
    | false =>
      have hm := r.wait j (by have := (r.only k l1).1; omega) hd
      obtain ⟨t, ht⟩ := least_head r.state (fun i _ => (incOf_in hw ho i).1) ⟨l1, l2⟩
      have hp : (s.q.of (flowOf ps) (flowOf ps k)).Pairwise (· < ·) := r.rises.filter _
      have hjm : j ∈ s.q.of (flowOf ps) (flowOf ps k) := mem_of.2 ⟨hm, hf⟩
      rw [ht] at hp hjm
      rcases List.mem_cons.1 hjm with e | hjm
      · omega
      · have := (List.pairwise_cons.1 hp).1 j hjm
        omega
  none := fun s hs h0 i hi => by
    obtain ⟨H, r⟩ := fair_run hw ho hper hs
    have hq : s.q.q = [] := List.length_eq_zero_iff.1 h0
    cases hd : isDone s.out i with
    | true => rfl
    | false =>
      have := r.wait i hi hd
      rw [hq] at this
      cases this
theorem FairSent.may (hw : WtsOk ws) (ho : OkPks ps) (hper : 1 ≤ per) (h : FairSent per ps ws l ts) : Conv per ps l ∧ Turns ps l ∧ l.length = ps.length := by
  have hl := (h.length hw ho hper).1
  obtain ⟨s, h1, h2, h3, rfl, rfl⟩ := h
  have r := may_run (fair_may hw ho hper) (by omega) ho h1
  exact ⟨r.conv, r.turns, hl⟩
theorem turns_may (ho : OkPks ps) (hq : ∀ f, 1 ≤ quOf ns f) (hper : 1 ≤ per) : MayLaw (turnsQ ps ns) per ps turns0 where
  law := turns_law ho hq
  pick := fun s hs h0 => by
    obtain ⟨H, r⟩ := turns_run (M := 1500) ho hq (by omega) (fun k => (sizeAt_in ho k).2) hs
    obtain ⟨k, e, hx, e1, e2, f, t, c, sa⟩ := r.good.picks hq h0
    obtain ⟨-, hl⟩ := turns_lists ho hq hper hs
    rw [e1]
    have hhead : s.q.d.qs f = k :: t := by rw [← sa.same]; exact sa.head
    have hkm : k ∈ s.q.d.qs f := by rw [hhead]; exact List.mem_cons_self ..
    have hkf : flowOf ps k = f := (r.state.size f k hkm).1
    refine ⟨(r.only f k hkm).2, fun j hj hf => ?_⟩
    cases hd : isDone s.out j with
    | true => rfl
    | false =>
      have hm := r.wait j (by have := (r.only f k hkm).1; omega) hd
      rw [hf, hkf] at hm
      have hp : (s.q.d.qs f).Pairwise (· < ·) := by
        rw [hl f]
        exact List.pairwise_lt_range.filter _
      rw [hhead] at hp hm
      rcases List.mem_cons.1 hm with e | hm
      · omega
      · have := (List.pairwise_cons.1 hp).1 j hm
        omega
  none := fun s hs h0 i hi => by
    obtain ⟨H, r⟩ := turns_run (M := 1500) ho hq (by omega) (fun k => (sizeAt_in ho k).2) hs
    cases hd : isDone s.out i with
    | true => rfl
    | false =>
      have hm := r.wait i hi hd
      have hz := r.good.line.1 h0
      have := (r.state.active (flowOf ps i)).2 (by intro e; rw [e] at hm; cases hm)
      rw [hz] at this
      cases this
theorem RoundSent.may (ho : OkPks ps) (hq : ∀ f, 1 ≤ quOf ns f) (hper : 1 ≤ per) (h : RoundSent per ps ns l) : Conv per ps l ∧ Turns ps l ∧ l.length = ps.length := by
  have hl := h.length ho hq
  obtain ⟨s, h1, h2, h3, rfl⟩ := h
  have r := may_run (turns_may ho hq hper) (by omega) ho h1
  exact ⟨r.conv, r.turns, hl⟩
end
end Go.Proofs.YtolbmkniafkeaaaDoor
