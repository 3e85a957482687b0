/- Plain facts on a link in order: when each packet is through. No Go text is named here. -/
import Derived.Test.YtcldgpbimaoliabDoorPlainLink
namespace Go.Proofs.YtcldgpbimaoliabDoor

/-- When all ahead of a packet are through. -/
def lto (per : Int) (ps : List Pk) : Nat → Int
  | 0 => 0
  | j + 1 => max (lto per ps j) (tickOf ps j) + per * bytesOf ps j
def lind (per : Int) (ps : List Pk) (j : Nat) : Sn := ⟨j, max (lto per ps j) (tickOf ps j), lto per ps (j + 1)⟩
def lindAll (per : Int) (ps : List Pk) (j : Nat) : List Sn := (List.range j).map (lind per ps)
theorem lindAll_length (per : Int) (ps : List Pk) (j : Nat) : (lindAll per ps j).length = j := by simp [lindAll]
theorem lindAll_get {per : Int} {ps : List Pk} {j k : Nat} (h : k < j) : (lindAll per ps j)[k]? = some (lind per ps k) := by simp [lindAll, h]
theorem lindAll_succ (per : Int) (ps : List Pk) (j : Nat) : lindAll per ps (j + 1) = lindAll per ps j ++ [lind per ps j] := by simp [lindAll, List.range_succ]
theorem lindAll_take {per : Int} {ps : List Pk} {j k : Nat} (h : k ≤ j) : (lindAll per ps j).take k = lindAll per ps k := by
  rw [lindAll, ← List.map_take, List.take_range, Nat.min_eq_left h]; rfl

theorem lto_in {per : Int} {ps : List Pk} (ho : OkPks ps) (h1 : 1 ≤ per) (h2 : per ≤ 1000) : ∀ k, k ≤ ps.length → 0 ≤ lto per ps k ∧ lto per ps k ≤ 1099511627776 + 1500000 * k
  | 0, _ => ⟨Int.le_refl _, by simp [lto]⟩
  | k + 1, hk => by
    have ih := lto_in ho h1 h2 k (by omega)
    have e : ps[k]? = some ps[k] := List.getElem?_eq_getElem (by omega)
    obtain ⟨-, -, s1, s2, t1, t2⟩ := okPk_true (ho.each _ _ e).1
    have a1 : 0 ≤ per * ps[k].size := Int.mul_nonneg (by omega) (by omega)
    have a2 : per * ps[k].size ≤ 1000 * 1500 := Int.mul_le_mul (by omega) s2 (by omega) (by omega)
    simp only [lto, tickOf_get e, bytesOf_get e]
    omega

/-- The queue that picks the one that came first. -/
def fifoQ : Que (List Nat) := ⟨fun q k => q ++ [k], fun q => q.headD 0, fun q => q.tail, fun q => q.length⟩

/-- Those that wait in order, and what was sent. -/
structure InOrder (per : Int) (ps : List Pk) (s : St (List Nat)) (j : Nat) : Prop where
  le : j ≤ s.next
  q : s.q = List.range' j (s.next - j)
  out : s.out = lindAll per ps j
  came : ∀ i, i < s.next → tickOf ps i ≤ s.now
  now : max s.now (tickOf ps j) = max (lto per ps j) (tickOf ps j)
theorem fifo_order {per : Int} {ps : List Pk} {s : St (List Nat)} (hper : 0 ≤ per) (ho : OkPks ps) (h : Reaches fifoQ per ps [] s) : ∃ j, InOrder per ps s j := by
  refine h.by_steps (C := fun s => ∃ j, InOrder per ps s j) ⟨0, Nat.le_refl _, rfl, rfl, fun i h => absurd h (Nat.not_lt_zero _), rfl⟩ ?_ ?_ ?_
  · intro s p hs hp ht ih
    obtain ⟨j, h1, h2, h3, h4, h5⟩ := ih
    refine ⟨j, by simp only; omega, ?_, h3, fun i hi => ?_, h5⟩
    · simp only [fifoQ, h2]
      rw [show s.next + 1 - j = (s.next - j) + 1 by omega, List.range'_concat, Nat.one_mul, show j + (s.next - j) = s.next by omega]
    · simp only at hi ⊢
      rcases Nat.lt_or_ge i s.next with h | h
      · exact h4 i h
      · obtain rfl : i = s.next := by omega
        rw [tickOf_get hp]; exact ht
  · intro s p hs hall h0 hp ih
    obtain ⟨j, h1, h2, h3, h4, h5⟩ := ih
    have hlt : j < s.next := by
      rcases Nat.lt_or_ge j s.next with h | h
      · exact h
      · rw [h2, show s.next - j = 0 by omega] at h0
        simp [fifoQ] at h0
    have hr : List.range' j (s.next - j) = j :: List.range' (j + 1) (s.next - (j + 1)) := by
      rw [show s.next - j = (s.next - (j + 1)) + 1 by omega, List.range'_succ]
    have hpick : fifoQ.pick s.q = j := by rw [h2, hr]; rfl
    rw [hpick] at hp
    have e1 := tickOf_get hp
    have e2 := bytesOf_get hp
    have hn : s.now = max (lto per ps j) (tickOf ps j) := by
      have := h4 j hlt
      omega
    have hpos : 0 ≤ per * p.size := Int.mul_nonneg hper (by have := okPk_true (ho.each _ p hp).1; omega)
    refine ⟨j + 1, by simp only; omega, ?_, ?_, fun i hi => ?_, ?_⟩
    · simp only [fifoQ]; rw [h2, hr]; rfl
    · simp only [hpick]
      rw [lindAll_succ, h3]
      simp only [lind, lto, e2, hn]
    · have := h4 i hi
      simp only
      omega
    · simp only [lto, e2, hn]
  · intro s p hs hp ht h0 ih
    obtain ⟨j, h1, h2, h3, h4, h5⟩ := ih
    have hj : j = s.next := by
      have h0' : s.q.length = 0 := h0
      rw [h2, List.length_range'] at h0'
      omega
    subst hj
    have e1 := tickOf_get hp
    refine ⟨s.next, Nat.le_refl _, h2, h3, fun i hi => ?_, ?_⟩
    · have := h4 i hi
      simp only
      omega
    · simp only [e1] at h5 ⊢
      omega
theorem fifo_law {per : Int} {ps : List Pk} (hper : 0 ≤ per) (ho : OkPks ps) : QueLaw fifoQ per ps [] where
  none := rfl
  come := fun s _ _ => by simp [fifoQ]
  left := fun s _ h => by
    simp only [fifoQ] at h ⊢
    rw [List.length_tail]
    omega
  pick := fun s hs h => by
    obtain ⟨j, h1, h2, -, -, -⟩ := fifo_order hper ho hs
    have h' : 0 < s.q.length := h
    rw [h2, List.length_range'] at h'
    show s.q.headD 0 < s.next
    rw [h2, show s.next - j = (s.next - (j + 1)) + 1 by omega, List.range'_succ]
    simp
    omega
theorem fifo_end {per : Int} {ps : List Pk} {s : St (List Nat)} (hper : 0 ≤ per) (ho : OkPks ps) (h : Reaches fifoQ per ps [] s) (hn : ¬ s.next < ps.length) (hr : fifoQ.rest s.q = 0) : s.out = lindAll per ps ps.length := by
  obtain ⟨j, h1, h2, h3, -, -⟩ := fifo_order hper ho h
  have := h.next_le
  have h' : s.q.length = 0 := hr
  rw [h2, List.length_range'] at h'
  rw [h3, show j = ps.length by omega]
end Go.Proofs.YtcldgpbimaoliabDoor
