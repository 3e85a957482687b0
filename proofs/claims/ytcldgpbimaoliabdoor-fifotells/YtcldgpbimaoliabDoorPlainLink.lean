/- Plain facts on a link that sends as a queue picks. No Go text is named here. -/
import Derived.Test.YtcldgpbimaoliabDoorPlainPkts
namespace Go.Proofs.YtcldgpbimaoliabDoor

/-- What was sent: a packet's number, the tick at which it begins, the one at which it is through. -/
structure Sn where
  num : Int
  beg : Int
  fin : Int

/-- A queue, told by its ways. -/
structure Que (σ : Type) where
  come : σ → Nat → σ
  pick : σ → Nat
  left : σ → σ
  rest : σ → Nat

/-- What a link knows while it sends. -/
structure St (σ : Type) where
  out : List Sn
  now : Int
  next : Nat
  q : σ

/-- What holds at the start, and behind each step of a link where it held ahead of it. -/
structure Steps {σ : Type} (Q : Que σ) (per : Int) (ps : List Pk) (q0 : σ) (C : St σ → Prop) : Prop where
  start : C ⟨[], 0, 0, q0⟩
  come : ∀ s p, C s → ps[s.next]? = some p → p.tick ≤ s.now → C ⟨s.out, s.now, s.next + 1, Q.come s.q s.next⟩
  send : ∀ s p, C s → (∀ r, ps[s.next]? = some r → s.now < r.tick) → 0 < Q.rest s.q → ps[Q.pick s.q]? = some p → C ⟨s.out ++ [⟨Q.pick s.q, s.now, s.now + per * p.size⟩], s.now + per * p.size, s.next, Q.left s.q⟩
  idle : ∀ s p, C s → ps[s.next]? = some p → s.now < p.tick → Q.rest s.q = 0 → C ⟨s.out, p.tick, s.next, s.q⟩
/-- The states that a link comes to: whatever holds at the start and behind each step holds there. -/
def Reaches {σ : Type} (Q : Que σ) (per : Int) (ps : List Pk) (q0 : σ) (s : St σ) : Prop := ∀ C : St σ → Prop, Steps Q per ps q0 C → C s
section
variable {σ : Type} {Q : Que σ} {per : Int} {ps : List Pk} {q0 : σ}
theorem Reaches.start : Reaches Q per ps q0 ⟨[], 0, 0, q0⟩ := fun _ h => h.start
theorem Reaches.come (s : St σ) (p : Pk) (hs : Reaches Q per ps q0 s) (h1 : ps[s.next]? = some p) (h2 : p.tick ≤ s.now) : Reaches Q per ps q0 ⟨s.out, s.now, s.next + 1, Q.come s.q s.next⟩ :=
  fun C h => h.come s p (hs C h) h1 h2
theorem Reaches.send (s : St σ) (p : Pk) (hs : Reaches Q per ps q0 s) (h1 : ∀ r, ps[s.next]? = some r → s.now < r.tick) (h2 : 0 < Q.rest s.q) (h3 : ps[Q.pick s.q]? = some p) : Reaches Q per ps q0 ⟨s.out ++ [⟨Q.pick s.q, s.now, s.now + per * p.size⟩], s.now + per * p.size, s.next, Q.left s.q⟩ :=
  fun C h => h.send s p (hs C h) h1 h2 h3
theorem Reaches.idle (s : St σ) (p : Pk) (hs : Reaches Q per ps q0 s) (h1 : ps[s.next]? = some p) (h2 : s.now < p.tick) (h3 : Q.rest s.q = 0) : Reaches Q per ps q0 ⟨s.out, p.tick, s.next, s.q⟩ :=
  fun C h => h.idle s p (hs C h) h1 h2 h3
/-- By steps. -/
theorem Reaches.by_steps {C : St σ → Prop} {s : St σ} (h : Reaches Q per ps q0 s) (h0 : C ⟨[], 0, 0, q0⟩)
    (h1 : ∀ s p, Reaches Q per ps q0 s → ps[s.next]? = some p → p.tick ≤ s.now → C s → C ⟨s.out, s.now, s.next + 1, Q.come s.q s.next⟩)
    (h2 : ∀ s p, Reaches Q per ps q0 s → (∀ r, ps[s.next]? = some r → s.now < r.tick) → 0 < Q.rest s.q → ps[Q.pick s.q]? = some p → C s → C ⟨s.out ++ [⟨Q.pick s.q, s.now, s.now + per * p.size⟩], s.now + per * p.size, s.next, Q.left s.q⟩)
    (h3 : ∀ s p, Reaches Q per ps q0 s → ps[s.next]? = some p → s.now < p.tick → Q.rest s.q = 0 → C s → C ⟨s.out, p.tick, s.next, s.q⟩) : C s :=
  (h (fun s => Reaches Q per ps q0 s ∧ C s) ⟨⟨.start, h0⟩, fun s p hs a b => ⟨.come s p hs.1 a b, h1 s p hs.1 a b hs.2⟩, fun s p hs a b c => ⟨.send s p hs.1 a b c, h2 s p hs.1 a b c hs.2⟩, fun s p hs a b c => ⟨.idle s p hs.1 a b c, h3 s p hs.1 a b c hs.2⟩⟩).2
end

/-- What a queue must keep to. -/
structure QueLaw {σ : Type} (Q : Que σ) (per : Int) (ps : List Pk) (q0 : σ) : Prop where
  none : Q.rest q0 = 0
  come : ∀ s, Reaches Q per ps q0 s → s.next < ps.length → Q.rest (Q.come s.q s.next) = Q.rest s.q + 1
  left : ∀ s, Reaches Q per ps q0 s → 0 < Q.rest s.q → Q.rest (Q.left s.q) + 1 = Q.rest s.q
  pick : ∀ s, Reaches Q per ps q0 s → 0 < Q.rest s.q → Q.pick s.q < s.next

theorem lt_of_get {α : Type} {l : List α} {k : Nat} {x : α} (h : l[k]? = some x) : k < l.length := by
  rcases Nat.lt_or_ge k l.length with h' | h'
  · exact h'
  · simp [List.getElem?_eq_none h'] at h

section
variable {σ : Type} {Q : Que σ} {per : Int} {ps : List Pk} {q0 : σ} {s : St σ}
theorem Reaches.next_le (h : Reaches Q per ps q0 s) : s.next ≤ ps.length := by
  refine h.by_steps (C := fun s => s.next ≤ ps.length) (Nat.zero_le _) ?_ ?_ ?_
  · intro s p _ hp _ _
    exact lt_of_get hp
  · intro s p _ _ _ _ ih
    exact ih
  · intro s p _ _ _ _ ih
    exact ih
theorem Reaches.count (hq : QueLaw Q per ps q0) (h : Reaches Q per ps q0 s) : s.out.length + Q.rest s.q = s.next := by
  refine h.by_steps (C := fun s => s.out.length + Q.rest s.q = s.next) (by simp [hq.none]) ?_ ?_ ?_
  · intro s p hs hp _ ih
    have := hq.come s hs (lt_of_get hp)
    simp only
    omega
  · intro s p hs _ h0 _ ih
    have := hq.left s hs h0
    simp only [List.length_append, List.length_cons, List.length_nil]
    omega
  · intro s p _ _ _ _ ih
    exact ih
theorem Reaches.now_in (hper : 1 ≤ per ∧ per ≤ 1000) (ho : OkPks ps) (h : Reaches Q per ps q0 s) : 0 ≤ s.now ∧ s.now ≤ 1099511627776 + 1500000 * s.out.length := by
  refine h.by_steps (C := fun s => 0 ≤ s.now ∧ s.now ≤ 1099511627776 + 1500000 * s.out.length) ⟨Int.le_refl _, by simp⟩ ?_ ?_ ?_
  · intro s p _ _ _ ih
    exact ih
  · intro s p _ _ _ hp ih
    obtain ⟨-, -, h1, h2, -, -⟩ := okPk_true (ho.each _ p hp).1
    have a1 : 0 ≤ per * p.size := Int.mul_nonneg (by omega) (by omega)
    have a2 : per * p.size ≤ 1000 * 1500 := Int.mul_le_mul (by omega) h2 (by omega) (by omega)
    simp only [List.length_append, List.length_cons, List.length_nil]
    omega
  · intro s p _ hp _ _ ih
    obtain ⟨-, -, -, -, h1, h2⟩ := okPk_true (ho.each _ p hp).1
    simp only
    omega
end

/-- The tick, and the size, of a packet by its number. -/
def tickOf (ps : List Pk) (j : Nat) : Int := match ps[j]? with | some p => p.tick | none => 0
def bytesOf (ps : List Pk) (j : Nat) : Int := match ps[j]? with | some p => p.size | none => 0
theorem tickOf_get {ps : List Pk} {j : Nat} {p : Pk} (h : ps[j]? = some p) : tickOf ps j = p.tick := by simp [tickOf, h]
theorem bytesOf_get {ps : List Pk} {j : Nat} {p : Pk} (h : ps[j]? = some p) : bytesOf ps j = p.size := by simp [bytesOf, h]
theorem ticks_rise {ps : List Pk} (ho : OkPks ps) : ∀ (d i : Nat), i + d < ps.length → tickOf ps i ≤ tickOf ps (i + d) := by
  intro d
  induction d with
  | zero => intro i _; exact Int.le_refl _
  | succ d ih =>
    intro i h
    have h1 := ih i (by omega)
    have e1 : ps[i + d]? = some ps[i + d] := List.getElem?_eq_getElem (by omega)
    have e2 : ps[i + d + 1]? = some ps[i + d + 1] := List.getElem?_eq_getElem (by omega)
    have h2 := (ho.each (i + d + 1) _ e2).2
    simp only [ahead, e1] at h2
    rw [tickOf_get e1] at h1
    rw [show i + (d + 1) = i + d + 1 by omega, tickOf_get e2]
    omega
theorem ticks_le {ps : List Pk} (ho : OkPks ps) {i k : Nat} (h : i ≤ k) (hk : k < ps.length) : tickOf ps i ≤ tickOf ps k := by
  have := ticks_rise ho (k - i) i (by omega)
  rwa [show i + (k - i) = k by omega] at this
end Go.Proofs.YtcldgpbimaoliabDoor
