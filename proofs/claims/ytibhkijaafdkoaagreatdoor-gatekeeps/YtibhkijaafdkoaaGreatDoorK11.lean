/- Own facts, put together: no statement of its own. -/
import Derived.Test.YtibhkijaafdkoaaGreatDoorK10
namespace Go.Proofs.YtibhkijaafdkoaaGreatDoor
structure Pk where
 flow : Int
 size : Int
 tick : Int
def okPk (p : Pk) : Bool := decide (0 ≤ p.flow ∧ p.flow < 8 ∧ 1 ≤ p.size ∧ p.size ≤ 1500 ∧ 0 ≤ p.tick ∧ p.tick ≤ 1099511627776)
theorem okPk_true {p : Pk} (h : okPk p = true) : 0 ≤ p.flow ∧ p.flow < 8 ∧ 1 ≤ p.size ∧ p.size ≤ 1500 ∧ 0 ≤ p.tick ∧ p.tick ≤ 1099511627776 := of_decide_eq_true h
theorem okPk_mk {p : Pk} (h : 0 ≤ p.flow ∧ p.flow < 8 ∧ 1 ≤ p.size ∧ p.size ≤ 1500 ∧ 0 ≤ p.tick ∧ p.tick ≤ 1099511627776) : okPk p = true := decide_eq_true h
def ahead (ps : List Pk) : Nat → Int
 | 0 => 0
 | i + 1 => match ps[i]? with | some p => p.tick | none => 0
structure OkPks (ps : List Pk) : Prop where
 few : ps.length ≤ 300
 each : ∀ i p, ps[i]? = some p → okPk p = true ∧ ahead ps i ≤ p.tick
theorem okPks_none : OkPks [] := ⟨by simp, fun i p h => by simp at h⟩
def total : List Pk → Int
 | [] => 0
 | p :: r => p.size + total r
theorem total_snoc (ps : List Pk) (p : Pk) : total (ps ++ [p]) = total ps + p.size := by
 induction ps with
 | nil => simp [total]
 | cons q r ih => simp [total, ih]; omega
def ends : List Pk → List (Int × Int)
 | [] => []
 | p :: r => (p.tick, total (p :: r)) :: ends r
theorem ends_snoc (ps : List Pk) (p : Pk) (a s : Int) : (a, s) ∈ ends (ps ++ [p]) ↔ (a, s - p.size) ∈ ends ps ∨ (a = p.tick ∧ s = p.size) := by
 induction ps with
 | nil => simp [ends, total]
 | cons q r ih =>
  show (a, s) ∈ (q.tick, total (q :: (r ++ [p]))) :: ends (r ++ [p]) ↔ (a, s - p.size) ∈ (q.tick, total (q :: r)) :: ends r ∨ _
  have ht : total (q :: (r ++ [p])) = total (q :: r) + p.size := total_snoc (q :: r) p
  simp only [List.mem_cons, Prod.mk.injEq, ht, ih]
  constructor
  ·
   rintro (⟨h1, h2⟩ | h | h)
   · exact .inl (.inl ⟨h1, by omega⟩)
   · exact .inl (.inr h)
   · exact .inr h
  ·
   rintro ((⟨h1, h2⟩ | h) | h)
   · exact .inl ⟨h1, by omega⟩
   · exact .inr (.inl h)
   · exact .inr (.inr h)
def lastFits (ls : List (Int × Int)) (ps : List Pk) (p : Pk) : Prop := ∀ a s, (a, s) ∈ ends (ps ++ [p]) → s ≤ curveAt (p.tick - a) ls
def startB (ls : List (Int × Int)) (a c : Int) : List Pk → Bool
 | [] => true
 | p :: r => decide (c + p.size ≤ curveAt (p.tick - a) ls) && startB ls a (c + p.size) r
def fitsB (ls : List (Int × Int)) : List Pk → Bool
 | [] => true
 | p :: r => startB ls p.tick 0 (p :: r) && fitsB ls r
theorem startB_snoc (ls : List (Int × Int)) (a : Int) (ps : List Pk) (p : Pk) : ∀ c, startB ls a c (ps ++ [p]) = true ↔ startB ls a c ps = true ∧ c + total (ps ++ [p]) ≤ curveAt (p.tick - a) ls := by
 induction ps with
 | nil => intro c; simp [startB, total]
 | cons q r ih =>
  intro c
  have ht : total (q :: r ++ [p]) = q.size + total (r ++ [p]) := rfl
  simp only [List.cons_append, startB, Bool.and_eq_true, ih] at *
  rw [ht, Int.add_assoc, and_assoc]
theorem fitsB_snoc (ls : List (Int × Int)) (ps : List Pk) (p : Pk) : fitsB ls (ps ++ [p]) = true ↔ fitsB ls ps = true ∧ lastFits ls ps p := by
 induction ps with
 | nil => simp [fitsB, startB, lastFits, ends, total]
 | cons q r ih =>
  have h1 := startB_snoc ls q.tick (q :: r) p 0
  simp only [List.cons_append] at h1
  simp only [List.cons_append, fitsB, Bool.and_eq_true, h1, ih]
  have h2 : lastFits ls (q :: r) p ↔ 0 + total (q :: (r ++ [p])) ≤ curveAt (p.tick - q.tick) ls ∧ lastFits ls r p := by
   show (∀ a s, (a, s) ∈ (q.tick, total (q :: (r ++ [p]))) :: ends (r ++ [p]) → _) ↔ _
   simp only [List.mem_cons, Prod.mk.injEq, Int.zero_add]
   constructor
   ·
    intro h
    exact ⟨h _ _ (.inl ⟨rfl, rfl⟩), fun a s hm => h a s (.inr hm)⟩
   ·
    rintro ⟨h, h'⟩ a s (⟨rfl, rfl⟩ | hm)
    · exact h
    · exact h' a s hm
  rw [h2]
  exact ⟨fun ⟨⟨a, b⟩, c, d⟩ => ⟨⟨a, c⟩, b, d⟩, fun ⟨⟨a, c⟩, b, d⟩ => ⟨⟨a, b⟩, c, d⟩⟩
theorem le_curveAt (t s : Int) (ls : List (Int × Int)) (h : 1 ≤ ls.length) : s ≤ curveAt t ls ↔ ∀ p, p ∈ ls → s ≤ lineAt t p.1 p.2 := by
 constructor
 ·
  intro hs p hp
  have := curveAt_le t ls p hp
  omega
 ·
  intro hs
  obtain ⟨p, hp, e⟩ := curveAt_is t ls h
  rw [e]
  exact hs p hp
theorem lastFits_lines (ls : List (Int × Int)) (h : 1 ≤ ls.length) (ps : List Pk) (p : Pk) : lastFits ls ps p ↔ ∀ q, q ∈ ls → lastFits [q] ps p := by
 have h1 : ∀ q : Int × Int, ∀ t s, s ≤ curveAt t [q] ↔ s ≤ lineAt t q.1 q.2 := fun q t s => by simp [curveAt, leastAt]
 simp only [lastFits, le_curveAt _ _ ls h, h1]
 exact ⟨fun H q hq a s hm => H a s hm q hq, fun H a s hm q hq => H q hq a s hm⟩
structure Passed (q : Int × Int) (ps : List Pk) (b : Bk) : Prop where
 most : b.most = q.1 * 1000
 rate : b.rate = q.2
 lev : ∀ t v, b.last ≤ t → (v ≤ b.lev t ↔ v ≤ q.1 * 1000 ∧ ∀ a s, (a, s) ∈ ends ps → v + s * 1000 ≤ q.1 * 1000 + q.2 * (t - a))
theorem passed_none (q : Int × Int) (h : 0 ≤ q.2) : Passed q [] (bkOf q) := by
 refine ⟨rfl, rfl, fun t v ht => ?_⟩
 have := Int.mul_nonneg h (show 0 ≤ t - 0 by simpa [bkOf] using ht)
 simp only [Bk.lev, bkOf, ends] at *
 constructor
 · intro hv; exact ⟨by omega, fun a s hm => by cases hm⟩
 · intro hv; omega
theorem Passed.fits {q : Int × Int} {ps : List Pk} {b : Bk} (h : Passed q ps b) (p : Pk) (hp : b.last ≤ p.tick) : p.size * 1000 ≤ b.lev p.tick ↔ lastFits [q] ps p := by
 rw [h.lev _ _ hp]
 have h1 : ∀ t s, s ≤ curveAt t [q] ↔ s * 1000 ≤ q.1 * 1000 + q.2 * t := fun t s => by simp [curveAt, leastAt, lineAt]; omega
 simp only [lastFits, h1, ends_snoc]
 constructor
 ·
  rintro ⟨h2, h3⟩ a s (hm | ⟨rfl, rfl⟩)
  · have := h3 a _ hm; omega
  · simp; omega
 ·
  intro H
  refine ⟨by have := H p.tick p.size (.inr ⟨rfl, rfl⟩); simp at this; omega, fun a s hm => ?_⟩
  have := H a (s + p.size) (.inl (by simpa using hm))
  omega
theorem Passed.pass {q : Int × Int} {ps : List Pk} {b : Bk} (h : Passed q ps b) (r0 : 0 ≤ b.rate) (p : Pk) (ht : b.last ≤ p.tick) (hn : p.size * 1000 ≤ b.lev p.tick) : Passed q (ps ++ [p]) (b.take p.tick p.size) := by
 have e : b.take p.tick p.size = ⟨b.most, b.rate, b.lev p.tick - p.size * 1000, p.tick⟩ := by unfold Bk.take; rw [if_pos hn]
 refine ⟨by rw [e]; exact h.most, by rw [e]; exact h.rate, fun s v hs => ?_⟩
 rw [e] at hs ⊢
 simp only at hs
 have h2 := Int.mul_nonneg r0 (show 0 ≤ s - p.tick by omega)
 have hl := h.lev p.tick (v + p.size * 1000 - b.rate * (s - p.tick)) ht
 have hm := h.most
 have hr := h.rate
 have key : v ≤ (Bk.mk b.most b.rate (b.lev p.tick - p.size * 1000) p.tick).lev s ↔ v ≤ b.most ∧ v + p.size * 1000 - b.rate * (s - p.tick) ≤ b.lev p.tick := by simp only [Bk.lev]; omega
 rw [key, hl, hm, hr]
 simp only [ends_snoc]
 constructor
 ·
  rintro ⟨h3, h4, h5⟩
  refine ⟨h3, fun a z hz => ?_⟩
  rcases hz with hz | ⟨rfl, rfl⟩
  ·
   have := h5 a _ hz
   have := mul_split q.2 s p.tick a
   omega
  · omega
 ·
  rintro ⟨h3, h4⟩
  refine ⟨h3, ?_, fun a z hz => ?_⟩
  · have := h4 p.tick p.size (.inr ⟨rfl, rfl⟩); omega
  ·
   have := h4 a (z + p.size) (.inl (by simpa using hz))
   have := mul_split q.2 s p.tick a
   omega
end Go.Proofs.YtibhkijaafdkoaaGreatDoor

namespace Go.Proofs.YtibhkijaafdkoaaGreatDoor
structure Sn where
 num : Int
 beg : Int
 fin : Int
structure Que (σ : Type) where
 come : σ → Nat → σ
 pick : σ → Nat
 left : σ → σ
 rest : σ → Nat
 idle : σ → σ := fun q => q
structure St (σ : Type) where
 out : List Sn
 now : Int
 next : Nat
 q : σ
structure Steps {σ : Type} (Q : Que σ) (per : Int) (ps : List Pk) (q0 : σ) (C : St σ → Prop) : Prop where
 start : C ⟨[], 0, 0, q0⟩
 come : ∀ s p, C s → ps[s.next]? = some p → p.tick ≤ s.now → C ⟨s.out, s.now, s.next + 1, Q.come s.q s.next⟩
 send : ∀ s p, C s → (∀ r, ps[s.next]? = some r → s.now < r.tick) → 0 < Q.rest s.q → ps[Q.pick s.q]? = some p → C ⟨s.out ++ [⟨Q.pick s.q, s.now, s.now + per * p.size⟩], s.now + per * p.size, s.next, Q.left s.q⟩
 idle : ∀ s p, C s → ps[s.next]? = some p → s.now < p.tick → Q.rest s.q = 0 → C ⟨s.out, p.tick, s.next, Q.idle s.q⟩
def Reaches {σ : Type} (Q : Que σ) (per : Int) (ps : List Pk) (q0 : σ) (s : St σ) : Prop := ∀ C : St σ → Prop, Steps Q per ps q0 C → C s
section
variable {σ : Type} {Q : Que σ} {per : Int} {ps : List Pk} {q0 : σ}
theorem Reaches.start : Reaches Q per ps q0 ⟨[], 0, 0, q0⟩ := fun _ h => h.start
theorem Reaches.come (s : St σ) (p : Pk) (hs : Reaches Q per ps q0 s) (h1 : ps[s.next]? = some p) (h2 : p.tick ≤ s.now) : Reaches Q per ps q0 ⟨s.out, s.now, s.next + 1, Q.come s.q s.next⟩ :=
 fun C h => h.come s p (hs C h) h1 h2
theorem Reaches.send (s : St σ) (p : Pk) (hs : Reaches Q per ps q0 s) (h1 : ∀ r, ps[s.next]? = some r → s.now < r.tick) (h2 : 0 < Q.rest s.q) (h3 : ps[Q.pick s.q]? = some p) : Reaches Q per ps q0 ⟨s.out ++ [⟨Q.pick s.q, s.now, s.now + per * p.size⟩], s.now + per * p.size, s.next, Q.left s.q⟩ :=
 fun C h => h.send s p (hs C h) h1 h2 h3
theorem Reaches.idle (s : St σ) (p : Pk) (hs : Reaches Q per ps q0 s) (h1 : ps[s.next]? = some p) (h2 : s.now < p.tick) (h3 : Q.rest s.q = 0) : Reaches Q per ps q0 ⟨s.out, p.tick, s.next, Q.idle s.q⟩ :=
 fun C h => h.idle s p (hs C h) h1 h2 h3
theorem Reaches.by_steps {C : St σ → Prop} {s : St σ} (h : Reaches Q per ps q0 s) (h0 : C ⟨[], 0, 0, q0⟩)
  (h1 : ∀ s p, Reaches Q per ps q0 s → ps[s.next]? = some p → p.tick ≤ s.now → C s → C ⟨s.out, s.now, s.next + 1, Q.come s.q s.next⟩)
  (h2 : ∀ s p, Reaches Q per ps q0 s → (∀ r, ps[s.next]? = some r → s.now < r.tick) → 0 < Q.rest s.q → ps[Q.pick s.q]? = some p → C s → C ⟨s.out ++ [⟨Q.pick s.q, s.now, s.now + per * p.size⟩], s.now + per * p.size, s.next, Q.left s.q⟩)
  (h3 : ∀ s p, Reaches Q per ps q0 s → ps[s.next]? = some p → s.now < p.tick → Q.rest s.q = 0 → C s → C ⟨s.out, p.tick, s.next, Q.idle s.q⟩) : C s :=
 (h (fun s => Reaches Q per ps q0 s ∧ C s) ⟨⟨.start, h0⟩, fun s p hs a b => ⟨.come s p hs.1 a b, h1 s p hs.1 a b hs.2⟩, fun s p hs a b c => ⟨.send s p hs.1 a b c, h2 s p hs.1 a b c hs.2⟩, fun s p hs a b c => ⟨.idle s p hs.1 a b c, h3 s p hs.1 a b c hs.2⟩⟩).2
end
structure QueLaw {σ : Type} (Q : Que σ) (per : Int) (ps : List Pk) (q0 : σ) : Prop where
 none : Q.rest q0 = 0
 come : ∀ s, Reaches Q per ps q0 s → s.next < ps.length → Q.rest (Q.come s.q s.next) = Q.rest s.q + 1
 left : ∀ s, Reaches Q per ps q0 s → 0 < Q.rest s.q → Q.rest (Q.left s.q) + 1 = Q.rest s.q
 pick : ∀ s, Reaches Q per ps q0 s → 0 < Q.rest s.q → Q.pick s.q < s.next
 idle : ∀ s, Reaches Q per ps q0 s → Q.rest s.q = 0 → Q.rest (Q.idle s.q) = 0
def Que.asked {σ : Type} (Q : Que σ) (q : σ) : σ := if Q.rest q = 0 then Q.idle q else q
theorem asked_same {σ : Type} (Q : Que σ) (h : ∀ q, Q.idle q = q) (q : σ) : Q.asked q = q := by
 unfold Que.asked
 split
 · exact h q
 · rfl
theorem lt_of_get {α : Type} {l : List α} {k : Nat} {x : α} (h : l[k]? = some x) : k < l.length := by
 rcases Nat.lt_or_ge k l.length with h' | h'
 · exact h'
 · simp [List.getElem?_eq_none h'] at h
section
variable {σ : Type} {Q : Que σ} {per : Int} {ps : List Pk} {q0 : σ} {s : St σ}
theorem Reaches.next_le (h : Reaches Q per ps q0 s) : s.next ≤ ps.length := by
 refine h.by_steps (C := fun s => s.next ≤ ps.length) (Nat.zero_le _) ?_ ?_ ?_
 ·
  intro s p _ hp _ _
  exact lt_of_get hp
 ·
  intro s p _ _ _ _ ih
  exact ih
 ·
  intro s p _ _ _ _ ih
  exact ih
theorem Reaches.count (hq : QueLaw Q per ps q0) (h : Reaches Q per ps q0 s) : s.out.length + Q.rest s.q = s.next := by
 refine h.by_steps (C := fun s => s.out.length + Q.rest s.q = s.next) (by simp [hq.none]) ?_ ?_ ?_
 ·
  intro s p hs hp _ ih
  have := hq.come s hs (lt_of_get hp)
  simp only
  omega
 ·
  intro s p hs _ h0 _ ih
  have := hq.left s hs h0
  simp only [List.length_append, List.length_cons, List.length_nil]
  omega
 ·
  intro s p hs _ _ h0 ih
  have := hq.idle s hs h0
  simp only
  omega
theorem Reaches.now_in (hper : 1 ≤ per ∧ per ≤ 1000) (ho : OkPks ps) (h : Reaches Q per ps q0 s) : 0 ≤ s.now ∧ s.now ≤ 1099511627776 + 1500000 * s.out.length := by
 refine h.by_steps (C := fun s => 0 ≤ s.now ∧ s.now ≤ 1099511627776 + 1500000 * s.out.length) ⟨Int.le_refl _, by simp⟩ ?_ ?_ ?_
 ·
  intro s p _ _ _ ih
  exact ih
 ·
  intro s p _ _ _ hp ih
  obtain ⟨-, -, h1, h2, -, -⟩ := okPk_true (ho.each _ p hp).1
  have a1 : 0 ≤ per * p.size := Int.mul_nonneg (by omega) (by omega)
  have a2 : per * p.size ≤ 1000 * 1500 := Int.mul_le_mul (by omega) h2 (by omega) (by omega)
  simp only [List.length_append, List.length_cons, List.length_nil]
  omega
 ·
  intro s p _ hp _ _ ih
  obtain ⟨-, -, -, -, h1, h2⟩ := okPk_true (ho.each _ p hp).1
  simp only
  omega
end
def tickOf (ps : List Pk) (j : Nat) : Int := match ps[j]? with | some p => p.tick | none => 0
def bytesOf (ps : List Pk) (j : Nat) : Int := match ps[j]? with | some p => p.size | none => 0
theorem tickOf_get {ps : List Pk} {j : Nat} {p : Pk} (h : ps[j]? = some p) : tickOf ps j = p.tick := by simp [tickOf, h]
theorem bytesOf_get {ps : List Pk} {j : Nat} {p : Pk} (h : ps[j]? = some p) : bytesOf ps j = p.size := by simp [bytesOf, h]
theorem ticks_rise {ps : List Pk} (ho : OkPks ps) : ∀ (d i : Nat), i + d < ps.length → tickOf ps i ≤ tickOf ps (i + d) := by
 intro d
 induction d with
 | zero => intro i _; exact Int.le_refl _
 | succ d ih =>
  intro i h
  have h1 := ih i (by omega)
  have e1 : ps[i + d]? = some ps[i + d] := List.getElem?_eq_getElem (by omega)
  have e2 : ps[i + d + 1]? = some ps[i + d + 1] := List.getElem?_eq_getElem (by omega)
  have h2 := (ho.each (i + d + 1) _ e2).2
  simp only [ahead, e1] at h2
  rw [tickOf_get e1] at h1
  rw [show i + (d + 1) = i + d + 1 by omega, tickOf_get e2]
  omega
theorem ticks_le {ps : List Pk} (ho : OkPks ps) {i k : Nat} (h : i ≤ k) (hk : k < ps.length) : tickOf ps i ≤ tickOf ps k := by
 have := ticks_rise ho (k - i) i (by omega)
 rwa [show i + (k - i) = k by omega] at this
end Go.Proofs.YtibhkijaafdkoaaGreatDoor

namespace Go.Proofs.YtibhkijaafdkoaaGreatDoor
def lto (per : Int) (ps : List Pk) : Nat → Int
 | 0 => 0
 | j + 1 => max (lto per ps j) (tickOf ps j) + per * bytesOf ps j
def lind (per : Int) (ps : List Pk) (j : Nat) : Sn := ⟨j, max (lto per ps j) (tickOf ps j), lto per ps (j + 1)⟩
def lindAll (per : Int) (ps : List Pk) (j : Nat) : List Sn := (List.range j).map (lind per ps)
theorem lindAll_length (per : Int) (ps : List Pk) (j : Nat) : (lindAll per ps j).length = j := by simp [lindAll]
theorem lindAll_get {per : Int} {ps : List Pk} {j k : Nat} (h : k < j) : (lindAll per ps j)[k]? = some (lind per ps k) := by simp [lindAll, h]
theorem lindAll_succ (per : Int) (ps : List Pk) (j : Nat) : lindAll per ps (j + 1) = lindAll per ps j ++ [lind per ps j] := by simp [lindAll, List.range_succ]
theorem lindAll_take {per : Int} {ps : List Pk} {j k : Nat} (h : k ≤ j) : (lindAll per ps j).take k = lindAll per ps k := by
 rw [lindAll, ← List.map_take, List.take_range, Nat.min_eq_left h]; rfl
def fifoQ : Que (List Nat) := ⟨fun q k => q ++ [k], fun q => q.headD 0, fun q => q.tail, fun q => q.length, fun q => q⟩
structure InOrder (per : Int) (ps : List Pk) (s : St (List Nat)) (j : Nat) : Prop where
 le : j ≤ s.next
 q : s.q = List.range' j (s.next - j)
 out : s.out = lindAll per ps j
 came : ∀ i, i < s.next → tickOf ps i ≤ s.now
 now : max s.now (tickOf ps j) = max (lto per ps j) (tickOf ps j)
theorem fifo_order {per : Int} {ps : List Pk} {s : St (List Nat)} (hper : 0 ≤ per) (ho : OkPks ps) (h : Reaches fifoQ per ps [] s) : ∃ j, InOrder per ps s j := by
 refine h.by_steps (C := fun s => ∃ j, InOrder per ps s j) ⟨0, Nat.le_refl _, rfl, rfl, fun i h => absurd h (Nat.not_lt_zero _), rfl⟩ ?_ ?_ ?_
 ·
  intro s p hs hp ht ih
  obtain ⟨j, h1, h2, h3, h4, h5⟩ := ih
  refine ⟨j, by simp only; omega, ?_, h3, fun i hi => ?_, h5⟩
  ·
   simp only [fifoQ, h2]
   rw [show s.next + 1 - j = (s.next - j) + 1 by omega, List.range'_concat, Nat.one_mul, show j + (s.next - j) = s.next by omega]
  ·
   simp only at hi ⊢
   rcases Nat.lt_or_ge i s.next with h | h
   · exact h4 i h
   ·
    obtain rfl : i = s.next := by omega
    rw [tickOf_get hp]; exact ht
 ·
  intro s p hs hall h0 hp ih
  obtain ⟨j, h1, h2, h3, h4, h5⟩ := ih
  have hlt : j < s.next := by
   rcases Nat.lt_or_ge j s.next with h | h
   · exact h
   ·
    rw [h2, show s.next - j = 0 by omega] at h0
    simp [fifoQ] at h0
  have hr : List.range' j (s.next - j) = j :: List.range' (j + 1) (s.next - (j + 1)) := by
   rw [show s.next - j = (s.next - (j + 1)) + 1 by omega, List.range'_succ]
  have hpick : fifoQ.pick s.q = j := by rw [h2, hr]; rfl
  rw [hpick] at hp
  have e1 := tickOf_get hp
  have e2 := bytesOf_get hp
  have hn : s.now = max (lto per ps j) (tickOf ps j) := by
   have := h4 j hlt
   omega
  have hpos : 0 ≤ per * p.size := Int.mul_nonneg hper (by have := okPk_true (ho.each _ p hp).1; omega)
  refine ⟨j + 1, by simp only; omega, ?_, ?_, fun i hi => ?_, ?_⟩
  · simp only [fifoQ]; rw [h2, hr]; rfl
  ·
   simp only [hpick]
   rw [lindAll_succ, h3]
   simp only [lind, lto, e2, hn]
  ·
   have := h4 i hi
   simp only
   omega
  · simp only [lto, e2, hn]
 ·
  intro s p hs hp ht h0 ih
  obtain ⟨j, h1, h2, h3, h4, h5⟩ := ih
  have hj : j = s.next := by
   have h0' : s.q.length = 0 := h0
   rw [h2, List.length_range'] at h0'
   omega
  subst hj
  have e1 := tickOf_get hp
  refine ⟨s.next, Nat.le_refl _, h2, h3, fun i hi => ?_, ?_⟩
  ·
   have := h4 i hi
   simp only
   omega
  ·
   simp only [e1] at h5 ⊢
   omega
theorem fifo_law {per : Int} {ps : List Pk} (hper : 0 ≤ per) (ho : OkPks ps) : QueLaw fifoQ per ps [] where
 none := rfl
 come := fun s _ _ => by simp [fifoQ]
 left := fun s _ h => by
  simp only [fifoQ] at h ⊢
  rw [List.length_tail]
  omega
 pick := fun s hs h => by
  obtain ⟨j, h1, h2, -, -, -⟩ := fifo_order hper ho hs
  have h' : 0 < s.q.length := h
  rw [h2, List.length_range'] at h'
  show s.q.headD 0 < s.next
  rw [h2, show s.next - j = (s.next - (j + 1)) + 1 by omega, List.range'_succ]
  simp
  omega
 idle := fun _ _ h => h
theorem fifo_end {per : Int} {ps : List Pk} {s : St (List Nat)} (hper : 0 ≤ per) (ho : OkPks ps) (h : Reaches fifoQ per ps [] s) (hn : ¬ s.next < ps.length) (hr : fifoQ.rest s.q = 0) : s.out = lindAll per ps ps.length := by
 obtain ⟨j, h1, h2, h3, -, -⟩ := fifo_order hper ho h
 have := h.next_le
 have h' : s.q.length = 0 := hr
 rw [h2, List.length_range'] at h'
 rw [h3, show j = ps.length by omega]
end Go.Proofs.YtibhkijaafdkoaaGreatDoor

namespace Go.Proofs.YtibhkijaafdkoaaGreatDoor
def Undone (n : Nat) (out : List Sn) (i : Nat) : Prop := i < n ∧ ∀ x ∈ out, x.num ≠ (i : Int)
def lastFin (out : List Sn) : Int := match out.getLast? with | some x => x.fin | none => 0
theorem lastFin_nil : lastFin [] = 0 := rfl
theorem lastFin_snoc (out : List Sn) (x : Sn) : lastFin (out ++ [x]) = x.fin := by simp [lastFin]
structure Best (ps : List Pk) (keys : List Int) (out : List Sn) (t : Int) (b : Nat) : Prop where
 undone : Undone ps.length out b
 came : tickOf ps b ≤ t
 least : ∀ i, Undone ps.length out i → tickOf ps i ≤ t → keys.getD b 0 < keys.getD i 0 ∨ (keys.getD b 0 = keys.getD i 0 ∧ b ≤ i)
def Tick (ps : List Pk) (out : List Sn) (t : Int) : Prop :=
 (t = lastFin out ∧ ∃ i, Undone ps.length out i ∧ tickOf ps i ≤ t) ∨
 ((∀ i, Undone ps.length out i → lastFin out < tickOf ps i) ∧ ∃ i, Undone ps.length out i ∧ t = tickOf ps i ∧ ∀ k, Undone ps.length out k → tickOf ps i ≤ tickOf ps k)
def IsNext (per : Int) (ps : List Pk) (keys : List Int) (out : List Sn) (x : Sn) : Prop := ∃ t b, Tick ps out t ∧ Best ps keys out t b ∧ x = ⟨b, t, t + per * bytesOf ps b⟩
def Sched (per : Int) (ps : List Pk) (keys : List Int) (out : List Sn) : Prop := ∀ k x, out[k]? = some x → IsNext per ps keys (out.take k) x
theorem Sched.nil (per : Int) (ps : List Pk) (keys : List Int) : Sched per ps keys [] := fun k x h => by simp at h
theorem Sched.snoc {per : Int} {ps : List Pk} {keys : List Int} {out : List Sn} {x : Sn} (h : Sched per ps keys out) (hx : IsNext per ps keys out x) : Sched per ps keys (out ++ [x]) := by
 intro k y hk
 have hl := lt_of_get hk
 rw [List.length_append, List.length_cons, List.length_nil] at hl
 rcases Nat.lt_or_ge k out.length with h1 | h1
 ·
  rw [List.getElem?_append_left h1] at hk
  rw [List.take_append_of_le_length (by omega)]
  exact h k y hk
 ·
  obtain rfl : k = out.length := by omega
  rw [List.getElem?_append_right (Nat.le_refl _)] at hk
  simp at hk
  subst hk
  rw [List.take_append_of_le_length (Nat.le_refl _), List.take_length]
  exact hx
theorem undone_lind {per : Int} {ps : List Pk} {j i : Nat} : Undone ps.length (lindAll per ps j) i ↔ i < ps.length ∧ j ≤ i := by
 unfold Undone
 constructor
 ·
  rintro ⟨h1, h2⟩
  refine ⟨h1, ?_⟩
  rcases Nat.lt_or_ge i j with h | h
  ·
   have hm : lind per ps i ∈ lindAll per ps j := List.mem_map.2 ⟨i, List.mem_range.2 h, rfl⟩
   exact absurd rfl (h2 _ hm)
  · exact h
 ·
  rintro ⟨h1, h2⟩
  refine ⟨h1, fun x hx => ?_⟩
  obtain ⟨k, hk, rfl⟩ := List.mem_map.1 hx
  have := List.mem_range.1 hk
  simp only [lind]
  omega
theorem lastFin_lind (per : Int) (ps : List Pk) : ∀ j, lastFin (lindAll per ps j) = lto per ps j
 | 0 => rfl
 | j + 1 => by rw [lindAll_succ, lastFin_snoc]; rfl
theorem lind_sched {per : Int} {ps : List Pk} (ho : OkPks ps) (keys : List Int) (hk : ∀ i, keys.getD i 0 = 0) : Sched per ps keys (lindAll per ps ps.length) := by
 intro k x hx
 have hkl := lt_of_get hx
 rw [lindAll_length] at hkl
 rw [lindAll_get hkl] at hx
 have hx := Option.some.inj hx
 subst hx
 rw [lindAll_take (by omega)]
 refine ⟨max (lto per ps k) (tickOf ps k), k, ?_, ⟨undone_lind.2 ⟨hkl, Nat.le_refl _⟩, by omega, fun i hi _ => .inr ⟨by rw [hk, hk], (undone_lind.1 hi).2⟩⟩, ?_⟩
 ·
  by_cases h : tickOf ps k ≤ lto per ps k
  · exact .inl ⟨by rw [lastFin_lind]; omega, k, undone_lind.2 ⟨hkl, Nat.le_refl _⟩, by omega⟩
  ·
   refine .inr ⟨fun i hi => ?_, k, undone_lind.2 ⟨hkl, Nat.le_refl _⟩, by omega, fun i hi => ?_⟩
   ·
    rw [lastFin_lind]
    have := undone_lind.1 hi
    have := ticks_le ho this.2 this.1
    omega
   ·
    have := undone_lind.1 hi
    exact ticks_le ho this.2 this.1
 · simp only [lind, lto]
end Go.Proofs.YtibhkijaafdkoaaGreatDoor

namespace Go.Proofs.YtibhkijaafdkoaaGreatDoor
def named (n : Nat) (x : Sn) : Bool := decide (0 ≤ x.num ∧ x.num < n)
theorem named_true {n : Nat} {x : Sn} (h : named n x = true) : 0 ≤ x.num ∧ x.num < n := of_decide_eq_true h
theorem named_false {n : Nat} {x : Sn} (h : named n x = false) : x.num < 0 ∨ (¬ x.num < 0 ∧ (n : Int) ≤ x.num) := by
 have : ¬ (0 ≤ x.num ∧ x.num < n) := of_decide_eq_false h
 omega
end Go.Proofs.YtibhkijaafdkoaaGreatDoor

namespace Go.Proofs.YtibhkijaafdkoaaGreatDoor
def isDone (out : List Sn) (i : Nat) : Bool := out.any fun x => x.num == (i : Int)
theorem isDone_false {out : List Sn} {i : Nat} : isDone out i = false ↔ ∀ x ∈ out, x.num ≠ (i : Int) := by simp [isDone]
theorem isDone_snoc (out : List Sn) (b i : Nat) (f t : Int) : isDone (out ++ [⟨b, f, t⟩]) i = (isDone out i || b == i) := by
 simp only [isDone, List.any_append, List.any_cons, List.any_nil, Bool.or_false]
 have e : ((b : Int) == (i : Int)) = (b == i) := by
  by_cases h : b = i
  · subst h; rw [beq_self_eq_true, beq_self_eq_true]
  ·
   have h' : (b : Int) ≠ (i : Int) := by omega
   rw [beq_eq_false_iff_ne.2 h', beq_eq_false_iff_ne.2 h]
 rw [e]
theorem undone_iff {n : Nat} {out : List Sn} {i : Nat} : Undone n out i ↔ i < n ∧ isDone out i = false := by simp [Undone, isDone_false]
structure Seeks (per : Int) (ps : List Pk) (keys : List Int) (out : List Sn) (t : Int) (f : Nat) : Prop where
 sched : Sched per ps keys out
 len : out.length ≤ ps.length
 tick : (f = 1 ∧ t = lastFin out) ∨ (f = 0 ∧ (∀ i, Undone ps.length out i → lastFin out < tickOf ps i) ∧ ∃ i, Undone ps.length out i ∧ t = tickOf ps i ∧ ∀ k, Undone ps.length out k → tickOf ps i ≤ tickOf ps k)
 low : 0 ≤ t
 high : t ≤ 1099511627776 + 1500000 * out.length
section
end
end Go.Proofs.YtibhkijaafdkoaaGreatDoor

namespace Go.Proofs.YtibhkijaafdkoaaGreatDoor
structure PickLaw {σ : Type} (Q : Que σ) (keys : List Int) (q0 : σ) (ok : σ → Prop) (items : σ → List Nat) : Prop where
 start : ok q0 ∧ items q0 = []
 rest : ∀ q, ok q → Q.rest q = (items q).length
 come : ∀ q k, ok q → (∀ i, i ∈ items q → i < k) → ok (Q.come q k) ∧ (items (Q.come q k)).length = (items q).length + 1 ∧ ∀ i, i ∈ items (Q.come q k) ↔ i ∈ items q ∨ i = k
 idle : ∀ q, ok q → Q.rest q = 0 → ok (Q.idle q) ∧ items (Q.idle q) = items q
 left : ∀ q, ok q → 0 < (items q).length → ok (Q.left q) ∧ (items (Q.left q)).length + 1 = (items q).length ∧ ∀ i, i ∈ items (Q.left q) ↔ i ∈ items q ∧ i ≠ Q.pick q
 pick : ∀ q, ok q → 0 < (items q).length → Q.pick q ∈ items q ∧ ∀ i, i ∈ items q → keys.getD (Q.pick q) 0 < keys.getD i 0 ∨ (keys.getD (Q.pick q) 0 = keys.getD i 0 ∧ Q.pick q ≤ i)
structure Ranked {σ : Type} (ok : σ → Prop) (items : σ → List Nat) (per : Int) (ps : List Pk) (keys : List Int) (s : St σ) : Prop where
 good : ok s.q
 sched : Sched per ps keys s.out
 wait : ∀ i, i ∈ items s.q ↔ i < s.next ∧ isDone s.out i = false
 sent : ∀ i : Nat, isDone s.out i = true → i < s.next
 came : ∀ i, i < s.next → tickOf ps i ≤ s.now
 le : s.next ≤ ps.length
 now : s.now = lastFin s.out ∨ ((∀ i, Undone ps.length s.out i → lastFin s.out < tickOf ps i) ∧ ∃ i, Undone ps.length s.out i ∧ s.now = tickOf ps i ∧ ∀ k, Undone ps.length s.out k → tickOf ps i ≤ tickOf ps k)
theorem ranked {σ : Type} {Q : Que σ} {keys : List Int} {q0 : σ} {ok : σ → Prop} {items : σ → List Nat} {per : Int} {ps : List Pk} {s : St σ} (hQ : PickLaw Q keys q0 ok items) (hper : 0 ≤ per) (ho : OkPks ps) (h : Reaches Q per ps q0 s) : Ranked ok items per ps keys s := by
 refine h.by_steps (C := fun s => Ranked ok items per ps keys s) ?_ ?_ ?_ ?_
 ·
  refine ⟨hQ.start.1, Sched.nil _ _ _, fun i => ?_, fun i h => ?_, fun i h => ?_, Nat.zero_le _, .inl rfl⟩
  ·
   simp only [hQ.start.2]
   constructor
   · intro h; cases h
   · rintro ⟨h, -⟩; exact absurd h (Nat.not_lt_zero _)
  · simp [isDone] at h
  · exact absurd h (Nat.not_lt_zero _)
 ·
  intro s p _ hp ht ih
  have hn : ∀ i, i ∈ items s.q → i < s.next := fun i hm => ((ih.wait _).1 hm).1
  obtain ⟨c1, -, c3⟩ := hQ.come s.q s.next ih.good hn
  have hlt := lt_of_get hp
  refine ⟨c1, ih.sched, fun i => ?_, fun i hi => Nat.lt_succ_of_lt (ih.sent i hi), fun i hi => ?_, hlt, ih.now⟩
  ·
   rw [c3, ih.wait]
   simp only
   constructor
   ·
    rintro (⟨a, b⟩ | rfl)
    · exact ⟨by omega, b⟩
    ·
     refine ⟨by omega, ?_⟩
     cases hd : isDone s.out s.next with
     | false => rfl
     | true => have := ih.sent _ hd; omega
   ·
    rintro ⟨a, b⟩
    rcases Nat.lt_or_ge i s.next with h' | h'
    · exact .inl ⟨h', b⟩
    · exact .inr (by omega)
  ·
   simp only at hi ⊢
   rcases Nat.lt_or_ge i s.next with h' | h'
   · exact ih.came i h'
   ·
    obtain rfl : i = s.next := by omega
    rw [tickOf_get hp]; exact ht
 ·
  intro s p _ hall h0 hp ih
  rw [hQ.rest _ ih.good] at h0
  obtain ⟨l1, -, l3⟩ := hQ.left s.q ih.good h0
  obtain ⟨p1, p2⟩ := hQ.pick s.q ih.good h0
  obtain ⟨w1, w2⟩ := (ih.wait _).1 p1
  have hle := ih.le
  have hcome : ∀ i, Undone ps.length s.out i → tickOf ps i ≤ s.now → i ∈ items s.q := by
   intro i hi ht
   obtain ⟨u1, u2⟩ := undone_iff.1 hi
   refine (ih.wait i).2 ⟨?_, u2⟩
   rcases Nat.lt_or_ge i s.next with h' | h'
   · exact h'
   ·
    have hnl : s.next < ps.length := by omega
    have e : ps[s.next]? = some ps[s.next] := List.getElem?_eq_getElem hnl
    have a1 := hall _ e
    have a2 := ticks_le ho h' u1
    rw [tickOf_get e] at a2
    omega
  have hbest : Best ps keys s.out s.now (Q.pick s.q) := ⟨undone_iff.2 ⟨by omega, w2⟩, ih.came _ w1, fun i hi ht => p2 i (hcome i hi ht)⟩
  have htick : Tick ps s.out s.now := by
   rcases ih.now with e | ⟨e1, e2⟩
   · exact .inl ⟨e, _, hbest.undone, hbest.came⟩
   · exact .inr ⟨e1, e2⟩
  have hpos : 0 ≤ per * p.size := Int.mul_nonneg hper (by have := okPk_true (ho.each _ p hp).1; omega)
  refine ⟨l1, ih.sched.snoc ⟨s.now, Q.pick s.q, htick, hbest, by rw [bytesOf_get hp]⟩, fun i => ?_, fun i hi => ?_, fun i hi => ?_, ih.le, .inl (by rw [lastFin_snoc])⟩
  ·
   rw [l3, ih.wait]
   simp only
   rw [isDone_snoc]
   constructor
   ·
    rintro ⟨⟨a, b⟩, c⟩
    refine ⟨a, ?_⟩
    rw [b, Bool.false_or]
    exact beq_eq_false_iff_ne.2 (fun e => c e.symm)
   ·
    rintro ⟨a, b⟩
    rw [Bool.or_eq_false_iff] at b
    exact ⟨⟨a, b.1⟩, fun e => beq_eq_false_iff_ne.1 b.2 e.symm⟩
  ·
   simp only at hi ⊢
   rw [isDone_snoc, Bool.or_eq_true] at hi
   rcases hi with hi | hi
   · exact ih.sent i hi
   ·
    have := beq_iff_eq.1 hi
    omega
  ·
   have := ih.came i hi
   simp only
   omega
 ·
  intro s p _ hp ht h0 ih
  rw [hQ.rest _ ih.good] at h0
  have hnone : items s.q = [] := List.length_eq_zero_iff.1 h0
  have hge : ∀ i, Undone ps.length s.out i → s.next ≤ i := by
   intro i hi
   rcases Nat.lt_or_ge i s.next with h' | h'
   ·
    have := (ih.wait i).2 ⟨h', (undone_iff.1 hi).2⟩
    rw [hnone] at this; cases this
   · exact h'
  have hmin : ∀ i, Undone ps.length s.out i → p.tick ≤ tickOf ps i := by
   intro i hi
   have := ticks_le ho (hge i hi) (undone_iff.1 hi).1
   rwa [tickOf_get hp] at this
  have hnow : s.now = lastFin s.out := by
   rcases ih.now with e | ⟨-, i, hi, e, -⟩
   · exact e
   ·
    have := hmin i hi
    omega
  have hund : Undone ps.length s.out s.next := by
   refine undone_iff.2 ⟨lt_of_get hp, ?_⟩
   cases hd : isDone s.out s.next with
   | false => rfl
   | true => have := ih.sent _ hd; omega
  obtain ⟨i1, i2⟩ := hQ.idle s.q ih.good (by rw [hQ.rest _ ih.good]; exact h0)
  refine ⟨i1, ih.sched, fun i => by rw [i2]; exact ih.wait i, ih.sent, fun i hi => ?_, ih.le, .inr ⟨fun i hi => ?_, s.next, hund, (tickOf_get hp).symm, fun k hk => ?_⟩⟩
  ·
   have := ih.came i hi
   simp only
   omega
  ·
   have := hmin i hi
   show lastFin s.out < _
   omega
  ·
   rw [tickOf_get hp]
   exact hmin k hk
theorem ranked_law {σ : Type} {Q : Que σ} {keys : List Int} {q0 : σ} {ok : σ → Prop} {items : σ → List Nat} {per : Int} {ps : List Pk} (hQ : PickLaw Q keys q0 ok items) (hper : 0 ≤ per) (ho : OkPks ps) : QueLaw Q per ps q0 where
 none := by rw [hQ.rest _ hQ.start.1, hQ.start.2]; rfl
 come := fun s hs _ => by
  have r := ranked hQ hper ho hs
  have hn : ∀ i, i ∈ items s.q → i < s.next := fun i hm => ((r.wait _).1 hm).1
  obtain ⟨c1, c2, -⟩ := hQ.come s.q s.next r.good hn
  rw [hQ.rest _ c1, hQ.rest _ r.good, c2]
 left := fun s hs h => by
  have r := ranked hQ hper ho hs
  rw [hQ.rest _ r.good] at h ⊢
  obtain ⟨l1, l2, -⟩ := hQ.left s.q r.good h
  rw [hQ.rest _ l1, l2]
 pick := fun s hs h => by
  have r := ranked hQ hper ho hs
  rw [hQ.rest _ r.good] at h
  exact ((r.wait _).1 (hQ.pick s.q r.good h).1).1
 idle := fun s hs h => by
  have r := ranked hQ hper ho hs
  obtain ⟨i1, i2⟩ := hQ.idle s.q r.good h
  rw [hQ.rest _ i1, i2, ← hQ.rest _ r.good]
  exact h
theorem ranked_end {σ : Type} {Q : Que σ} {keys : List Int} {q0 : σ} {ok : σ → Prop} {items : σ → List Nat} {per : Int} {ps : List Pk} {s : St σ} (hQ : PickLaw Q keys q0 ok items) (hper : 0 ≤ per) (ho : OkPks ps) (h : Reaches Q per ps q0 s) (hn : ¬ s.next < ps.length) (hr : Q.rest s.q = 0) : Sched per ps keys s.out ∧ s.out.length = ps.length := by
 have r := ranked hQ hper ho h
 have hc := h.count (ranked_law hQ hper ho)
 have := r.le
 exact ⟨r.sched, by omega⟩
end Go.Proofs.YtibhkijaafdkoaaGreatDoor
