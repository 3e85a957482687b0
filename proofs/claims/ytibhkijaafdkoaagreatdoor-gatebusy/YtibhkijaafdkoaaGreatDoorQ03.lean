/- Own facts, put together: no statement of its own. -/
import Derived.Test.YtibhkijaafdkoaaGreatDoorQ02
namespace Go.Proofs.YtibhkijaafdkoaaGreatDoor
structure Bk where
 most : Int
 rate : Int
 has : Int
 last : Int
structure Bk.Ok (b : Bk) : Prop where
 m0 : 1000 ≤ b.most
 m1 : b.most ≤ 20000000
 r0 : 0 ≤ b.rate
 r1 : b.rate ≤ 100000
 h0 : 0 ≤ b.has
 h1 : b.has ≤ b.most
 l0 : 0 ≤ b.last
 l1 : b.last ≤ 1099511627776
def Bk.lev (b : Bk) (t : Int) : Int := min b.most (b.has + b.rate * (t - b.last))
def Bk.take (b : Bk) (t n : Int) : Bk := if n * 1000 ≤ b.lev t then ⟨b.most, b.rate, b.lev t - n * 1000, t⟩ else ⟨b.most, b.rate, b.lev t, t⟩
def Bk.when (b : Bk) (t n : Int) : Option Int :=
 if n * 1000 ≤ b.lev t then some t
 else if b.most < n * 1000 ∨ b.rate = 0 then none
 else if 1099511627776 - t < (n * 1000 - b.lev t + b.rate - 1) / b.rate then none
 else some (t + (n * 1000 - b.lev t + b.rate - 1) / b.rate)
def tickErr (last t : Int) : Nat := if 0 ≤ t ∧ t ≤ 1099511627776 then (if t < last then 5 else 0) else 2
def askErr (last t n : Int) : Nat := if 1 ≤ n ∧ n ≤ 1500 then tickErr last t else 2
theorem tickErr_ok {last t : Int} : tickErr last t = 0 ↔ 0 ≤ t ∧ t ≤ 1099511627776 ∧ last ≤ t := by unfold tickErr; split <;> (try split) <;> simp <;> omega
theorem askErr_ok {last t n : Int} : askErr last t n = 0 ↔ 1 ≤ n ∧ n ≤ 1500 ∧ 0 ≤ t ∧ t ≤ 1099511627776 ∧ last ≤ t := by unfold askErr; split <;> simp [tickErr_ok] <;> omega
def bkOf (p : Int × Int) : Bk := ⟨p.1 * 1000, p.2, p.1 * 1000, 0⟩
theorem bkOf_ok {p : Int × Int} (h : okLine p.1 p.2 = true) : (bkOf p).Ok := by
 obtain ⟨a, b, c, d⟩ := okLine_true h
 constructor <;> simp [bkOf] <;> omega
theorem mul_split (r a b c : Int) : r * (a - c) = r * (b - c) + r * (a - b) := by
 simp only [Int.mul_sub]; omega
theorem Bk.Ok.grow {b : Bk} (h : b.Ok) {t : Int} (ht : b.last ≤ t) (t1 : t ≤ 1099511627776) : 0 ≤ b.rate * (t - b.last) ∧ b.rate * (t - b.last) ≤ 109951162777600000 :=
 mul_bd h.r0 h.r1 (by omega) (by have := h.l0; omega)
theorem Bk.Ok.lev_bd {b : Bk} (h : b.Ok) {t : Int} (ht : b.last ≤ t) : 0 ≤ b.lev t ∧ b.lev t ≤ b.most := by
 have := Int.mul_nonneg h.r0 (show 0 ≤ t - b.last by omega)
 have := h.h0; have := h.h1; have := h.m0
 unfold Bk.lev; omega
theorem Bk.lev_mono {b : Bk} (h : 0 ≤ b.rate) {s t : Int} (hs : s ≤ t) : b.lev s ≤ b.lev t := by
 have := mul_split b.rate t s b.last
 have := Int.mul_nonneg h (show 0 ≤ t - s by omega)
 unfold Bk.lev; omega
theorem Bk.Ok.take {b : Bk} (h : b.Ok) {t n : Int} (ht : b.last ≤ t) (t1 : t ≤ 1099511627776) (hn : 0 ≤ n) : (b.take t n).Ok := by
 have := h.lev_bd ht
 have := h.l0
 unfold Bk.take
 split <;> exact ⟨h.m0, h.m1, h.r0, h.r1, by simp; omega, by simp; omega, by simp; omega, by simp; omega⟩
theorem Bk.take_last (b : Bk) (t n : Int) : (b.take t n).last = t := by unfold Bk.take; split <;> rfl
theorem div_up {r x : Int} (hr : 0 < r) : x ≤ r * ((x + r - 1) / r) ∧ r * ((x + r - 1) / r) < x + r := by
 have h1 := Int.mul_ediv_add_emod (x + r - 1) r
 have h2 := Int.emod_nonneg (x + r - 1) (show r ≠ 0 by omega)
 have h3 := Int.emod_lt_of_pos (x + r - 1) hr
 omega
theorem Bk.when_some {b : Bk} (h : b.Ok) {t n T : Int} (t1 : t ≤ 1099511627776) (e : b.when t n = some T) :
  t ≤ T ∧ T ≤ 1099511627776 ∧ n * 1000 ≤ b.lev T ∧ ∀ s, t ≤ s → s < T → b.lev s < n * 1000 := by
 unfold Bk.when at e
 split at e
 ·
  rename_i h1
  cases e
  exact ⟨Int.le_refl _, t1, h1, fun s h2 h3 => by omega⟩
 ·
  rename_i h1
  split at e
  · cases e
  ·
   rename_i h2
   split at e
   · cases e
   ·
    rename_i h3
    have hr : 0 < b.rate := by have := h.r0; omega
    have hd := div_up (r := b.rate) (x := n * 1000 - b.lev t) hr
    have hm : ¬ b.most < n * 1000 := fun h => h2 (.inl h)
    generalize hk : (n * 1000 - b.lev t + b.rate - 1) / b.rate = k at e h3 hd
    cases e
    have hk0 : 0 < k := by
     by_cases h0 : 0 < k
     · exact h0
     ·
      have := Int.mul_le_mul_of_nonneg_left (show k ≤ 0 by omega) h.r0
      simp at this; omega
    have hlt : b.lev t = b.has + b.rate * (t - b.last) := by unfold Bk.lev at h1 ⊢; omega
    have hT := mul_split b.rate (t + k) t b.last
    rw [show t + k - t = k by omega] at hT
    refine ⟨by omega, by omega, ?_, fun s h4 h5 => ?_⟩
    · unfold Bk.lev; omega
    ·
     have hS := mul_split b.rate s t b.last
     have h6 : b.rate * (s - t) ≤ b.rate * (k - 1) := Int.mul_le_mul_of_nonneg_left (by omega) h.r0
     have h7 : b.rate * (k - 1) = b.rate * k - b.rate := by simp [Int.mul_sub]
     unfold Bk.lev; omega
end Go.Proofs.YtibhkijaafdkoaaGreatDoor

namespace Go.Proofs.YtibhkijaafdkoaaGreatDoor
structure Pk where
 flow : Int
 size : Int
 tick : Int
def okPk (p : Pk) : Bool := decide (0 ≤ p.flow ∧ p.flow < 8 ∧ 1 ≤ p.size ∧ p.size ≤ 1500 ∧ 0 ≤ p.tick ∧ p.tick ≤ 1099511627776)
theorem okPk_true {p : Pk} (h : okPk p = true) : 0 ≤ p.flow ∧ p.flow < 8 ∧ 1 ≤ p.size ∧ p.size ≤ 1500 ∧ 0 ≤ p.tick ∧ p.tick ≤ 1099511627776 := of_decide_eq_true h
theorem okPk_mk {p : Pk} (h : 0 ≤ p.flow ∧ p.flow < 8 ∧ 1 ≤ p.size ∧ p.size ≤ 1500 ∧ 0 ≤ p.tick ∧ p.tick ≤ 1099511627776) : okPk p = true := decide_eq_true h
def ahead (ps : List Pk) : Nat → Int
 | 0 => 0
 | i + 1 => match ps[i]? with | some p => p.tick | none => 0
structure OkPks (ps : List Pk) : Prop where
 few : ps.length ≤ 300
 each : ∀ i p, ps[i]? = some p → okPk p = true ∧ ahead ps i ≤ p.tick
theorem okPks_none : OkPks [] := ⟨by simp, fun i p h => by simp at h⟩
def total : List Pk → Int
 | [] => 0
 | p :: r => p.size + total r
theorem total_snoc (ps : List Pk) (p : Pk) : total (ps ++ [p]) = total ps + p.size := by
 induction ps with
 | nil => simp [total]
 | cons q r ih => simp [total, ih]; omega
def ends : List Pk → List (Int × Int)
 | [] => []
 | p :: r => (p.tick, total (p :: r)) :: ends r
theorem ends_snoc (ps : List Pk) (p : Pk) (a s : Int) : (a, s) ∈ ends (ps ++ [p]) ↔ (a, s - p.size) ∈ ends ps ∨ (a = p.tick ∧ s = p.size) := by
 induction ps with
 | nil => simp [ends, total]
 | cons q r ih =>
  show (a, s) ∈ (q.tick, total (q :: (r ++ [p]))) :: ends (r ++ [p]) ↔ (a, s - p.size) ∈ (q.tick, total (q :: r)) :: ends r ∨ _
  have ht : total (q :: (r ++ [p])) = total (q :: r) + p.size := total_snoc (q :: r) p
  simp only [List.mem_cons, Prod.mk.injEq, ht, ih]
  constructor
  ·
   rintro (⟨h1, h2⟩ | h | h)
   · exact .inl (.inl ⟨h1, by omega⟩)
   · exact .inl (.inr h)
   · exact .inr h
  ·
   rintro ((⟨h1, h2⟩ | h) | h)
   · exact .inl ⟨h1, by omega⟩
   · exact .inr (.inl h)
   · exact .inr (.inr h)
def lastFits (ls : List (Int × Int)) (ps : List Pk) (p : Pk) : Prop := ∀ a s, (a, s) ∈ ends (ps ++ [p]) → s ≤ curveAt (p.tick - a) ls
def startB (ls : List (Int × Int)) (a c : Int) : List Pk → Bool
 | [] => true
 | p :: r => decide (c + p.size ≤ curveAt (p.tick - a) ls) && startB ls a (c + p.size) r
def fitsB (ls : List (Int × Int)) : List Pk → Bool
 | [] => true
 | p :: r => startB ls p.tick 0 (p :: r) && fitsB ls r
theorem startB_snoc (ls : List (Int × Int)) (a : Int) (ps : List Pk) (p : Pk) : ∀ c, startB ls a c (ps ++ [p]) = true ↔ startB ls a c ps = true ∧ c + total (ps ++ [p]) ≤ curveAt (p.tick - a) ls := by
 induction ps with
 | nil => intro c; simp [startB, total]
 | cons q r ih =>
  intro c
  have ht : total (q :: r ++ [p]) = q.size + total (r ++ [p]) := rfl
  simp only [List.cons_append, startB, Bool.and_eq_true, ih] at *
  rw [ht, Int.add_assoc, and_assoc]
theorem fitsB_snoc (ls : List (Int × Int)) (ps : List Pk) (p : Pk) : fitsB ls (ps ++ [p]) = true ↔ fitsB ls ps = true ∧ lastFits ls ps p := by
 induction ps with
 | nil => simp [fitsB, startB, lastFits, ends, total]
 | cons q r ih =>
  have h1 := startB_snoc ls q.tick (q :: r) p 0
  simp only [List.cons_append] at h1
  simp only [List.cons_append, fitsB, Bool.and_eq_true, h1, ih]
  have h2 : lastFits ls (q :: r) p ↔ 0 + total (q :: (r ++ [p])) ≤ curveAt (p.tick - q.tick) ls ∧ lastFits ls r p := by
   show (∀ a s, (a, s) ∈ (q.tick, total (q :: (r ++ [p]))) :: ends (r ++ [p]) → _) ↔ _
   simp only [List.mem_cons, Prod.mk.injEq, Int.zero_add]
   constructor
   ·
    intro h
    exact ⟨h _ _ (.inl ⟨rfl, rfl⟩), fun a s hm => h a s (.inr hm)⟩
   ·
    rintro ⟨h, h'⟩ a s (⟨rfl, rfl⟩ | hm)
    · exact h
    · exact h' a s hm
  rw [h2]
  exact ⟨fun ⟨⟨a, b⟩, c, d⟩ => ⟨⟨a, c⟩, b, d⟩, fun ⟨⟨a, c⟩, b, d⟩ => ⟨⟨a, b⟩, c, d⟩⟩
theorem le_curveAt (t s : Int) (ls : List (Int × Int)) (h : 1 ≤ ls.length) : s ≤ curveAt t ls ↔ ∀ p, p ∈ ls → s ≤ lineAt t p.1 p.2 := by
 constructor
 ·
  intro hs p hp
  have := curveAt_le t ls p hp
  omega
 ·
  intro hs
  obtain ⟨p, hp, e⟩ := curveAt_is t ls h
  rw [e]
  exact hs p hp
theorem lastFits_lines (ls : List (Int × Int)) (h : 1 ≤ ls.length) (ps : List Pk) (p : Pk) : lastFits ls ps p ↔ ∀ q, q ∈ ls → lastFits [q] ps p := by
 have h1 : ∀ q : Int × Int, ∀ t s, s ≤ curveAt t [q] ↔ s ≤ lineAt t q.1 q.2 := fun q t s => by simp [curveAt, leastAt]
 simp only [lastFits, le_curveAt _ _ ls h, h1]
 exact ⟨fun H q hq a s hm => H a s hm q hq, fun H a s hm q hq => H q hq a s hm⟩
structure Passed (q : Int × Int) (ps : List Pk) (b : Bk) : Prop where
 most : b.most = q.1 * 1000
 rate : b.rate = q.2
 lev : ∀ t v, b.last ≤ t → (v ≤ b.lev t ↔ v ≤ q.1 * 1000 ∧ ∀ a s, (a, s) ∈ ends ps → v + s * 1000 ≤ q.1 * 1000 + q.2 * (t - a))
theorem passed_none (q : Int × Int) (h : 0 ≤ q.2) : Passed q [] (bkOf q) := by
 refine ⟨rfl, rfl, fun t v ht => ?_⟩
 have := Int.mul_nonneg h (show 0 ≤ t - 0 by simpa [bkOf] using ht)
 simp only [Bk.lev, bkOf, ends] at *
 constructor
 · intro hv; exact ⟨by omega, fun a s hm => by cases hm⟩
 · intro hv; omega
theorem Passed.fits {q : Int × Int} {ps : List Pk} {b : Bk} (h : Passed q ps b) (p : Pk) (hp : b.last ≤ p.tick) : p.size * 1000 ≤ b.lev p.tick ↔ lastFits [q] ps p := by
 rw [h.lev _ _ hp]
 have h1 : ∀ t s, s ≤ curveAt t [q] ↔ s * 1000 ≤ q.1 * 1000 + q.2 * t := fun t s => by simp [curveAt, leastAt, lineAt]; omega
 simp only [lastFits, h1, ends_snoc]
 constructor
 ·
  rintro ⟨h2, h3⟩ a s (hm | ⟨rfl, rfl⟩)
  · have := h3 a _ hm; omega
  · simp; omega
 ·
  intro H
  refine ⟨by have := H p.tick p.size (.inr ⟨rfl, rfl⟩); simp at this; omega, fun a s hm => ?_⟩
  have := H a (s + p.size) (.inl (by simpa using hm))
  omega
theorem Passed.pass {q : Int × Int} {ps : List Pk} {b : Bk} (h : Passed q ps b) (r0 : 0 ≤ b.rate) (p : Pk) (ht : b.last ≤ p.tick) (hn : p.size * 1000 ≤ b.lev p.tick) : Passed q (ps ++ [p]) (b.take p.tick p.size) := by
 have e : b.take p.tick p.size = ⟨b.most, b.rate, b.lev p.tick - p.size * 1000, p.tick⟩ := by unfold Bk.take; rw [if_pos hn]
 refine ⟨by rw [e]; exact h.most, by rw [e]; exact h.rate, fun s v hs => ?_⟩
 rw [e] at hs ⊢
 simp only at hs
 have h2 := Int.mul_nonneg r0 (show 0 ≤ s - p.tick by omega)
 have hl := h.lev p.tick (v + p.size * 1000 - b.rate * (s - p.tick)) ht
 have hm := h.most
 have hr := h.rate
 have key : v ≤ (Bk.mk b.most b.rate (b.lev p.tick - p.size * 1000) p.tick).lev s ↔ v ≤ b.most ∧ v + p.size * 1000 - b.rate * (s - p.tick) ≤ b.lev p.tick := by simp only [Bk.lev]; omega
 rw [key, hl, hm, hr]
 simp only [ends_snoc]
 constructor
 ·
  rintro ⟨h3, h4, h5⟩
  refine ⟨h3, fun a z hz => ?_⟩
  rcases hz with hz | ⟨rfl, rfl⟩
  ·
   have := h5 a _ hz
   have := mul_split q.2 s p.tick a
   omega
  · omega
 ·
  rintro ⟨h3, h4⟩
  refine ⟨h3, ?_, fun a z hz => ?_⟩
  · have := h4 p.tick p.size (.inr ⟨rfl, rfl⟩); omega
  ·
   have := h4 a (z + p.size) (.inl (by simpa using hz))
   have := mul_split q.2 s p.tick a
   omega
end Go.Proofs.YtibhkijaafdkoaaGreatDoor

namespace Go.Proofs.YtibhkijaafdkoaaGreatDoor
structure Sn where
 num : Int
 beg : Int
 fin : Int
structure Que (σ : Type) where
 come : σ → Nat → σ
 pick : σ → Nat
 left : σ → σ
 rest : σ → Nat
 idle : σ → σ := fun q => q
structure St (σ : Type) where
 out : List Sn
 now : Int
 next : Nat
 q : σ
structure Steps {σ : Type} (Q : Que σ) (per : Int) (ps : List Pk) (q0 : σ) (C : St σ → Prop) : Prop where
 start : C ⟨[], 0, 0, q0⟩
 come : ∀ s p, C s → ps[s.next]? = some p → p.tick ≤ s.now → C ⟨s.out, s.now, s.next + 1, Q.come s.q s.next⟩
 send : ∀ s p, C s → (∀ r, ps[s.next]? = some r → s.now < r.tick) → 0 < Q.rest s.q → ps[Q.pick s.q]? = some p → C ⟨s.out ++ [⟨Q.pick s.q, s.now, s.now + per * p.size⟩], s.now + per * p.size, s.next, Q.left s.q⟩
 idle : ∀ s p, C s → ps[s.next]? = some p → s.now < p.tick → Q.rest s.q = 0 → C ⟨s.out, p.tick, s.next, Q.idle s.q⟩
def Reaches {σ : Type} (Q : Que σ) (per : Int) (ps : List Pk) (q0 : σ) (s : St σ) : Prop := ∀ C : St σ → Prop, Steps Q per ps q0 C → C s
section
variable {σ : Type} {Q : Que σ} {per : Int} {ps : List Pk} {q0 : σ}
theorem Reaches.start : Reaches Q per ps q0 ⟨[], 0, 0, q0⟩ := fun _ h => h.start
theorem Reaches.come (s : St σ) (p : Pk) (hs : Reaches Q per ps q0 s) (h1 : ps[s.next]? = some p) (h2 : p.tick ≤ s.now) : Reaches Q per ps q0 ⟨s.out, s.now, s.next + 1, Q.come s.q s.next⟩ :=
 fun C h => h.come s p (hs C h) h1 h2
theorem Reaches.send (s : St σ) (p : Pk) (hs : Reaches Q per ps q0 s) (h1 : ∀ r, ps[s.next]? = some r → s.now < r.tick) (h2 : 0 < Q.rest s.q) (h3 : ps[Q.pick s.q]? = some p) : Reaches Q per ps q0 ⟨s.out ++ [⟨Q.pick s.q, s.now, s.now + per * p.size⟩], s.now + per * p.size, s.next, Q.left s.q⟩ :=
 fun C h => h.send s p (hs C h) h1 h2 h3
theorem Reaches.idle (s : St σ) (p : Pk) (hs : Reaches Q per ps q0 s) (h1 : ps[s.next]? = some p) (h2 : s.now < p.tick) (h3 : Q.rest s.q = 0) : Reaches Q per ps q0 ⟨s.out, p.tick, s.next, Q.idle s.q⟩ :=
 fun C h => h.idle s p (hs C h) h1 h2 h3
theorem Reaches.by_steps {C : St σ → Prop} {s : St σ} (h : Reaches Q per ps q0 s) (h0 : C ⟨[], 0, 0, q0⟩)
  (h1 : ∀ s p, Reaches Q per ps q0 s → ps[s.next]? = some p → p.tick ≤ s.now → C s → C ⟨s.out, s.now, s.next + 1, Q.come s.q s.next⟩)
  (h2 : ∀ s p, Reaches Q per ps q0 s → (∀ r, ps[s.next]? = some r → s.now < r.tick) → 0 < Q.rest s.q → ps[Q.pick s.q]? = some p → C s → C ⟨s.out ++ [⟨Q.pick s.q, s.now, s.now + per * p.size⟩], s.now + per * p.size, s.next, Q.left s.q⟩)
  (h3 : ∀ s p, Reaches Q per ps q0 s → ps[s.next]? = some p → s.now < p.tick → Q.rest s.q = 0 → C s → C ⟨s.out, p.tick, s.next, Q.idle s.q⟩) : C s :=
 (h (fun s => Reaches Q per ps q0 s ∧ C s) ⟨⟨.start, h0⟩, fun s p hs a b => ⟨.come s p hs.1 a b, h1 s p hs.1 a b hs.2⟩, fun s p hs a b c => ⟨.send s p hs.1 a b c, h2 s p hs.1 a b c hs.2⟩, fun s p hs a b c => ⟨.idle s p hs.1 a b c, h3 s p hs.1 a b c hs.2⟩⟩).2
end
structure QueLaw {σ : Type} (Q : Que σ) (per : Int) (ps : List Pk) (q0 : σ) : Prop where
 none : Q.rest q0 = 0
 come : ∀ s, Reaches Q per ps q0 s → s.next < ps.length → Q.rest (Q.come s.q s.next) = Q.rest s.q + 1
 left : ∀ s, Reaches Q per ps q0 s → 0 < Q.rest s.q → Q.rest (Q.left s.q) + 1 = Q.rest s.q
 pick : ∀ s, Reaches Q per ps q0 s → 0 < Q.rest s.q → Q.pick s.q < s.next
 idle : ∀ s, Reaches Q per ps q0 s → Q.rest s.q = 0 → Q.rest (Q.idle s.q) = 0
def Que.asked {σ : Type} (Q : Que σ) (q : σ) : σ := if Q.rest q = 0 then Q.idle q else q
theorem asked_same {σ : Type} (Q : Que σ) (h : ∀ q, Q.idle q = q) (q : σ) : Q.asked q = q := by
 unfold Que.asked
 split
 · exact h q
 · rfl
theorem lt_of_get {α : Type} {l : List α} {k : Nat} {x : α} (h : l[k]? = some x) : k < l.length := by
 rcases Nat.lt_or_ge k l.length with h' | h'
 · exact h'
 · simp [List.getElem?_eq_none h'] at h
section
variable {σ : Type} {Q : Que σ} {per : Int} {ps : List Pk} {q0 : σ} {s : St σ}
theorem Reaches.next_le (h : Reaches Q per ps q0 s) : s.next ≤ ps.length := by
 refine h.by_steps (C := fun s => s.next ≤ ps.length) (Nat.zero_le _) ?_ ?_ ?_
 ·
  intro s p _ hp _ _
  exact lt_of_get hp
 ·
  intro s p _ _ _ _ ih
  exact ih
 ·
  intro s p _ _ _ _ ih
  exact ih
theorem Reaches.count (hq : QueLaw Q per ps q0) (h : Reaches Q per ps q0 s) : s.out.length + Q.rest s.q = s.next := by
 refine h.by_steps (C := fun s => s.out.length + Q.rest s.q = s.next) (by simp [hq.none]) ?_ ?_ ?_
 ·
  intro s p hs hp _ ih
  have := hq.come s hs (lt_of_get hp)
  simp only
  omega
 ·
  intro s p hs _ h0 _ ih
  have := hq.left s hs h0
  simp only [List.length_append, List.length_cons, List.length_nil]
  omega
 ·
  intro s p hs _ _ h0 ih
  have := hq.idle s hs h0
  simp only
  omega
theorem Reaches.now_in (hper : 1 ≤ per ∧ per ≤ 1000) (ho : OkPks ps) (h : Reaches Q per ps q0 s) : 0 ≤ s.now ∧ s.now ≤ 1099511627776 + 1500000 * s.out.length := by
 refine h.by_steps (C := fun s => 0 ≤ s.now ∧ s.now ≤ 1099511627776 + 1500000 * s.out.length) ⟨Int.le_refl _, by simp⟩ ?_ ?_ ?_
 ·
  intro s p _ _ _ ih
  exact ih
 ·
  intro s p _ _ _ hp ih
  obtain ⟨-, -, h1, h2, -, -⟩ := okPk_true (ho.each _ p hp).1
  have a1 : 0 ≤ per * p.size := Int.mul_nonneg (by omega) (by omega)
  have a2 : per * p.size ≤ 1000 * 1500 := Int.mul_le_mul (by omega) h2 (by omega) (by omega)
  simp only [List.length_append, List.length_cons, List.length_nil]
  omega
 ·
  intro s p _ hp _ _ ih
  obtain ⟨-, -, -, -, h1, h2⟩ := okPk_true (ho.each _ p hp).1
  simp only
  omega
end
def tickOf (ps : List Pk) (j : Nat) : Int := match ps[j]? with | some p => p.tick | none => 0
def bytesOf (ps : List Pk) (j : Nat) : Int := match ps[j]? with | some p => p.size | none => 0
theorem tickOf_get {ps : List Pk} {j : Nat} {p : Pk} (h : ps[j]? = some p) : tickOf ps j = p.tick := by simp [tickOf, h]
theorem bytesOf_get {ps : List Pk} {j : Nat} {p : Pk} (h : ps[j]? = some p) : bytesOf ps j = p.size := by simp [bytesOf, h]
theorem ticks_rise {ps : List Pk} (ho : OkPks ps) : ∀ (d i : Nat), i + d < ps.length → tickOf ps i ≤ tickOf ps (i + d) := by
 intro d
 induction d with
 | zero => intro i _; exact Int.le_refl _
 | succ d ih =>
  intro i h
  have h1 := ih i (by omega)
  have e1 : ps[i + d]? = some ps[i + d] := List.getElem?_eq_getElem (by omega)
  have e2 : ps[i + d + 1]? = some ps[i + d + 1] := List.getElem?_eq_getElem (by omega)
  have h2 := (ho.each (i + d + 1) _ e2).2
  simp only [ahead, e1] at h2
  rw [tickOf_get e1] at h1
  rw [show i + (d + 1) = i + d + 1 by omega, tickOf_get e2]
  omega
theorem ticks_le {ps : List Pk} (ho : OkPks ps) {i k : Nat} (h : i ≤ k) (hk : k < ps.length) : tickOf ps i ≤ tickOf ps k := by
 have := ticks_rise ho (k - i) i (by omega)
 rwa [show i + (k - i) = k by omega] at this
end Go.Proofs.YtibhkijaafdkoaaGreatDoor
