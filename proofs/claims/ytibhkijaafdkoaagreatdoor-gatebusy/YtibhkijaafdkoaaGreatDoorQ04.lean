/- Own facts, put together: no statement of its own. -/
import Derived.Test.YtibhkijaafdkoaaGreatDoorQ03
namespace Go.Proofs.YtibhkijaafdkoaaGreatDoor
def lto (per : Int) (ps : List Pk) : Nat → Int
 | 0 => 0
 | j + 1 => max (lto per ps j) (tickOf ps j) + per * bytesOf ps j
def lind (per : Int) (ps : List Pk) (j : Nat) : Sn := ⟨j, max (lto per ps j) (tickOf ps j), lto per ps (j + 1)⟩
def lindAll (per : Int) (ps : List Pk) (j : Nat) : List Sn := (List.range j).map (lind per ps)
theorem lindAll_length (per : Int) (ps : List Pk) (j : Nat) : (lindAll per ps j).length = j := by simp [lindAll]
theorem lindAll_get {per : Int} {ps : List Pk} {j k : Nat} (h : k < j) : (lindAll per ps j)[k]? = some (lind per ps k) := by simp [lindAll, h]
theorem lindAll_succ (per : Int) (ps : List Pk) (j : Nat) : lindAll per ps (j + 1) = lindAll per ps j ++ [lind per ps j] := by simp [lindAll, List.range_succ]
theorem lindAll_take {per : Int} {ps : List Pk} {j k : Nat} (h : k ≤ j) : (lindAll per ps j).take k = lindAll per ps k := by
 rw [lindAll, ← List.map_take, List.take_range, Nat.min_eq_left h]; rfl
def fifoQ : Que (List Nat) := ⟨fun q k => q ++ [k], fun q => q.headD 0, fun q => q.tail, fun q => q.length, fun q => q⟩
structure InOrder (per : Int) (ps : List Pk) (s : St (List Nat)) (j : Nat) : Prop where
 le : j ≤ s.next
 q : s.q = List.range' j (s.next - j)
 out : s.out = lindAll per ps j
 came : ∀ i, i < s.next → tickOf ps i ≤ s.now
 now : max s.now (tickOf ps j) = max (lto per ps j) (tickOf ps j)
theorem fifo_order {per : Int} {ps : List Pk} {s : St (List Nat)} (hper : 0 ≤ per) (ho : OkPks ps) (h : Reaches fifoQ per ps [] s) : ∃ j, InOrder per ps s j := by
 refine h.by_steps (C := fun s => ∃ j, InOrder per ps s j) ⟨0, Nat.le_refl _, rfl, rfl, fun i h => absurd h (Nat.not_lt_zero _), rfl⟩ ?_ ?_ ?_
 ·
  intro s p hs hp ht ih
  obtain ⟨j, h1, h2, h3, h4, h5⟩ := ih
  refine ⟨j, by simp only; omega, ?_, h3, fun i hi => ?_, h5⟩
  ·
   simp only [fifoQ, h2]
   rw [show s.next + 1 - j = (s.next - j) + 1 by omega, List.range'_concat, Nat.one_mul, show j + (s.next - j) = s.next by omega]
  ·
   simp only at hi ⊢
   rcases Nat.lt_or_ge i s.next with h | h
   · exact h4 i h
   ·
    obtain rfl : i = s.next := by omega
    rw [tickOf_get hp]; exact ht
 ·
  intro s p hs hall h0 hp ih
  obtain ⟨j, h1, h2, h3, h4, h5⟩ := ih
  have hlt : j < s.next := by
   rcases Nat.lt_or_ge j s.next with h | h
   · exact h
   ·
    rw [h2, show s.next - j = 0 by omega] at h0
    simp [fifoQ] at h0
  have hr : List.range' j (s.next - j) = j :: List.range' (j + 1) (s.next - (j + 1)) := by
   rw [show s.next - j = (s.next - (j + 1)) + 1 by omega, List.range'_succ]
  have hpick : fifoQ.pick s.q = j := by rw [h2, hr]; rfl
  rw [hpick] at hp
  have e1 := tickOf_get hp
  have e2 := bytesOf_get hp
  have hn : s.now = max (lto per ps j) (tickOf ps j) := by
   have := h4 j hlt
   omega
  have hpos : 0 ≤ per * p.size := Int.mul_nonneg hper (by have := okPk_true (ho.each _ p hp).1; omega)
  refine ⟨j + 1, by simp only; omega, ?_, ?_, fun i hi => ?_, ?_⟩
  · simp only [fifoQ]; rw [h2, hr]; rfl
  ·
   simp only [hpick]
   rw [lindAll_succ, h3]
   simp only [lind, lto, e2, hn]
  ·
   have := h4 i hi
   simp only
   omega
  · simp only [lto, e2, hn]
 ·
  intro s p hs hp ht h0 ih
  obtain ⟨j, h1, h2, h3, h4, h5⟩ := ih
  have hj : j = s.next := by
   have h0' : s.q.length = 0 := h0
   rw [h2, List.length_range'] at h0'
   omega
  subst hj
  have e1 := tickOf_get hp
  refine ⟨s.next, Nat.le_refl _, h2, h3, fun i hi => ?_, ?_⟩
  ·
   have := h4 i hi
   simp only
   omega
  ·
   simp only [e1] at h5 ⊢
   omega
theorem fifo_law {per : Int} {ps : List Pk} (hper : 0 ≤ per) (ho : OkPks ps) : QueLaw fifoQ per ps [] where
 none := rfl
 come := fun s _ _ => by simp [fifoQ]
 left := fun s _ h => by
  simp only [fifoQ] at h ⊢
  rw [List.length_tail]
  omega
 pick := fun s hs h => by
  obtain ⟨j, h1, h2, -, -, -⟩ := fifo_order hper ho hs
  have h' : 0 < s.q.length := h
  rw [h2, List.length_range'] at h'
  show s.q.headD 0 < s.next
  rw [h2, show s.next - j = (s.next - (j + 1)) + 1 by omega, List.range'_succ]
  simp
  omega
 idle := fun _ _ h => h
theorem fifo_end {per : Int} {ps : List Pk} {s : St (List Nat)} (hper : 0 ≤ per) (ho : OkPks ps) (h : Reaches fifoQ per ps [] s) (hn : ¬ s.next < ps.length) (hr : fifoQ.rest s.q = 0) : s.out = lindAll per ps ps.length := by
 obtain ⟨j, h1, h2, h3, -, -⟩ := fifo_order hper ho h
 have := h.next_le
 have h' : s.q.length = 0 := hr
 rw [h2, List.length_range'] at h'
 rw [h3, show j = ps.length by omega]
end Go.Proofs.YtibhkijaafdkoaaGreatDoor

namespace Go.Proofs.YtibhkijaafdkoaaGreatDoor
def Undone (n : Nat) (out : List Sn) (i : Nat) : Prop := i < n ∧ ∀ x ∈ out, x.num ≠ (i : Int)
def lastFin (out : List Sn) : Int := match out.getLast? with | some x => x.fin | none => 0
theorem lastFin_snoc (out : List Sn) (x : Sn) : lastFin (out ++ [x]) = x.fin := by simp [lastFin]
structure Best (ps : List Pk) (keys : List Int) (out : List Sn) (t : Int) (b : Nat) : Prop where
 undone : Undone ps.length out b
 came : tickOf ps b ≤ t
 least : ∀ i, Undone ps.length out i → tickOf ps i ≤ t → keys.getD b 0 < keys.getD i 0 ∨ (keys.getD b 0 = keys.getD i 0 ∧ b ≤ i)
def Tick (ps : List Pk) (out : List Sn) (t : Int) : Prop :=
 (t = lastFin out ∧ ∃ i, Undone ps.length out i ∧ tickOf ps i ≤ t) ∨
 ((∀ i, Undone ps.length out i → lastFin out < tickOf ps i) ∧ ∃ i, Undone ps.length out i ∧ t = tickOf ps i ∧ ∀ k, Undone ps.length out k → tickOf ps i ≤ tickOf ps k)
def IsNext (per : Int) (ps : List Pk) (keys : List Int) (out : List Sn) (x : Sn) : Prop := ∃ t b, Tick ps out t ∧ Best ps keys out t b ∧ x = ⟨b, t, t + per * bytesOf ps b⟩
def Sched (per : Int) (ps : List Pk) (keys : List Int) (out : List Sn) : Prop := ∀ k x, out[k]? = some x → IsNext per ps keys (out.take k) x
theorem Sched.nil (per : Int) (ps : List Pk) (keys : List Int) : Sched per ps keys [] := fun k x h => by simp at h
theorem Sched.snoc {per : Int} {ps : List Pk} {keys : List Int} {out : List Sn} {x : Sn} (h : Sched per ps keys out) (hx : IsNext per ps keys out x) : Sched per ps keys (out ++ [x]) := by
 intro k y hk
 have hl := lt_of_get hk
 rw [List.length_append, List.length_cons, List.length_nil] at hl
 rcases Nat.lt_or_ge k out.length with h1 | h1
 ·
  rw [List.getElem?_append_left h1] at hk
  rw [List.take_append_of_le_length (by omega)]
  exact h k y hk
 ·
  obtain rfl : k = out.length := by omega
  rw [List.getElem?_append_right (Nat.le_refl _)] at hk
  simp at hk
  subst hk
  rw [List.take_append_of_le_length (Nat.le_refl _), List.take_length]
  exact hx
theorem undone_lind {per : Int} {ps : List Pk} {j i : Nat} : Undone ps.length (lindAll per ps j) i ↔ i < ps.length ∧ j ≤ i := by
 unfold Undone
 constructor
 ·
  rintro ⟨h1, h2⟩
  refine ⟨h1, ?_⟩
  rcases Nat.lt_or_ge i j with h | h
  ·
   have hm : lind per ps i ∈ lindAll per ps j := List.mem_map.2 ⟨i, List.mem_range.2 h, rfl⟩
   exact absurd rfl (h2 _ hm)
  · exact h
 ·
  rintro ⟨h1, h2⟩
  refine ⟨h1, fun x hx => ?_⟩
  obtain ⟨k, hk, rfl⟩ := List.mem_map.1 hx
  have := List.mem_range.1 hk
  simp only [lind]
  omega
theorem lastFin_lind (per : Int) (ps : List Pk) : ∀ j, lastFin (lindAll per ps j) = lto per ps j
 | 0 => rfl
 | j + 1 => by rw [lindAll_succ, lastFin_snoc]; rfl
theorem lind_sched {per : Int} {ps : List Pk} (ho : OkPks ps) (keys : List Int) (hk : ∀ i, keys.getD i 0 = 0) : Sched per ps keys (lindAll per ps ps.length) := by
 intro k x hx
 have hkl := lt_of_get hx
 rw [lindAll_length] at hkl
 rw [lindAll_get hkl] at hx
 have hx := Option.some.inj hx
 subst hx
 rw [lindAll_take (by omega)]
 refine ⟨max (lto per ps k) (tickOf ps k), k, ?_, ⟨undone_lind.2 ⟨hkl, Nat.le_refl _⟩, by omega, fun i hi _ => .inr ⟨by rw [hk, hk], (undone_lind.1 hi).2⟩⟩, ?_⟩
 ·
  by_cases h : tickOf ps k ≤ lto per ps k
  · exact .inl ⟨by rw [lastFin_lind]; omega, k, undone_lind.2 ⟨hkl, Nat.le_refl _⟩, by omega⟩
  ·
   refine .inr ⟨fun i hi => ?_, k, undone_lind.2 ⟨hkl, Nat.le_refl _⟩, by omega, fun i hi => ?_⟩
   ·
    rw [lastFin_lind]
    have := undone_lind.1 hi
    have := ticks_le ho this.2 this.1
    omega
   ·
    have := undone_lind.1 hi
    exact ticks_le ho this.2 this.1
 · simp only [lind, lto]
end Go.Proofs.YtibhkijaafdkoaaGreatDoor

namespace Go.Proofs.YtibhkijaafdkoaaGreatDoor
def busyStep (acc : List (Int × Int)) (x : Sn) : List (Int × Int) :=
 match acc.getLast? with
 | none => [(x.beg, x.fin)]
 | some l => if l.2 < x.beg then acc ++ [(x.beg, x.fin)] else acc.dropLast ++ [(l.1, max l.2 x.fin)]
def busyL (l : List Sn) : List (Int × Int) := l.foldl busyStep []
theorem busyL_take {l : List Sn} {k : Nat} {x : Sn} (h : l[k]? = some x) : busyL (l.take (k + 1)) = busyStep (busyL (l.take k)) x := by
 unfold busyL
 rw [List.take_add_one, h]
 simp
theorem busyStep_nil (x : Sn) : busyStep [] x = [(x.beg, x.fin)] := rfl
theorem busyStep_far (r : List (Int × Int)) (s t : Int) (x : Sn) (h : t < x.beg) : busyStep (r ++ [(s, t)]) x = r ++ [(s, t)] ++ [(x.beg, x.fin)] := by
 unfold busyStep
 simp [h]
theorem busyStep_near (r : List (Int × Int)) (s t : Int) (x : Sn) (h : ¬ t < x.beg) : busyStep (r ++ [(s, t)]) x = r ++ [(s, max t x.fin)] := by
 unfold busyStep
 simp [h]
theorem busyStep_length (acc : List (Int × Int)) (x : Sn) : (busyStep acc x).length ≤ acc.length + 1 := by
 rcases List.eq_nil_or_concat acc with rfl | ⟨r, ⟨s, t⟩, rfl⟩
 · simp [busyStep_nil]
 ·
  rw [List.concat_eq_append]
  by_cases h : t < x.beg
  · rw [busyStep_far _ _ _ _ h]; simp
  · rw [busyStep_near _ _ _ _ h]; simp
theorem busyL_length (l : List Sn) : ∀ k, k ≤ l.length → (busyL (l.take k)).length ≤ k
 | 0, _ => by simp [busyL]
 | k + 1, h => by
  have e : l[k]? = some l[k] := List.getElem?_eq_getElem (by omega)
  have ih := busyL_length l k (by omega)
  have := busyStep_length (busyL (l.take k)) l[k]
  rw [busyL_take e]
  omega
end Go.Proofs.YtibhkijaafdkoaaGreatDoor

namespace Go.Proofs.YtibhkijaafdkoaaGreatDoor
def isDone (out : List Sn) (i : Nat) : Bool := out.any fun x => x.num == (i : Int)
theorem isDone_false {out : List Sn} {i : Nat} : isDone out i = false ↔ ∀ x ∈ out, x.num ≠ (i : Int) := by simp [isDone]
theorem isDone_snoc (out : List Sn) (b i : Nat) (f t : Int) : isDone (out ++ [⟨b, f, t⟩]) i = (isDone out i || b == i) := by
 simp only [isDone, List.any_append, List.any_cons, List.any_nil, Bool.or_false]
 have e : ((b : Int) == (i : Int)) = (b == i) := by
  by_cases h : b = i
  · subst h; rw [beq_self_eq_true, beq_self_eq_true]
  ·
   have h' : (b : Int) ≠ (i : Int) := by omega
   rw [beq_eq_false_iff_ne.2 h', beq_eq_false_iff_ne.2 h]
 rw [e]
theorem undone_iff {n : Nat} {out : List Sn} {i : Nat} : Undone n out i ↔ i < n ∧ isDone out i = false := by simp [Undone, isDone_false]
structure Seeks (per : Int) (ps : List Pk) (keys : List Int) (out : List Sn) (t : Int) (f : Nat) : Prop where
 sched : Sched per ps keys out
 len : out.length ≤ ps.length
 tick : (f = 1 ∧ t = lastFin out) ∨ (f = 0 ∧ (∀ i, Undone ps.length out i → lastFin out < tickOf ps i) ∧ ∃ i, Undone ps.length out i ∧ t = tickOf ps i ∧ ∀ k, Undone ps.length out k → tickOf ps i ≤ tickOf ps k)
 low : 0 ≤ t
 high : t ≤ 1099511627776 + 1500000 * out.length
section
end
end Go.Proofs.YtibhkijaafdkoaaGreatDoor

namespace Go.Proofs.YtibhkijaafdkoaaGreatDoor
structure PickLaw {σ : Type} (Q : Que σ) (keys : List Int) (q0 : σ) (ok : σ → Prop) (items : σ → List Nat) : Prop where
 start : ok q0 ∧ items q0 = []
 rest : ∀ q, ok q → Q.rest q = (items q).length
 come : ∀ q k, ok q → (∀ i, i ∈ items q → i < k) → ok (Q.come q k) ∧ (items (Q.come q k)).length = (items q).length + 1 ∧ ∀ i, i ∈ items (Q.come q k) ↔ i ∈ items q ∨ i = k
 idle : ∀ q, ok q → Q.rest q = 0 → ok (Q.idle q) ∧ items (Q.idle q) = items q
 left : ∀ q, ok q → 0 < (items q).length → ok (Q.left q) ∧ (items (Q.left q)).length + 1 = (items q).length ∧ ∀ i, i ∈ items (Q.left q) ↔ i ∈ items q ∧ i ≠ Q.pick q
 pick : ∀ q, ok q → 0 < (items q).length → Q.pick q ∈ items q ∧ ∀ i, i ∈ items q → keys.getD (Q.pick q) 0 < keys.getD i 0 ∨ (keys.getD (Q.pick q) 0 = keys.getD i 0 ∧ Q.pick q ≤ i)
structure Ranked {σ : Type} (ok : σ → Prop) (items : σ → List Nat) (per : Int) (ps : List Pk) (keys : List Int) (s : St σ) : Prop where
 good : ok s.q
 sched : Sched per ps keys s.out
 wait : ∀ i, i ∈ items s.q ↔ i < s.next ∧ isDone s.out i = false
 sent : ∀ i : Nat, isDone s.out i = true → i < s.next
 came : ∀ i, i < s.next → tickOf ps i ≤ s.now
 le : s.next ≤ ps.length
 now : s.now = lastFin s.out ∨ ((∀ i, Undone ps.length s.out i → lastFin s.out < tickOf ps i) ∧ ∃ i, Undone ps.length s.out i ∧ s.now = tickOf ps i ∧ ∀ k, Undone ps.length s.out k → tickOf ps i ≤ tickOf ps k)
theorem ranked {σ : Type} {Q : Que σ} {keys : List Int} {q0 : σ} {ok : σ → Prop} {items : σ → List Nat} {per : Int} {ps : List Pk} {s : St σ} (hQ : PickLaw Q keys q0 ok items) (hper : 0 ≤ per) (ho : OkPks ps) (h : Reaches Q per ps q0 s) : Ranked ok items per ps keys s := by
 refine h.by_steps (C := fun s => Ranked ok items per ps keys s) ?_ ?_ ?_ ?_
 ·
  refine ⟨hQ.start.1, Sched.nil _ _ _, fun i => ?_, fun i h => ?_, fun i h => ?_, Nat.zero_le _, .inl rfl⟩
  ·
   simp only [hQ.start.2]
   constructor
   · intro h; cases h
   · rintro ⟨h, -⟩; exact absurd h (Nat.not_lt_zero _)
  · simp [isDone] at h
  · exact absurd h (Nat.not_lt_zero _)
 ·
  intro s p _ hp ht ih
  have hn : ∀ i, i ∈ items s.q → i < s.next := fun i hm => ((ih.wait _).1 hm).1
  obtain ⟨c1, -, c3⟩ := hQ.come s.q s.next ih.good hn
  have hlt := lt_of_get hp
  refine ⟨c1, ih.sched, fun i => ?_, fun i hi => Nat.lt_succ_of_lt (ih.sent i hi), fun i hi => ?_, hlt, ih.now⟩
  ·
   rw [c3, ih.wait]
   simp only
   constructor
   ·
    rintro (⟨a, b⟩ | rfl)
    · exact ⟨by omega, b⟩
    ·
     refine ⟨by omega, ?_⟩
     cases hd : isDone s.out s.next with
     | false => rfl
     | true => have := ih.sent _ hd; omega
   ·
    rintro ⟨a, b⟩
    rcases Nat.lt_or_ge i s.next with h' | h'
    · exact .inl ⟨h', b⟩
    · exact .inr (by omega)
  ·
   simp only at hi ⊢
   rcases Nat.lt_or_ge i s.next with h' | h'
   · exact ih.came i h'
   ·
    obtain rfl : i = s.next := by omega
    rw [tickOf_get hp]; exact ht
 ·
  intro s p _ hall h0 hp ih
  rw [hQ.rest _ ih.good] at h0
  obtain ⟨l1, -, l3⟩ := hQ.left s.q ih.good h0
  obtain ⟨p1, p2⟩ := hQ.pick s.q ih.good h0
  obtain ⟨w1, w2⟩ := (ih.wait _).1 p1
  have hle := ih.le
  have hcome : ∀ i, Undone ps.length s.out i → tickOf ps i ≤ s.now → i ∈ items s.q := by
   intro i hi ht
   obtain ⟨u1, u2⟩ := undone_iff.1 hi
   refine (ih.wait i).2 ⟨?_, u2⟩
   rcases Nat.lt_or_ge i s.next with h' | h'
   · exact h'
   ·
    have hnl : s.next < ps.length := by omega
    have e : ps[s.next]? = some ps[s.next] := List.getElem?_eq_getElem hnl
    have a1 := hall _ e
    have a2 := ticks_le ho h' u1
    rw [tickOf_get e] at a2
    omega
  have hbest : Best ps keys s.out s.now (Q.pick s.q) := ⟨undone_iff.2 ⟨by omega, w2⟩, ih.came _ w1, fun i hi ht => p2 i (hcome i hi ht)⟩
  have htick : Tick ps s.out s.now := by
   rcases ih.now with e | ⟨e1, e2⟩
   · exact .inl ⟨e, _, hbest.undone, hbest.came⟩
   · exact .inr ⟨e1, e2⟩
  have hpos : 0 ≤ per * p.size := Int.mul_nonneg hper (by have := okPk_true (ho.each _ p hp).1; omega)
  refine ⟨l1, ih.sched.snoc ⟨s.now, Q.pick s.q, htick, hbest, by rw [bytesOf_get hp]⟩, fun i => ?_, fun i hi => ?_, fun i hi => ?_, ih.le, .inl (by rw [lastFin_snoc])⟩
  ·
   rw [l3, ih.wait]
   simp only
   rw [isDone_snoc]
   constructor
   ·
    rintro ⟨⟨a, b⟩, c⟩
    refine ⟨a, ?_⟩
    rw [b, Bool.false_or]
    exact beq_eq_false_iff_ne.2 (fun e => c e.symm)
   ·
    rintro ⟨a, b⟩
    rw [Bool.or_eq_false_iff] at b
    exact ⟨⟨a, b.1⟩, fun e => beq_eq_false_iff_ne.1 b.2 e.symm⟩
  ·
   simp only at hi ⊢
   rw [isDone_snoc, Bool.or_eq_true] at hi
   rcases hi with hi | hi
   · exact ih.sent i hi
   ·
    have := beq_iff_eq.1 hi
    omega
  ·
   have := ih.came i hi
   simp only
   omega
 ·
  intro s p _ hp ht h0 ih
  rw [hQ.rest _ ih.good] at h0
  have hnone : items s.q = [] := List.length_eq_zero_iff.1 h0
  have hge : ∀ i, Undone ps.length s.out i → s.next ≤ i := by
   intro i hi
   rcases Nat.lt_or_ge i s.next with h' | h'
   ·
    have := (ih.wait i).2 ⟨h', (undone_iff.1 hi).2⟩
    rw [hnone] at this; cases this
   · exact h'
  have hmin : ∀ i, Undone ps.length s.out i → p.tick ≤ tickOf ps i := by
   intro i hi
   have := ticks_le ho (hge i hi) (undone_iff.1 hi).1
   rwa [tickOf_get hp] at this
  have hnow : s.now = lastFin s.out := by
   rcases ih.now with e | ⟨-, i, hi, e, -⟩
   · exact e
   ·
    have := hmin i hi
    omega
  have hund : Undone ps.length s.out s.next := by
   refine undone_iff.2 ⟨lt_of_get hp, ?_⟩
   cases hd : isDone s.out s.next with
   | false => rfl
   | true => have := ih.sent _ hd; omega
  obtain ⟨i1, i2⟩ := hQ.idle s.q ih.good (by rw [hQ.rest _ ih.good]; exact h0)
  refine ⟨i1, ih.sched, fun i => by rw [i2]; exact ih.wait i, ih.sent, fun i hi => ?_, ih.le, .inr ⟨fun i hi => ?_, s.next, hund, (tickOf_get hp).symm, fun k hk => ?_⟩⟩
  ·
   have := ih.came i hi
   simp only
   omega
  ·
   have := hmin i hi
   show lastFin s.out < _
   omega
  ·
   rw [tickOf_get hp]
   exact hmin k hk
theorem ranked_law {σ : Type} {Q : Que σ} {keys : List Int} {q0 : σ} {ok : σ → Prop} {items : σ → List Nat} {per : Int} {ps : List Pk} (hQ : PickLaw Q keys q0 ok items) (hper : 0 ≤ per) (ho : OkPks ps) : QueLaw Q per ps q0 where
 none := by rw [hQ.rest _ hQ.start.1, hQ.start.2]; rfl
 come := fun s hs _ => by
  have r := ranked hQ hper ho hs
  have hn : ∀ i, i ∈ items s.q → i < s.next := fun i hm => ((r.wait _).1 hm).1
  obtain ⟨c1, c2, -⟩ := hQ.come s.q s.next r.good hn
  rw [hQ.rest _ c1, hQ.rest _ r.good, c2]
 left := fun s hs h => by
  have r := ranked hQ hper ho hs
  rw [hQ.rest _ r.good] at h ⊢
  obtain ⟨l1, l2, -⟩ := hQ.left s.q r.good h
  rw [hQ.rest _ l1, l2]
 pick := fun s hs h => by
  have r := ranked hQ hper ho hs
  rw [hQ.rest _ r.good] at h
  exact ((r.wait _).1 (hQ.pick s.q r.good h).1).1
 idle := fun s hs h => by
  have r := ranked hQ hper ho hs
  obtain ⟨i1, i2⟩ := hQ.idle s.q r.good h
  rw [hQ.rest _ i1, i2, ← hQ.rest _ r.good]
  exact h
theorem ranked_end {σ : Type} {Q : Que σ} {keys : List Int} {q0 : σ} {ok : σ → Prop} {items : σ → List Nat} {per : Int} {ps : List Pk} {s : St σ} (hQ : PickLaw Q keys q0 ok items) (hper : 0 ≤ per) (ho : OkPks ps) (h : Reaches Q per ps q0 s) (hn : ¬ s.next < ps.length) (hr : Q.rest s.q = 0) : Sched per ps keys s.out ∧ s.out.length = ps.length := by
 have r := ranked hQ hper ho h
 have hc := h.count (ranked_law hQ hper ho)
 have := r.le
 exact ⟨r.sched, by omega⟩
end Go.Proofs.YtibhkijaafdkoaaGreatDoor

namespace Go.Proofs.YtibhkijaafdkoaaGreatDoor
def sumOf (f : Nat → Int) : List Nat → Int
 | [] => 0
 | a :: r => f a + sumOf f r
theorem sumOf_nonneg {f : Nat → Int} (hf : ∀ i, 0 ≤ f i) : ∀ l, 0 ≤ sumOf f l
 | [] => Int.le_refl _
 | a :: r => by
  have := sumOf_nonneg hf r
  have := hf a
  simp only [sumOf]
  omega
theorem sumOf_append (f : Nat → Int) (a b : List Nat) : sumOf f (a ++ b) = sumOf f a + sumOf f b := by
 induction a with
 | nil => simp [sumOf]
 | cons x r ih => simp only [List.cons_append, sumOf, ih]; omega
theorem sumOf_erase {f : Nat → Int} {a : Nat} : ∀ {l : List Nat}, a ∈ l → sumOf f l = f a + sumOf f (l.erase a) := by
 intro l
 induction l with
 | nil => intro h; cases h
 | cons x r ih =>
  intro h
  by_cases e : x = a
  · subst e; simp [sumOf]
  ·
   have hm : a ∈ r := by
    rcases List.mem_cons.1 h with h | h
    · exact absurd h.symm e
    · exact h
   have he : (x :: r).erase a = x :: r.erase a := List.erase_cons_tail (by simpa using e)
   rw [he]
   simp only [sumOf, ih hm]
   omega
theorem sumOf_le {f : Nat → Int} (hf : ∀ i, 0 ≤ f i) : ∀ (A B : List Nat), A.Nodup → (∀ a, a ∈ A → a ∈ B) → sumOf f A ≤ sumOf f B := by
 intro A
 induction A with
 | nil => intro B _ _; exact sumOf_nonneg hf B
 | cons a r ih =>
  intro B hn hs
  obtain ⟨h1, h2⟩ := List.nodup_cons.1 hn
  have hb := hs a (List.mem_cons_self ..)
  rw [sumOf_erase hb]
  have := ih (B.erase a) h2 (fun x hx => (List.mem_erase_of_ne (fun e : x = a => h1 (by rw [← e]; exact hx))).2 (hs x (List.mem_cons_of_mem _ hx)))
  simp only [sumOf]
  omega
end Go.Proofs.YtibhkijaafdkoaaGreatDoor
