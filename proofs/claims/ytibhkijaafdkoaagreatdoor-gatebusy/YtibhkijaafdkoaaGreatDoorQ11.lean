/- Own facts, put together: no statement of its own. -/
import Derived.Test.YtibhkijaafdkoaaGreatDoorQ09
namespace Go.Proofs.YtibhkijaafdkoaaGreatDoor
structure FQ where
 q : List Nat
 tag : Nat → Int
 v : Int
 last : Nat → Int
section
variable (fl : Nat → Nat) (inc : Nat → Int)
def FQ.come (s : FQ) (k : Nat) : FQ :=
 { q := s.q ++ [k], tag := put1 s.tag k (max s.v (s.last (fl k)) + inc k), v := s.v, last := put1 s.last (fl k) (max s.v (s.last (fl k)) + inc k) }
def FQ.left (s : FQ) (k : Nat) : FQ := { s with q := s.q.filter fun i => i != k, v := s.tag k }
def FQ.rests (s : FQ) : FQ := { s with v := 0, last := fun _ => 0 }
def FQ.of (s : FQ) (f : Nat) : List Nat := s.q.filter fun i => fl i == f
def FQ.begins (s : FQ) (f : Nat) : Int := match s.of fl f with | [] => s.v | k :: _ => s.tag k - inc k
def InChain (tag : Nat → Int) (inc : Nat → Int) : List Nat → Prop
 | [] => True
 | [_] => True
 | a :: b :: r => tag b - inc b = tag a ∧ InChain tag inc (b :: r)
def lastTag (tag : Nat → Int) (d : Int) : List Nat → Int
 | [] => d
 | [a] => tag a
 | _ :: b :: r => lastTag tag d (b :: r)
structure FQOk (s : FQ) : Prop where
 nodup : s.q.Nodup
 low : ∀ k, k ∈ s.q → s.v ≤ s.tag k
 begin : ∀ f, s.begins fl inc f ≤ s.v
 chain : ∀ f, InChain s.tag inc (s.of fl f)
 ends : ∀ f, s.of fl f ≠ [] → s.last f = lastTag s.tag 0 (s.of fl f)
 idle : ∀ f, s.of fl f = [] → s.last f ≤ s.v
variable {fl inc} {s : FQ}
theorem of_append (s : FQ) (k f : Nat) (t : Nat → Int) (v : Int) (l : Nat → Int) : (FQ.mk (s.q ++ [k]) t v l).of fl f = s.of fl f ++ if fl k = f then [k] else [] := by
 unfold FQ.of
 simp only [List.filter_append]
 congr 1
 by_cases h : fl k = f
 · simp [h]
 · simp [h]
theorem chain_congr {t u : Nat → Int} : ∀ {l : List Nat}, (∀ k, k ∈ l → t k = u k) → InChain t inc l → InChain u inc l
 | [], _, _ => trivial
 | [_], _, _ => trivial
 | a :: b :: r, h, hc => by
  obtain ⟨h1, h2⟩ := hc
  refine ⟨?_, chain_congr (fun k hk => h k (List.mem_cons_of_mem _ hk)) h2⟩
  rw [← h a (List.mem_cons_self ..), ← h b (List.mem_cons_of_mem _ (List.mem_cons_self ..))]
  exact h1
theorem lastTag_congr {t u : Nat → Int} {d : Int} : ∀ {l : List Nat}, (∀ k, k ∈ l → t k = u k) → lastTag t d l = lastTag u d l
 | [], _ => rfl
 | [a], h => h a (List.mem_cons_self ..)
 | a :: b :: r, h => by
  simp only [lastTag]
  exact lastTag_congr fun k hk => h k (List.mem_cons_of_mem _ hk)
theorem lastTag_snoc (t : Nat → Int) (d : Int) (k : Nat) : ∀ l : List Nat, lastTag t d (l ++ [k]) = t k
 | [] => rfl
 | [a] => rfl
 | a :: b :: r => by
  simp only [List.cons_append, lastTag]
  exact lastTag_snoc t d k (b :: r)
theorem chain_snoc {t : Nat → Int} {k : Nat} : ∀ {l : List Nat}, InChain t inc l → (l ≠ [] → t k - inc k = lastTag t 0 l) → InChain t inc (l ++ [k])
 | [], _, _ => trivial
 | [a], _, h => ⟨h (by simp), trivial⟩
 | a :: b :: r, hc, h => by
  obtain ⟨h1, h2⟩ := hc
  exact ⟨h1, chain_snoc h2 (fun _ => h (by simp))⟩
theorem lastTag_ge {t : Nat → Int} {v : Int} : ∀ {l : List Nat}, l ≠ [] → (∀ k, k ∈ l → v ≤ t k) → v ≤ lastTag t 0 l
 | [], h, _ => absurd rfl h
 | [a], _, h => h a (List.mem_cons_self ..)
 | a :: b :: r, _, h => by
  simp only [lastTag]
  exact lastTag_ge (by simp) fun k hk => h k (List.mem_cons_of_mem _ hk)
theorem mem_of {s : FQ} {f k : Nat} : k ∈ s.of fl f ↔ k ∈ s.q ∧ fl k = f := by
 unfold FQ.of
 rw [List.mem_filter, beq_iff_eq]
theorem FQOk.start (fl : Nat → Nat) (inc : Nat → Int) (t : Nat → Int) : FQOk fl inc ⟨[], t, 0, fun _ => 0⟩ :=
 ⟨List.nodup_nil, (fun _ h => by cases h), fun _ => Int.le_refl _, fun _ => trivial, fun _ h => absurd rfl h, fun _ _ => Int.le_refl _⟩
theorem FQOk.rests (h : FQOk fl inc s) (h0 : s.q = []) : FQOk fl inc s.rests := by
 have e : ∀ f, s.rests.of fl f = [] := fun f => by unfold FQ.of FQ.rests; simp [h0]
 refine ⟨h.nodup, fun k hk => ?_, fun f => ?_, fun f => by rw [e]; trivial, fun f hf => absurd (e f) hf, fun f _ => Int.le_refl _⟩
 ·
  have hk' : k ∈ s.q := hk
  rw [h0] at hk'
  cases hk'
 ·
  unfold FQ.begins
  rw [e]
  exact Int.le_refl _
theorem FQOk.come (h : FQOk fl inc s) {k : Nat} (hk : k ∉ s.q) (hi : 0 ≤ inc k) : FQOk fl inc (s.come fl inc k) := by
 have hne : ∀ i, i ∈ s.q → i ≠ k := fun i hi e => hk (by rw [← e]; exact hi)
 have htag : ∀ i, i ∈ s.q → s.tag i = (s.come fl inc k).tag i := fun i hi => (put1_other _ _ (hne i hi)).symm
 have htk : (s.come fl inc k).tag k = max s.v (s.last (fl k)) + inc k := put1_same _ _ _
 have hof : ∀ f, (s.come fl inc k).of fl f = s.of fl f ++ if fl k = f then [k] else [] := fun f => of_append s k f _ _ _
 have hofm : ∀ f i, i ∈ s.of fl f → s.tag i = (s.come fl inc k).tag i := fun f i hi => htag i (mem_of.1 hi).1
 have hlast : s.of fl (fl k) ≠ [] → max s.v (s.last (fl k)) = lastTag s.tag 0 (s.of fl (fl k)) := fun hn => by
  rw [h.ends _ hn]
  have := lastTag_ge hn (fun i hi => h.low i (mem_of.1 hi).1)
  omega
 refine ⟨List.nodup_append.2 ⟨h.nodup, List.nodup_cons.2 ⟨by simp, List.nodup_nil⟩, fun a ha b hb e => hk (by rw [List.mem_singleton] at hb; rw [← hb, ← e]; exact ha)⟩, fun i hi' => ?_, fun f => ?_, fun f => ?_, fun f hf => ?_, fun f hf => ?_⟩
 ·
  show s.v ≤ (s.come fl inc k).tag i
  have hi2 : i ∈ s.q ++ [k] := hi'
  rcases List.mem_append.1 hi2 with h1 | h1
  · rw [← htag i h1]; exact h.low i h1
  ·
   rw [List.mem_singleton] at h1
   rw [h1, htk]
   omega
 ·
  have hb := h.begin f
  unfold FQ.begins at hb ⊢
  rw [hof]
  cases hq : s.of fl f with
  | nil =>
   rw [List.nil_append]
   by_cases e : fl k = f
   ·
    rw [if_pos e]
    show (s.come fl inc k).tag k - inc k ≤ s.v
    rw [htk]
    have := h.idle f hq
    rw [e]
    omega
   ·
    rw [if_neg e]
    exact Int.le_refl _
  | cons a r =>
   rw [hq] at hb
   show (s.come fl inc k).tag a - inc a ≤ s.v
   rw [← hofm f a (by rw [hq]; exact List.mem_cons_self ..)]
   exact hb
 ·
  rw [hof]
  have hc := chain_congr (hofm f) (h.chain f)
  by_cases e : fl k = f
  ·
   rw [if_pos e]
   refine chain_snoc hc (fun hn => ?_)
   rw [htk, ← lastTag_congr (hofm f), ← e, ← hlast (by rw [e]; exact hn)]
   omega
  ·
   rw [if_neg e, List.append_nil]
   exact hc
 ·
  show put1 s.last (fl k) (max s.v (s.last (fl k)) + inc k) f = _
  rw [hof]
  by_cases e : fl k = f
  · rw [if_pos e, lastTag_snoc, htk, ← e, put1_same]
  ·
   rw [hof, if_neg e, List.append_nil] at hf
   rw [if_neg e, List.append_nil, put1_other _ _ (fun e' => e e'.symm), ← lastTag_congr (hofm f)]
   exact h.ends f hf
 ·
  have hf' := hf
  rw [hof] at hf'
  have e : fl k ≠ f := fun e => by rw [if_pos e] at hf'; simp at hf'
  rw [if_neg e, List.append_nil] at hf'
  show put1 s.last (fl k) _ f ≤ s.v
  rw [put1_other _ _ (fun e' => e e'.symm)]
  exact h.idle f hf'
theorem begins_come {k f : Nat} (hk : k ∉ s.q) (hf : s.of fl f ≠ []) : (s.come fl inc k).begins fl inc f = s.begins fl inc f ∧ (s.come fl inc k).of fl f ≠ [] := by
 have hof : (s.come fl inc k).of fl f = s.of fl f ++ if fl k = f then [k] else [] := of_append s k f _ _ _
 cases hq : s.of fl f with
 | nil => exact absurd hq hf
 | cons a r =>
  refine ⟨?_, by rw [hof, hq]; simp⟩
  have ha : a ∈ s.q := (mem_of (fl := fl) (f := f).1 (by rw [hq]; exact List.mem_cons_self ..)).1
  unfold FQ.begins
  rw [hof, hq]
  show (s.come fl inc k).tag a - inc a = s.tag a - inc a
  have : (s.come fl inc k).tag a = s.tag a := put1_other _ _ (fun e => hk (by rw [← e]; exact ha))
  rw [this]
def FQ.Least (s : FQ) (k : Nat) : Prop := k ∈ s.q ∧ ∀ i, i ∈ s.q → s.tag k ≤ s.tag i
theorem chain_rises {t : Nat → Int} : ∀ {l : List Nat} {a : Nat}, InChain t inc (a :: l) → (∀ k, k ∈ l → 1 ≤ inc k) → ∀ k, k ∈ l → t a < t k
 | [], _, _, _ => fun k hk => by cases hk
 | b :: r, a, hc, hi => fun k hk => by
  obtain ⟨h1, h2⟩ := hc
  have hb := hi b (List.mem_cons_self ..)
  rcases List.mem_cons.1 hk with e | hk
  · rw [e]; omega
  ·
   have := chain_rises h2 (fun k hk => hi k (List.mem_cons_of_mem _ hk)) k hk
   omega
theorem least_head (h : FQOk fl inc s) (hi : ∀ k, k ∈ s.q → 1 ≤ inc k) {k : Nat} (hk : s.Least k) : ∃ r, s.of fl (fl k) = k :: r := by
 have hm : k ∈ s.of fl (fl k) := mem_of.2 ⟨hk.1, rfl⟩
 cases hq : s.of fl (fl k) with
 | nil => rw [hq] at hm; cases hm
 | cons a r =>
  rw [hq] at hm
  rcases List.mem_cons.1 hm with e | hm
  · subst e; exact ⟨r, rfl⟩
  ·
   have hc := h.chain (fl k)
   rw [hq] at hc
   have hall : ∀ i, i ∈ a :: r → i ∈ s.q := fun i hi' => (mem_of (fl := fl) (f := fl k).1 (by rw [hq]; exact hi')).1
   have := chain_rises hc (fun i hi' => hi i (hall i (List.mem_cons_of_mem _ hi'))) k hm
   have := hk.2 a (hall a (List.mem_cons_self ..))
   omega
theorem of_left (s : FQ) (k f : Nat) : (s.left k).of fl f = (s.of fl f).filter fun i => i != k := by
 unfold FQ.of FQ.left
 simp only [List.filter_filter]
 refine List.filter_congr fun i _ => ?_
 cases (fl i == f) <;> cases (i != k) <;> rfl
theorem of_left_other {k f : Nat} (h : fl k ≠ f) : (s.left k).of fl f = s.of fl f := by
 rw [of_left]
 refine List.filter_eq_self.2 fun i hi => ?_
 have : i ≠ k := fun e => h (by rw [← e]; exact (mem_of.1 hi).2)
 simp [this]
theorem of_left_same (h : FQOk fl inc s) {k : Nat} {r : List Nat} (hr : s.of fl (fl k) = k :: r) : (s.left k).of fl (fl k) = r := by
 have hn : (s.of fl (fl k)).Nodup := h.nodup.filter _
 rw [hr] at hn
 obtain ⟨n1, -⟩ := List.nodup_cons.1 hn
 rw [of_left, hr, List.filter_cons, if_neg (by simp)]
 refine List.filter_eq_self.2 fun i hi => ?_
 have : i ≠ k := fun e => n1 (by rw [← e]; exact hi)
 simp [this]
theorem FQOk.left (h : FQOk fl inc s) (hi : ∀ k, k ∈ s.q → 1 ≤ inc k) {k : Nat} (hk : s.Least k) : FQOk fl inc (s.left k) := by
 obtain ⟨r, hr⟩ := least_head h hi hk
 have hv : s.v ≤ s.tag k := h.low k hk.1
 have hmem : ∀ i, i ∈ (s.left k).q → i ∈ s.q := fun i hi' => (List.mem_filter.1 hi').1
 refine ⟨h.nodup.filter _, fun i hi' => hk.2 i (hmem i hi'), fun f => ?_, fun f => ?_, fun f hf => ?_, fun f hf => ?_⟩
 ·
  show (s.left k).begins fl inc f ≤ s.tag k
  by_cases e : fl k = f
  ·
   subst e
   unfold FQ.begins
   rw [of_left_same h hr]
   cases r with
   | nil => exact Int.le_refl _
   | cons b r =>
    have hc := h.chain (fl k)
    rw [hr] at hc
    show s.tag b - inc b ≤ s.tag k
    have := hc.1
    omega
  ·
   have hb := h.begin f
   unfold FQ.begins at hb ⊢
   rw [of_left_other e]
   cases hq : s.of fl f with
   | nil => exact Int.le_refl _
   | cons a r =>
    rw [hq] at hb
    show s.tag a - inc a ≤ s.tag k
    simp only at hb
    omega
 ·
  by_cases e : fl k = f
  ·
   subst e
   rw [of_left_same h hr]
   have hc := h.chain (fl k)
   rw [hr] at hc
   cases r with
   | nil => trivial
   | cons b r => exact hc.2
  ·
   rw [of_left_other e]
   exact h.chain f
 ·
  by_cases e : fl k = f
  ·
   subst e
   rw [of_left_same h hr] at hf ⊢
   have := h.ends (fl k) (by rw [hr]; simp)
   rw [hr] at this
   cases r with
   | nil => exact absurd rfl hf
   | cons b r => exact this
  ·
   rw [of_left_other e] at hf ⊢
   exact h.ends f hf
 ·
  show s.last f ≤ s.tag k
  by_cases e : fl k = f
  ·
   subst e
   rw [of_left_same h hr] at hf
   subst hf
   have := h.ends (fl k) (by rw [hr]; simp)
   rw [hr] at this
   rw [this]
   exact Int.le_refl _
  ·
   rw [of_left_other e] at hf
   have := h.idle f hf
   omega
end
end Go.Proofs.YtibhkijaafdkoaaGreatDoor
