/- Own facts, put together: no statement of its own. -/
import Derived.Test.YtibhkijaafdkoaaGreatDoorR05
import Derived.Test.YtibhkijaafdkoaaGreatDoorR03
import Derived.Laws.MakeOwn
import Derived.Test.YtibhkijaafdkoaaGreatDoorR01
namespace Go.Proofs.YtibhkijaafdkoaaGreatDoor
structure FQ where
 q : List Nat
 tag : Nat → Int
 v : Int
 last : Nat → Int
section
variable (fl : Nat → Nat) (inc : Nat → Int)
def FQ.come (s : FQ) (k : Nat) : FQ :=
 { q := s.q ++ [k], tag := put1 s.tag k (max s.v (s.last (fl k)) + inc k), v := s.v, last := put1 s.last (fl k) (max s.v (s.last (fl k)) + inc k) }
def FQ.left (s : FQ) (k : Nat) : FQ := { s with q := s.q.filter fun i => i != k, v := s.tag k }
def FQ.rests (s : FQ) : FQ := { s with v := 0, last := fun _ => 0 }
def FQ.of (s : FQ) (f : Nat) : List Nat := s.q.filter fun i => fl i == f
def FQ.begins (s : FQ) (f : Nat) : Int := match s.of fl f with | [] => s.v | k :: _ => s.tag k - inc k
def InChain (tag : Nat → Int) (inc : Nat → Int) : List Nat → Prop
 | [] => True
 | [_] => True
 | a :: b :: r => tag b - inc b = tag a ∧ InChain tag inc (b :: r)
def lastTag (tag : Nat → Int) (d : Int) : List Nat → Int
 | [] => d
 | [a] => tag a
 | _ :: b :: r => lastTag tag d (b :: r)
structure FQOk (s : FQ) : Prop where
 nodup : s.q.Nodup
 low : ∀ k, k ∈ s.q → s.v ≤ s.tag k
 begin : ∀ f, s.begins fl inc f ≤ s.v
 chain : ∀ f, InChain s.tag inc (s.of fl f)
 ends : ∀ f, s.of fl f ≠ [] → s.last f = lastTag s.tag 0 (s.of fl f)
 idle : ∀ f, s.of fl f = [] → s.last f ≤ s.v
variable {fl inc} {s : FQ}
theorem of_append (s : FQ) (k f : Nat) (t : Nat → Int) (v : Int) (l : Nat → Int) : (FQ.mk (s.q ++ [k]) t v l).of fl f = s.of fl f ++ if fl k = f then [k] else [] := by
 unfold FQ.of
 simp only [List.filter_append]
 congr 1
 by_cases h : fl k = f
 · simp [h]
 · simp [h]
theorem chain_congr {t u : Nat → Int} : ∀ {l : List Nat}, (∀ k, k ∈ l → t k = u k) → InChain t inc l → InChain u inc l
 | [], _, _ => trivial
 | [_], _, _ => trivial
 | a :: b :: r, h, hc => by
  obtain ⟨h1, h2⟩ := hc
  refine ⟨?_, chain_congr (fun k hk => h k (List.mem_cons_of_mem _ hk)) h2⟩
  rw [← h a (List.mem_cons_self ..), ← h b (List.mem_cons_of_mem _ (List.mem_cons_self ..))]
  exact h1
theorem lastTag_congr {t u : Nat → Int} {d : Int} : ∀ {l : List Nat}, (∀ k, k ∈ l → t k = u k) → lastTag t d l = lastTag u d l
 | [], _ => rfl
 | [a], h => h a (List.mem_cons_self ..)
 | a :: b :: r, h => by
  simp only [lastTag]
  exact lastTag_congr fun k hk => h k (List.mem_cons_of_mem _ hk)
theorem lastTag_snoc (t : Nat → Int) (d : Int) (k : Nat) : ∀ l : List Nat, lastTag t d (l ++ [k]) = t k
 | [] => rfl
 | [a] => rfl
 | a :: b :: r => by
  simp only [List.cons_append, lastTag]
  exact lastTag_snoc t d k (b :: r)
theorem chain_snoc {t : Nat → Int} {k : Nat} : ∀ {l : List Nat}, InChain t inc l → (l ≠ [] → t k - inc k = lastTag t 0 l) → InChain t inc (l ++ [k])
 | [], _, _ => trivial
 | [a], _, h => ⟨h (by simp), trivial⟩
 | a :: b :: r, hc, h => by
  obtain ⟨h1, h2⟩ := hc
  exact ⟨h1, chain_snoc h2 (fun _ => h (by simp))⟩
theorem lastTag_ge {t : Nat → Int} {v : Int} : ∀ {l : List Nat}, l ≠ [] → (∀ k, k ∈ l → v ≤ t k) → v ≤ lastTag t 0 l
 | [], h, _ => absurd rfl h
 | [a], _, h => h a (List.mem_cons_self ..)
 | a :: b :: r, _, h => by
  simp only [lastTag]
  exact lastTag_ge (by simp) fun k hk => h k (List.mem_cons_of_mem _ hk)
theorem mem_of {s : FQ} {f k : Nat} : k ∈ s.of fl f ↔ k ∈ s.q ∧ fl k = f := by
 unfold FQ.of
 rw [List.mem_filter, beq_iff_eq]
theorem FQOk.start (fl : Nat → Nat) (inc : Nat → Int) (t : Nat → Int) : FQOk fl inc ⟨[], t, 0, fun _ => 0⟩ :=
 ⟨List.nodup_nil, (fun _ h => by cases h), fun _ => Int.le_refl _, fun _ => trivial, fun _ h => absurd rfl h, fun _ _ => Int.le_refl _⟩
theorem FQOk.rests (h : FQOk fl inc s) (h0 : s.q = []) : FQOk fl inc s.rests := by
 have e : ∀ f, s.rests.of fl f = [] := fun f => by unfold FQ.of FQ.rests; simp [h0]
 refine ⟨h.nodup, fun k hk => ?_, fun f => ?_, fun f => by rw [e]; trivial, fun f hf => absurd (e f) hf, fun f _ => Int.le_refl _⟩
 ·
  have hk' : k ∈ s.q := hk
  rw [h0] at hk'
  cases hk'
 ·
  unfold FQ.begins
  rw [e]
  exact Int.le_refl _
theorem FQOk.come (h : FQOk fl inc s) {k : Nat} (hk : k ∉ s.q) (hi : 0 ≤ inc k) : FQOk fl inc (s.come fl inc k) := by
 have hne : ∀ i, i ∈ s.q → i ≠ k := fun i hi e => hk (by rw [← e]; exact hi)
 have htag : ∀ i, i ∈ s.q → s.tag i = (s.come fl inc k).tag i := fun i hi => (put1_other _ _ (hne i hi)).symm
 have htk : (s.come fl inc k).tag k = max s.v (s.last (fl k)) + inc k := put1_same _ _ _
 have hof : ∀ f, (s.come fl inc k).of fl f = s.of fl f ++ if fl k = f then [k] else [] := fun f => of_append s k f _ _ _
 have hofm : ∀ f i, i ∈ s.of fl f → s.tag i = (s.come fl inc k).tag i := fun f i hi => htag i (mem_of.1 hi).1
 have hlast : s.of fl (fl k) ≠ [] → max s.v (s.last (fl k)) = lastTag s.tag 0 (s.of fl (fl k)) := fun hn => by
  rw [h.ends _ hn]
  have := lastTag_ge hn (fun i hi => h.low i (mem_of.1 hi).1)
  omega
 refine ⟨List.nodup_append.2 ⟨h.nodup, List.nodup_cons.2 ⟨by simp, List.nodup_nil⟩, fun a ha b hb e => hk (by rw [List.mem_singleton] at hb; rw [← hb, ← e]; exact ha)⟩, fun i hi' => ?_, fun f => ?_, fun f => ?_, fun f hf => ?_, fun f hf => ?_⟩
 ·
  show s.v ≤ (s.come fl inc k).tag i
  have hi2 : i ∈ s.q ++ [k] := hi'
  rcases List.mem_append.1 hi2 with h1 | h1
  · rw [← htag i h1]; exact h.low i h1
  ·
   rw [List.mem_singleton] at h1
   rw [h1, htk]
   omega
 ·
  have hb := h.begin f
  unfold FQ.begins at hb ⊢
  rw [hof]
  cases hq : s.of fl f with
  | nil =>
   rw [List.nil_append]
   by_cases e : fl k = f
   ·
    rw [if_pos e]
    show (s.come fl inc k).tag k - inc k ≤ s.v
    rw [htk]
    have := h.idle f hq
    rw [e]
    omega
   ·
    rw [if_neg e]
    exact Int.le_refl _
  | cons a r =>
   rw [hq] at hb
   show (s.come fl inc k).tag a - inc a ≤ s.v
   rw [← hofm f a (by rw [hq]; exact List.mem_cons_self ..)]
   exact hb
 ·
  rw [hof]
  have hc := chain_congr (hofm f) (h.chain f)
  by_cases e : fl k = f
  ·
   rw [if_pos e]
   refine chain_snoc hc (fun hn => ?_)
   rw [htk, ← lastTag_congr (hofm f), ← e, ← hlast (by rw [e]; exact hn)]
   omega
  ·
   rw [if_neg e, List.append_nil]
   exact hc
 ·
  show put1 s.last (fl k) (max s.v (s.last (fl k)) + inc k) f = _
  rw [hof]
  by_cases e : fl k = f
  · rw [if_pos e, lastTag_snoc, htk, ← e, put1_same]
  ·
   rw [hof, if_neg e, List.append_nil] at hf
   rw [if_neg e, List.append_nil, put1_other _ _ (fun e' => e e'.symm), ← lastTag_congr (hofm f)]
   exact h.ends f hf
 ·
  have hf' := hf
  rw [hof] at hf'
  have e : fl k ≠ f := fun e => by rw [if_pos e] at hf'; simp at hf'
  rw [if_neg e, List.append_nil] at hf'
  show put1 s.last (fl k) _ f ≤ s.v
  rw [put1_other _ _ (fun e' => e e'.symm)]
  exact h.idle f hf'
theorem begins_come {k f : Nat} (hk : k ∉ s.q) (hf : s.of fl f ≠ []) : (s.come fl inc k).begins fl inc f = s.begins fl inc f ∧ (s.come fl inc k).of fl f ≠ [] := by
 have hof : (s.come fl inc k).of fl f = s.of fl f ++ if fl k = f then [k] else [] := of_append s k f _ _ _
 cases hq : s.of fl f with
 | nil => exact absurd hq hf
 | cons a r =>
  refine ⟨?_, by rw [hof, hq]; simp⟩
  have ha : a ∈ s.q := (mem_of (fl := fl) (f := f).1 (by rw [hq]; exact List.mem_cons_self ..)).1
  unfold FQ.begins
  rw [hof, hq]
  show (s.come fl inc k).tag a - inc a = s.tag a - inc a
  have : (s.come fl inc k).tag a = s.tag a := put1_other _ _ (fun e => hk (by rw [← e]; exact ha))
  rw [this]
def FQ.Least (s : FQ) (k : Nat) : Prop := k ∈ s.q ∧ ∀ i, i ∈ s.q → s.tag k ≤ s.tag i
theorem chain_rises {t : Nat → Int} : ∀ {l : List Nat} {a : Nat}, InChain t inc (a :: l) → (∀ k, k ∈ l → 1 ≤ inc k) → ∀ k, k ∈ l → t a < t k
 | [], _, _, _ => fun k hk => by cases hk
 | b :: r, a, hc, hi => fun k hk => by
  obtain ⟨h1, h2⟩ := hc
  have hb := hi b (List.mem_cons_self ..)
  rcases List.mem_cons.1 hk with e | hk
  · rw [e]; omega
  ·
   have := chain_rises h2 (fun k hk => hi k (List.mem_cons_of_mem _ hk)) k hk
   omega
theorem least_head (h : FQOk fl inc s) (hi : ∀ k, k ∈ s.q → 1 ≤ inc k) {k : Nat} (hk : s.Least k) : ∃ r, s.of fl (fl k) = k :: r := by
 have hm : k ∈ s.of fl (fl k) := mem_of.2 ⟨hk.1, rfl⟩
 cases hq : s.of fl (fl k) with
 | nil => rw [hq] at hm; cases hm
 | cons a r =>
  rw [hq] at hm
  rcases List.mem_cons.1 hm with e | hm
  · subst e; exact ⟨r, rfl⟩
  ·
   have hc := h.chain (fl k)
   rw [hq] at hc
   have hall : ∀ i, i ∈ a :: r → i ∈ s.q := fun i hi' => (mem_of (fl := fl) (f := fl k).1 (by rw [hq]; exact hi')).1
   have := chain_rises hc (fun i hi' => hi i (hall i (List.mem_cons_of_mem _ hi'))) k hm
   have := hk.2 a (hall a (List.mem_cons_self ..))
   omega
theorem of_left (s : FQ) (k f : Nat) : (s.left k).of fl f = (s.of fl f).filter fun i => i != k := by
 unfold FQ.of FQ.left
 simp only [List.filter_filter]
 refine List.filter_congr fun i _ => ?_
 cases (fl i == f) <;> cases (i != k) <;> rfl
theorem of_left_other {k f : Nat} (h : fl k ≠ f) : (s.left k).of fl f = s.of fl f := by
 rw [of_left]
 refine List.filter_eq_self.2 fun i hi => ?_
 have : i ≠ k := fun e => h (by rw [← e]; exact (mem_of.1 hi).2)
 simp [this]
theorem of_left_same (h : FQOk fl inc s) {k : Nat} {r : List Nat} (hr : s.of fl (fl k) = k :: r) : (s.left k).of fl (fl k) = r := by
 have hn : (s.of fl (fl k)).Nodup := h.nodup.filter _
 rw [hr] at hn
 obtain ⟨n1, -⟩ := List.nodup_cons.1 hn
 rw [of_left, hr, List.filter_cons, if_neg (by simp)]
 refine List.filter_eq_self.2 fun i hi => ?_
 have : i ≠ k := fun e => n1 (by rw [← e]; exact hi)
 simp [this]
theorem FQOk.left (h : FQOk fl inc s) (hi : ∀ k, k ∈ s.q → 1 ≤ inc k) {k : Nat} (hk : s.Least k) : FQOk fl inc (s.left k) := by
 obtain ⟨r, hr⟩ := least_head h hi hk
 have hv : s.v ≤ s.tag k := h.low k hk.1
 have hmem : ∀ i, i ∈ (s.left k).q → i ∈ s.q := fun i hi' => (List.mem_filter.1 hi').1
 refine ⟨h.nodup.filter _, fun i hi' => hk.2 i (hmem i hi'), fun f => ?_, fun f => ?_, fun f hf => ?_, fun f hf => ?_⟩
 ·
  show (s.left k).begins fl inc f ≤ s.tag k
  by_cases e : fl k = f
  ·
   subst e
   unfold FQ.begins
   rw [of_left_same h hr]
   cases r with
   | nil => exact Int.le_refl _
   | cons b r =>
    have hc := h.chain (fl k)
    rw [hr] at hc
    show s.tag b - inc b ≤ s.tag k
    have := hc.1
    omega
  ·
   have hb := h.begin f
   unfold FQ.begins at hb ⊢
   rw [of_left_other e]
   cases hq : s.of fl f with
   | nil => exact Int.le_refl _
   | cons a r =>
    rw [hq] at hb
    show s.tag a - inc a ≤ s.tag k
    simp only at hb
    omega
 ·
  by_cases e : fl k = f
  ·
   subst e
   rw [of_left_same h hr]
   have hc := h.chain (fl k)
   rw [hr] at hc
   cases r with
   | nil => trivial
   | cons b r => exact hc.2
  ·
   rw [of_left_other e]
   exact h.chain f
 ·
  by_cases e : fl k = f
  ·
   subst e
   rw [of_left_same h hr] at hf ⊢
   have := h.ends (fl k) (by rw [hr]; simp)
   rw [hr] at this
   cases r with
   | nil => exact absurd rfl hf
   | cons b r => exact this
  ·
   rw [of_left_other e] at hf ⊢
   exact h.ends f hf
 ·
  show s.last f ≤ s.tag k
  by_cases e : fl k = f
  ·
   subst e
   rw [of_left_same h hr] at hf
   subst hf
   have := h.ends (fl k) (by rw [hr]; simp)
   rw [hr] at this
   rw [this]
   exact Int.le_refl _
  ·
   rw [of_left_other e] at hf
   have := h.idle f hf
   omega
end
end Go.Proofs.YtibhkijaafdkoaaGreatDoor

namespace Go.Proofs.YtibhkijaafdkoaaGreatDoor
def incOf (ps : List Pk) (ws : List Int) (k : Nat) : Int := sizeAt ps k * (12 / quOf ws (flowOf ps k))
def fairQ (ps : List Pk) (ws : List Int) : Que FQ where
 come := fun s k => s.come (flowOf ps) (incOf ps ws) k
 pick := fun s => s.q.getD (pickAt s.tag s.q) 0
 left := fun s => s.left (s.q.getD (pickAt s.tag s.q) 0)
 rest := fun s => s.q.length
 idle := FQ.rests
def fair0 : FQ := ⟨[], fun _ => 0, 0, fun _ => 0⟩
def WtsOk (ws : List Int) : Prop := ∀ f, 1 ≤ quOf ws f ∧ 12 / quOf ws f * quOf ws f = 12
section
variable {ps : List Pk} {ws : List Int} {per : Int}
theorem WtsOk.part (h : WtsOk ws) (f : Nat) : 1 ≤ 12 / quOf ws f ∧ 12 / quOf ws f ≤ 12 := by
 obtain ⟨h1, h2⟩ := h f
 have h3 : 0 ≤ 12 / quOf ws f := Int.ediv_nonneg (by omega) (by omega)
 constructor
 ·
  rcases Int.lt_or_le (12 / quOf ws f) 1 with h4 | h4
  ·
   have : 12 / quOf ws f = 0 := by omega
   rw [this] at h2
   omega
  · exact h4
 ·
  have := Int.mul_le_mul_of_nonneg_left h1 h3
  omega
theorem incOf_in (hw : WtsOk ws) (ho : OkPks ps) (k : Nat) : 1 ≤ incOf ps ws k ∧ incOf ps ws k ≤ 18000 := by
 obtain ⟨h1, h2⟩ := hw.part (flowOf ps k)
 obtain ⟨h3, h4⟩ := sizeAt_in ho k
 unfold incOf
 have a1 : 1 * 1 ≤ sizeAt ps k * (12 / quOf ws (flowOf ps k)) := Int.mul_le_mul h3 h1 (by omega) (by omega)
 have a2 : sizeAt ps k * (12 / quOf ws (flowOf ps k)) ≤ 1500 * 12 := Int.mul_le_mul h4 h2 (by omega) (by omega)
 omega
theorem least_first {tag : Nat → Int} {q : List Nat} (h : 0 < q.length) : q.getD (pickAt tag q) 0 ∈ q ∧ ∀ i, i ∈ q → tag (q.getD (pickAt tag q) 0) ≤ tag i := by
 have hl := pickAt_lt tag h
 refine ⟨by rw [getD_lt hl]; exact List.getElem_mem _, fun i hi => ?_⟩
 obtain ⟨j, hj, e⟩ := List.getElem_of_mem hi
 have := firstLeast_min tag q q.length j hj
 rw [getD_lt (d := 0) hj, e] at this
 have e2 : pickAt tag q = firstLeast tag q q.length := rfl
 rw [e2]
 omega
theorem filter_erase {q : List Nat} (h : q.Nodup) {k : Nat} (hk : k ∈ q) : (q.filter fun i => i != k).length + 1 = q.length := by
 have := h.erase_eq_filter k
 rw [← this, List.length_erase_of_mem hk]
 have : 0 < q.length := List.length_pos_of_mem hk
 omega
structure FairRun (ps : List Pk) (ws : List Int) (s : St FQ) (H : List (FQ × FQ)) : Prop where
 state : FQOk (flowOf ps) (incOf ps ws) s.q
 rises : s.q.q.Pairwise (· < ·)
 len : H.length = s.out.length
 each : ∀ (i : Nat) x h, s.out[i]? = some x → H[i]? = some h → ∃ k : Nat, x.num = k ∧ FQOk (flowOf ps) (incOf ps ws) h.1 ∧ h.1.Least k ∧ h.2 = h.1.left k ∧ ∀ w : Nat, w < ps.length → tickOf ps w ≤ x.beg → isDone (s.out.take (i + 1)) w = false → w ∈ h.2.q
 next : ∀ (i : Nat) h h', H[i]? = some h → H[i + 1]? = some h' → ∀ f, h.2.of (flowOf ps) f ≠ [] → h'.1.begins (flowOf ps) (incOf ps ws) f = h.2.begins (flowOf ps) (incOf ps ws) f
 last : ∀ h, H[H.length - 1]? = some h → 0 < H.length → ∀ f, h.2.of (flowOf ps) f ≠ [] → s.q.of (flowOf ps) f ≠ [] ∧ s.q.begins (flowOf ps) (incOf ps ws) f = h.2.begins (flowOf ps) (incOf ps ws) f
 clock : ∀ x, s.out[s.out.length - 1]? = some x → x.fin ≤ s.now ∧ (x.fin = s.now → s.q.v = s.q.tag x.num.toNat)
 busy : ∀ (i : Nat) x y, s.out[i]? = some x → s.out[i + 1]? = some y → y.beg = x.fin → s.q.tag x.num.toNat ≤ s.q.tag y.num.toNat
 wait : ∀ w, w < s.next → isDone s.out w = false → w ∈ s.q.q
 only : ∀ w, w ∈ s.q.q → w < s.next ∧ isDone s.out w = false
 le : s.next ≤ ps.length
 gone : ∀ w : Nat, isDone s.out w = true → w < s.next
 nums : ∀ (i : Nat) x, s.out[i]? = some x → ∃ k : Nat, x.num = k ∧ k < s.next
 within : ∀ (i : Nat) h, H[i]? = some h → ∀ k, k ∈ h.1.q → k < ps.length
theorem snoc_get {α : Type} {l : List α} {y x : α} {i : Nat} (h : (l ++ [y])[i]? = some x) : (i < l.length ∧ l[i]? = some x) ∨ (i = l.length ∧ x = y) := by
 have hl := lt_of_get h
 rw [List.length_append, List.length_cons, List.length_nil] at hl
 rcases Nat.lt_or_ge i l.length with h' | h'
 · rw [List.getElem?_append_left h'] at h; exact .inl ⟨h', h⟩
 ·
  obtain rfl : i = l.length := by omega
  rw [List.getElem?_append_right (Nat.le_refl _), Nat.sub_self, List.getElem?_cons_zero] at h
  exact .inr ⟨rfl, (Option.some.inj h).symm⟩
theorem fair_run (hw : WtsOk ws) (ho : OkPks ps) (hper : 1 ≤ per) {s : St FQ} (h : Reaches (fairQ ps ws) per ps fair0 s) : ∃ H, FairRun ps ws s H := by
 refine h.by_steps (C := fun s => ∃ H, FairRun ps ws s H) ?_ ?_ ?_ ?_
 · exact ⟨[], FQOk.start _ _ _, List.Pairwise.nil, rfl, (fun i x h hx => by simp at hx), (fun i h h' hx => by simp at hx), (fun h _ h0 => by simp at h0), (fun x hx => by simp at hx), (fun i x y hx => by simp at hx), (fun w hw => absurd hw (Nat.not_lt_zero _)), (fun w hw => by cases hw), Nat.zero_le _, (fun w hw => by simp [isDone] at hw), (fun i x hx => by simp at hx), fun i h hh => by simp at hh⟩
 ·
  rintro s p hs hp ht ⟨H, r⟩
  have hlt := lt_of_get hp
  have hnew : isDone s.out s.next = false := by
   cases hd : isDone s.out s.next with
   | false => rfl
   | true => have := r.gone _ hd; omega
  have hk : s.next ∉ s.q.q := fun hm => by have := (r.only _ hm).1; omega
  have hi := (incOf_in hw ho s.next).1
  have htag : ∀ (i : Nat) x, s.out[i]? = some x → ((fairQ ps ws).come s.q s.next).tag x.num.toNat = s.q.tag x.num.toNat := fun i x hx => by
   obtain ⟨k, e, hk'⟩ := r.nums i x hx
   refine put1_other _ _ ?_
   rw [e, Int.toNat_natCast]
   omega
  refine ⟨H, r.state.come hk (by omega), ?_, r.len, r.each, r.next, fun h hh h0 f hf => ?_, fun x hx => ?_, fun i x y hx hy hb => ?_, fun w hw hd => ?_, fun w hw => ?_, hlt, fun w hw => Nat.lt_succ_of_lt (r.gone w hw), fun i x hx => ?_, r.within⟩
  ·
   refine List.pairwise_append.2 ⟨r.rises, List.pairwise_singleton _ _, fun a ha b hb => ?_⟩
   rw [List.mem_singleton] at hb
   have := (r.only a ha).1
   omega
  ·
   obtain ⟨g1, g2⟩ := r.last h hh h0 f hf
   obtain ⟨c1, c2⟩ := begins_come (inc := incOf ps ws) hk g1
   exact ⟨c2, c1.trans g2⟩
  ·
   obtain ⟨c1, c2⟩ := r.clock x hx
   refine ⟨c1, fun e => ?_⟩
   show s.q.v = _
   rw [htag _ x hx]
   exact c2 e
  ·
   show ((fairQ ps ws).come s.q s.next).tag _ ≤ ((fairQ ps ws).come s.q s.next).tag _
   rw [htag _ x hx, htag _ y hy]
   exact r.busy i x y hx hy hb
  ·
   show w ∈ s.q.q ++ [s.next]
   rcases Nat.lt_or_ge w s.next with hw' | hw'
   · exact List.mem_append.2 (.inl (r.wait w hw' hd))
   ·
    obtain rfl : w = s.next := by simp only at hw; omega
    exact List.mem_append.2 (.inr (List.mem_singleton.2 rfl))
  ·
   have hw2 : w ∈ s.q.q ++ [s.next] := hw
   rcases List.mem_append.1 hw2 with hw3 | hw3
   ·
    obtain ⟨g1, g2⟩ := r.only w hw3
    exact ⟨Nat.lt_succ_of_lt g1, g2⟩
   ·
    rw [List.mem_singleton] at hw3
    subst hw3
    exact ⟨Nat.lt_succ_self _, hnew⟩
  ·
   obtain ⟨k, e, hk'⟩ := r.nums i x hx
   exact ⟨k, e, Nat.lt_succ_of_lt hk'⟩
 ·
  rintro s p hs hall h0 hp ⟨H, r⟩
  obtain ⟨l1, l2⟩ := least_first (tag := s.q.tag) (q := s.q.q) h0
  obtain ⟨k, hk⟩ : ∃ k, k = (fairQ ps ws).pick s.q := ⟨_, rfl⟩
  have hkd : s.q.q.getD (pickAt s.q.tag s.q.q) 0 = k := hk.symm
  have hleft : (fairQ ps ws).left s.q = s.q.left k := by rw [hk]; rfl
  rw [hkd] at l1 l2
  rw [← hk] at hp ⊢
  rw [hleft]
  have hL : s.q.Least k := ⟨l1, l2⟩
  have hinc : ∀ i, i ∈ s.q.q → 1 ≤ incOf ps ws i := fun i _ => (incOf_in hw ho i).1
  obtain ⟨-, -, z1, -, -, -⟩ := okPk_true (ho.each _ p hp).1
  have hpos : 1 * 1 ≤ per * p.size := Int.mul_le_mul hper z1 (by omega) (by omega)
  obtain ⟨k1, k2⟩ := r.only k l1
  have hstay : ∀ w, w ∈ s.q.q → w ≠ k → w ∈ (s.q.left k).q := fun w hw hne => List.mem_filter.2 ⟨hw, by simp [hne]⟩
  have hnd : ∀ w : Nat, isDone (s.out ++ [⟨(k : Nat), s.now, s.now + per * p.size⟩]) w = false → isDone s.out w = false ∧ w ≠ k := by
   intro w hw
   rw [isDone_snoc, Bool.or_eq_false_iff] at hw
   exact ⟨hw.1, fun e => beq_eq_false_iff_ne.1 hw.2 e.symm⟩
  refine ⟨H ++ [(s.q, s.q.left k)], r.state.left hinc hL, r.rises.filter _, by simp [r.len], fun i x h hx hh => ?_, fun i h h' hh hh' f hf => ?_, fun h hh _ f hf => ?_, fun x hx => ?_, fun i x y hx hy hb => ?_, fun w hw hd => ?_, fun w hw => ?_, r.le, fun w hw => ?_, fun i x hx => ?_, fun i h hh => ?_⟩
  ·
   rcases snoc_get hx with ⟨h', hx⟩ | ⟨rfl, rfl⟩
   ·
    rw [List.getElem?_append_left (by rw [r.len]; exact h')] at hh
    simp only [List.take_append_of_le_length (show i + 1 ≤ s.out.length by omega)]
    exact r.each i x h hx hh
   ·
    rw [List.getElem?_append_right (by rw [r.len]; exact Nat.le_refl _), r.len, Nat.sub_self, List.getElem?_cons_zero] at hh
    have hh := Option.some.inj hh
    subst hh
    refine ⟨k, rfl, r.state, hL, rfl, fun w hw ht hd => ?_⟩
    rw [List.take_of_length_le (by simp)] at hd
    obtain ⟨d1, d2⟩ := hnd w hd
    refine hstay w (r.wait w ?_ d1) d2
    rcases Nat.lt_or_ge w s.next with h3 | h3
    · exact h3
    ·
     have hnl : s.next < ps.length := by omega
     have e : ps[s.next]? = some ps[s.next] := List.getElem?_eq_getElem hnl
     have a1 := hall _ e
     have a2 := ticks_le ho h3 hw
     rw [tickOf_get e] at a2
     simp only at ht
     omega
  ·
   have hil := lt_of_get hh'
   simp only [List.length_append, List.length_cons, List.length_nil] at hil
   rcases Nat.lt_or_ge (i + 1) H.length with h3 | h3
   ·
    rw [List.getElem?_append_left (by omega)] at hh
    rw [List.getElem?_append_left h3] at hh'
    exact r.next i h h' hh hh' f hf
   ·
    have e1 : i + 1 = H.length := by omega
    rw [List.getElem?_append_left (by omega)] at hh
    rw [List.getElem?_append_right (by omega), e1, Nat.sub_self, List.getElem?_cons_zero] at hh'
    have hh' := Option.some.inj hh'
    subst hh'
    exact (r.last h (by rw [show H.length - 1 = i by omega]; exact hh) (by omega) f hf).2
  ·
   simp only [List.length_append, List.length_cons, List.length_nil, Nat.add_sub_cancel] at hh
   rw [List.getElem?_append_right (Nat.le_refl _), Nat.sub_self, List.getElem?_cons_zero] at hh
   have hh := Option.some.inj hh
   subst hh
   exact ⟨hf, rfl⟩
  ·
   simp only [List.length_append, List.length_cons, List.length_nil, Nat.add_sub_cancel] at hx
   rw [List.getElem?_append_right (Nat.le_refl _), Nat.sub_self, List.getElem?_cons_zero] at hx
   have hx := Option.some.inj hx
   subst hx
   refine ⟨Int.le_refl _, fun _ => ?_⟩
   show s.q.tag k = s.q.tag ((k : Nat) : Int).toNat
   rw [Int.toNat_natCast]
  ·
   show s.q.tag _ ≤ s.q.tag _
   rcases snoc_get hy with ⟨h', hy⟩ | ⟨e, rfl⟩
   ·
    rcases snoc_get hx with ⟨-, hx⟩ | ⟨e, -⟩
    · exact r.busy i x y hx hy hb
    · omega
   ·
    rcases snoc_get hx with ⟨-, hx⟩ | ⟨e', -⟩
    ·
     obtain ⟨-, c2⟩ := r.clock x (by rw [show s.out.length - 1 = i by omega]; exact hx)
     have hv := c2 hb.symm
     have := r.state.low k l1
     simp only [Int.toNat_natCast]
     omega
    · omega
  ·
   obtain ⟨d1, d2⟩ := hnd w hd
   exact hstay w (r.wait w hw d1) d2
  ·
   obtain ⟨w1, w2⟩ := List.mem_filter.1 (show w ∈ s.q.q.filter fun i => i != k from hw)
   obtain ⟨g1, g2⟩ := r.only w w1
   refine ⟨g1, ?_⟩
   rw [isDone_snoc, g2, Bool.false_or]
   exact beq_eq_false_iff_ne.2 (fun e => (bne_iff_ne.1 w2) e.symm)
  ·
   rw [isDone_snoc, Bool.or_eq_true] at hw
   show w < s.next
   rcases hw with hw | hw
   · exact r.gone w hw
   ·
    have := beq_iff_eq.1 hw
    omega
  ·
   rcases snoc_get hx with ⟨-, hx⟩ | ⟨-, rfl⟩
   · exact r.nums i x hx
   · exact ⟨k, rfl, k1⟩
  ·
   rcases snoc_get hh with ⟨-, hh⟩ | ⟨-, rfl⟩
   · exact r.within i h hh
   · exact fun k hk => Nat.lt_of_lt_of_le (r.only k hk).1 r.le
 ·
  rintro s p hs hp ht h0 ⟨H, r⟩
  have hq : s.q.q = [] := List.length_eq_zero_iff.1 h0
  refine ⟨H, r.state.rests hq, r.rises, r.len, r.each, r.next, fun h hh h0 f hf => ?_, fun x hx => ?_, r.busy, r.wait, r.only, r.le, r.gone, r.nums, r.within⟩
  ·
   obtain ⟨g1, -⟩ := r.last h hh h0 f hf
   refine absurd ?_ g1
   unfold FQ.of
   rw [hq]
   rfl
  ·
   obtain ⟨c1, -⟩ := r.clock x hx
   refine ⟨by simp only; omega, fun e => ?_⟩
   simp only at e
   omega
end
end Go.Proofs.YtibhkijaafdkoaaGreatDoor

namespace Go.Proofs.YtibhkijaafdkoaaGreatDoor
section
variable {ps : List Pk} {ws : List Int} {per : Int}
theorem fair_law (hw : WtsOk ws) (ho : OkPks ps) (hper : 1 ≤ per) : QueLaw (fairQ ps ws) per ps fair0 where
 none := rfl
 come := fun s _ _ => by
  show (s.q.q ++ [s.next]).length = _
  simp [fairQ]
 left := fun s hr h0 => by
  obtain ⟨H, r⟩ := fair_run hw ho hper hr
  obtain ⟨l1, -⟩ := least_first (tag := s.q.tag) (q := s.q.q) h0
  exact filter_erase r.state.nodup l1
 pick := fun s hr h0 => by
  obtain ⟨H, r⟩ := fair_run hw ho hper hr
  obtain ⟨l1, -⟩ := least_first (tag := s.q.tag) (q := s.q.q) h0
  exact (r.only _ l1).1
 idle := fun s _ h => h
theorem fair_tags (hw : WtsOk ws) (ho : OkPks ps) {s : St FQ} (h : Reaches (fairQ ps ws) per ps fair0 s) : (0 ≤ s.q.v ∧ s.q.v ≤ 18000 * (s.next : Int)) ∧ (∀ f, 0 ≤ s.q.last f ∧ s.q.last f ≤ 18000 * (s.next : Int)) ∧ ∀ k, 0 ≤ s.q.tag k ∧ s.q.tag k ≤ 18000 * (s.next : Int) := by
 refine h.by_steps (C := fun s : St FQ => (0 ≤ s.q.v ∧ s.q.v ≤ 18000 * (s.next : Int)) ∧ (∀ f, 0 ≤ s.q.last f ∧ s.q.last f ≤ 18000 * (s.next : Int)) ∧ ∀ k, 0 ≤ s.q.tag k ∧ s.q.tag k ≤ 18000 * (s.next : Int)) ⟨⟨Int.le_refl _, Int.le_refl _⟩, fun _ => ⟨Int.le_refl _, Int.le_refl _⟩, fun _ => ⟨Int.le_refl _, Int.le_refl _⟩⟩ ?_ ?_ ?_
 ·
  rintro s p hs hp ht ⟨⟨a1, a2⟩, b, c⟩
  obtain ⟨i1, i2⟩ := incOf_in hw ho s.next
  obtain ⟨f1, f2⟩ := b (flowOf ps s.next)
  refine ⟨⟨a1, ?_⟩, fun f => ?_, fun k => ?_⟩
  ·
   show s.q.v ≤ _
   simp only
   omega
  ·
   show 0 ≤ put1 s.q.last (flowOf ps s.next) (max s.q.v (s.q.last (flowOf ps s.next)) + incOf ps ws s.next) f ∧ put1 s.q.last (flowOf ps s.next) (max s.q.v (s.q.last (flowOf ps s.next)) + incOf ps ws s.next) f ≤ 18000 * ((s.next + 1 : Nat) : Int)
   by_cases e : f = flowOf ps s.next
   ·
    rw [e, put1_same]
    omega
   ·
    rw [put1_other _ _ e]
    have := b f
    omega
  ·
   show 0 ≤ put1 s.q.tag s.next (max s.q.v (s.q.last (flowOf ps s.next)) + incOf ps ws s.next) k ∧ put1 s.q.tag s.next (max s.q.v (s.q.last (flowOf ps s.next)) + incOf ps ws s.next) k ≤ 18000 * ((s.next + 1 : Nat) : Int)
   by_cases e : k = s.next
   ·
    rw [e, put1_same]
    omega
   ·
    rw [put1_other _ _ e]
    have := c k
    omega
 ·
  rintro s p hs hall h0 hp ⟨a, b, c⟩
  exact ⟨c _, b, c⟩
 ·
  rintro s p hs hp ht h0 ⟨a, b, c⟩
  exact ⟨⟨Int.le_refl _, by simp only [fairQ, FQ.rests]; omega⟩, fun f => ⟨Int.le_refl _, by simp only [fairQ, FQ.rests]; omega⟩, c⟩
end
end Go.Proofs.YtibhkijaafdkoaaGreatDoor

namespace Go.Proofs.YtibhkijaafdkoaaGreatDoor
def FairSent (per : Int) (ps : List Pk) (ws : List Int) (l : List Sn) (ts : List Int) : Prop := ∃ s, Reaches (fairQ ps ws) per ps fair0 s ∧ ¬ s.next < ps.length ∧ (fairQ ps ws).rest s.q = 0 ∧ s.out = l ∧ (List.range ps.length).map s.q.tag = ts
theorem FairSent.same {per : Int} {ps : List Pk} {ws : List Int} {l m : List Sn} {ts us : List Int} (h : FairSent per ps ws l ts) (k : FairSent per ps ws m us) : l = m ∧ ts = us := by
 obtain ⟨s, h1, h2, h3, rfl, rfl⟩ := h
 obtain ⟨t, k1, k2, k3, rfl, rfl⟩ := k
 rw [reaches_same h1 k1 h2 h3 k2 k3]
 exact ⟨rfl, rfl⟩
section
variable {per : Int} {ps : List Pk} {ws : List Int} {l : List Sn} {ts : List Int}
theorem FairSent.length (hw : WtsOk ws) (ho : OkPks ps) (hper : 1 ≤ per) (h : FairSent per ps ws l ts) : l.length = ps.length ∧ ts.length = ps.length := by
 obtain ⟨s, h1, h2, h3, rfl, rfl⟩ := h
 have := h1.count (fair_law hw ho hper)
 have := h1.next_le
 exact ⟨by omega, by simp⟩
end
structure FoIn (per : Int) (ps : List Pk) (ws : List Int) (s0 s : St FQ) (i : Nat) (first best : Int) : Prop where
 reach : Reaches (fairQ ps ws) per ps fair0 s
 from_ : Reaches (fairQ ps ws) per ps fair0 s0
 out : s.out = s0.out
 now : s.now = s0.now
 seen : ∀ j, j < i → tickOf ps j ≤ s.now → j < s.next
 first : (first = -1 ∧ ∀ j, j < i → isDone s.out j = true) ∨ ∃ f : Nat, first = f ∧ f < i ∧ isDone s.out f = false ∧ ∀ j, j < f → isDone s.out j = true
 best : (best = -1 ∧ ∀ j, j < i → j ∉ s.q.q) ∨ ∃ b : Nat, best = b ∧ b < i ∧ b ∈ s.q.q ∧ ∀ j, j < i → j ∈ s.q.q → s.q.tag b < s.q.tag j ∨ (s.q.tag b = s.q.tag j ∧ b ≤ j)
section
variable {per : Int} {ps : List Pk} {ws : List Int} {s0 s : St FQ} {i : Nat} {first best : Int}
theorem FoIn.start (h : Reaches (fairQ ps ws) per ps fair0 s0) : FoIn per ps ws s0 s0 0 (-1) (-1) :=
 ⟨h, h, rfl, rfl, fun _ hj => absurd hj (Nat.not_lt_zero _), .inl ⟨rfl, fun _ hj => absurd hj (Nat.not_lt_zero _)⟩, .inl ⟨rfl, fun _ hj => absurd hj (Nat.not_lt_zero _)⟩⟩
theorem FoIn.comes (ho : OkPks ps) (h : FoIn per ps ws s0 s i first best) {p : Pk} (hp : ps[i]? = some p) (hn : ¬ i < s.next) (ht : p.tick ≤ s.now) :
  i = s.next ∧ FoIn per ps ws s0 ⟨s.out, s.now, s.next + 1, s.q.come (flowOf ps) (incOf ps ws) i⟩ i first best := by
 have e : i = s.next := by
  rcases Nat.lt_or_ge s.next i with h1 | h1
  ·
   have h2 := ticks_le ho (Nat.le_of_lt h1) (lt_of_get hp)
   rw [tickOf_get hp] at h2
   have := h.seen s.next h1 (by omega)
   omega
  · omega
 refine ⟨e, ?_⟩
 have hin : ∀ j, j < i → (j ∈ (s.q.come (flowOf ps) (incOf ps ws) i).q ↔ j ∈ s.q.q) := fun j hj => by
  show j ∈ s.q.q ++ [i] ↔ _
  rw [List.mem_append, List.mem_singleton]
  exact ⟨fun h => h.elim id (fun h => by omega), .inl⟩
 have htag : ∀ j, j < i → (s.q.come (flowOf ps) (incOf ps ws) i).tag j = s.q.tag j := fun j hj => put1_other _ _ (by omega)
 refine ⟨?_, h.from_, h.out, h.now, fun j hj ht => by have := h.seen j hj ht; simp only; omega, h.first, ?_⟩
 ·
  have := Reaches.come s p h.reach (by rw [← e]; exact hp) ht
  rw [← e] at this ⊢
  exact this
 ·
  rcases h.best with ⟨b1, b2⟩ | ⟨b, b1, b2, b3, b4⟩
  · exact .inl ⟨b1, fun j hj hm => b2 j hj ((hin j hj).1 hm)⟩
  ·
   refine .inr ⟨b, b1, b2, (hin b b2).2 b3, fun j hj hm => ?_⟩
   show (s.q.come (flowOf ps) (incOf ps ws) i).tag b < (s.q.come (flowOf ps) (incOf ps ws) i).tag j ∨ ((s.q.come (flowOf ps) (incOf ps ws) i).tag b = (s.q.come (flowOf ps) (incOf ps ws) i).tag j ∧ b ≤ j)
   rw [htag b b2, htag j hj]
   exact b4 j hj ((hin j hj).1 hm)
theorem FoIn.waits (hw : WtsOk ws) (ho : OkPks ps) (hper : 1 ≤ per) (h : FoIn per ps ws s0 s i first best) (j : Nat) : j ∈ s.q.q ↔ j < s.next ∧ isDone s.out j = false := by
 obtain ⟨H, r⟩ := fair_run hw ho hper h.reach
 exact ⟨r.only j, fun h => r.wait j h.1 h.2⟩
theorem upto {P : Nat → Prop} {i : Nat} (h : ∀ j, j < i → P j) (hi : P i) : ∀ j, j < i + 1 → P j := fun j hj => by
 rcases Nat.lt_or_ge j i with h' | h'
 · exact h j h'
 ·
  obtain rfl : j = i := by omega
  exact hi
theorem FoIn.pass (hw : WtsOk ws) (ho : OkPks ps) (hper : 1 ≤ per) (h : FoIn per ps ws s0 s i first best) (hs : tickOf ps i ≤ s.now → i < s.next) (hd : isDone s.out i = true) : FoIn per ps ws s0 s (i + 1) first best := by
 have hni : i ∉ s.q.q := fun hm => by rw [((h.waits hw ho hper i).1 hm).2] at hd; cases hd
 refine ⟨h.reach, h.from_, h.out, h.now, upto h.seen hs, ?_, ?_⟩
 ·
  rcases h.first with ⟨b1, b2⟩ | ⟨f, b1, b2, b3⟩
  · exact .inl ⟨b1, upto b2 hd⟩
  · exact .inr ⟨f, b1, Nat.lt_succ_of_lt b2, b3⟩
 ·
  rcases h.best with ⟨b1, b2⟩ | ⟨b, b1, b2, b3, b4⟩
  · exact .inl ⟨b1, upto b2 hni⟩
  · exact .inr ⟨b, b1, Nat.lt_succ_of_lt b2, b3, upto b4 fun hm => absurd hm hni⟩
theorem FoIn.first_is (h : FoIn per ps ws s0 s i first best) (hd : isDone s.out i = false) {first' : Int} (hf : first' = if first < 0 then (i : Int) else first) : ∃ f : Nat, first' = f ∧ f < i + 1 ∧ isDone s.out f = false ∧ ∀ j, j < f → isDone s.out j = true := by
 rcases h.first with ⟨b1, b2⟩ | ⟨f, b1, b2, b3⟩
 ·
  rw [b1, if_pos (by omega)] at hf
  exact ⟨i, hf, Nat.lt_succ_self _, hd, b2⟩
 ·
  rw [b1, if_neg (by omega)] at hf
  exact ⟨f, hf, Nat.lt_succ_of_lt b2, b3⟩
theorem FoIn.keeps (hw : WtsOk ws) (ho : OkPks ps) (hper : 1 ≤ per) (h : FoIn per ps ws s0 s i first best) (hs : tickOf ps i ≤ s.now → i < s.next) (hd : isDone s.out i = false) {first' : Int} (hf : first' = if first < 0 then (i : Int) else first) (hb : ¬ i < s.next ∨ ∃ b : Nat, best = b ∧ s.q.tag b ≤ s.q.tag i) : FoIn per ps ws s0 s (i + 1) first' best := by
 refine ⟨h.reach, h.from_, h.out, h.now, upto h.seen hs, .inr (h.first_is hd hf), ?_⟩
 rcases hb with hn | ⟨c, hc1, hc2⟩
 ·
  have hni : i ∉ s.q.q := fun hm => hn ((h.waits hw ho hper i).1 hm).1
  rcases h.best with ⟨b1, b2⟩ | ⟨b, b1, b2, b3, b4⟩
  · exact .inl ⟨b1, upto b2 hni⟩
  · exact .inr ⟨b, b1, Nat.lt_succ_of_lt b2, b3, upto b4 fun hm => absurd hm hni⟩
 ·
  rcases h.best with ⟨b1, b2⟩ | ⟨b, b1, b2, b3, b4⟩
  · omega
  ·
   obtain rfl : c = b := by omega
   exact .inr ⟨c, b1, Nat.lt_succ_of_lt b2, b3, upto b4 fun hm => by omega⟩
theorem FoIn.takes (hw : WtsOk ws) (ho : OkPks ps) (hper : 1 ≤ per) (h : FoIn per ps ws s0 s i first best) (hs : i < s.next) (hd : isDone s.out i = false) {first' : Int} (hf : first' = if first < 0 then (i : Int) else first) (hb : best = -1 ∨ ∃ b : Nat, best = b ∧ s.q.tag i < s.q.tag b) : FoIn per ps ws s0 s (i + 1) first' i := by
 refine ⟨h.reach, h.from_, h.out, h.now, upto h.seen fun _ => hs, .inr (h.first_is hd hf), .inr ⟨i, rfl, Nat.lt_succ_self _, (h.waits hw ho hper i).2 ⟨hs, hd⟩, upto (fun j hj hm => ?_) fun _ => .inr ⟨rfl, Nat.le_refl _⟩⟩⟩
 rcases h.best with ⟨b1, b2⟩ | ⟨b, b1, b2, b3, b4⟩
 · exact absurd hm (b2 j hj)
 ·
  rcases hb with hb | ⟨c, hc1, hc2⟩
  · omega
  ·
   obtain rfl : c = b := by omega
   have := b4 j hj hm
   omega
theorem FoIn.none (hw : WtsOk ws) (ho : OkPks ps) (hper : 1 ≤ per) (h : FoIn per ps ws s0 s ps.length first best) (hb : best < 0) (hl : s.out.length < ps.length) :
  ∃ p, first = (s.next : Int) ∧ ps[s.next]? = some p ∧ Reaches (fairQ ps ws) per ps fair0 ⟨s.out, p.tick, s.next, s.q.rests⟩ ∧ ¬ ∃ p, ps[s0.next]? = some p ∧ p.tick ≤ s0.now := by
 obtain ⟨H, r⟩ := fair_run hw ho hper h.reach
 obtain ⟨H0, r0⟩ := fair_run hw ho hper h.from_
 have hno : ∀ j, j < ps.length → j ∉ s.q.q := by
  rcases h.best with ⟨b1, b2⟩ | ⟨b, b1, -⟩
  · exact b2
  · omega
 have hq : s.q.q = [] := by
  cases e : s.q.q with
  | nil => rfl
  | cons k t =>
   have hm : k ∈ s.q.q := by rw [e]; exact List.mem_cons_self ..
   have := (r.only k hm).1
   have := r.le
   exact absurd hm (hno k (by omega))
 have hrest : (fairQ ps ws).rest s.q = 0 := by show s.q.q.length = 0; rw [hq]; rfl
 have hc := h.reach.count (fair_law hw ho hper)
 have hn : s.next < ps.length := by omega
 have hnd : isDone s.out s.next = false := by
  cases hd : isDone s.out s.next with
  | false => rfl
  | true => have := r.gone _ hd; omega
 have hdone : ∀ j, j < s.next → isDone s.out j = true := fun j hj => by
  cases hd : isDone s.out j with
  | true => rfl
  | false =>
   have := r.wait j hj hd
   rw [hq] at this
   cases this
 have e : ps[s.next]? = some ps[s.next] := List.getElem?_eq_getElem hn
 have htick : s.now < tickOf ps s.next := by
  rcases Int.lt_or_le s.now (tickOf ps s.next) with h' | h'
  · exact h'
  ·
   have := h.seen s.next hn h'
   omega
 refine ⟨_, ?_, e, ?_, ?_⟩
 ·
  rcases h.first with ⟨b1, b2⟩ | ⟨f, b1, b2, b3, b4⟩
  · rw [b2 s.next hn] at hnd; cases hnd
  ·
   have h1 : ¬ s.next < f := fun hlt => by rw [b4 _ hlt] at hnd; cases hnd
   have h2 : ¬ f < s.next := fun hlt => by rw [hdone _ hlt] at b3; cases b3
   rw [b1]
   omega
 · exact Reaches.idle s _ h.reach e (by rw [← tickOf_get e]; exact htick) hrest
 ·
  rintro ⟨p, hp, ht⟩
  have hl0 := lt_of_get hp
  have h1 := h.seen s0.next hl0 (by rw [tickOf_get hp, h.now]; exact ht)
  have h2 : isDone s.out s0.next = false := by
   rw [h.out]
   cases hd : isDone s0.out s0.next with
   | false => rfl
   | true => have := r0.gone _ hd; omega
  exact hno _ hl0 (r.wait _ h1 h2)
theorem FoIn.one (hw : WtsOk ws) (ho : OkPks ps) (hper : 1 ≤ per) (h : FoIn per ps ws s0 s ps.length first best) (hb : ¬ best < 0) :
  ∃ (b : Nat) (p : Pk), best = b ∧ ps[b]? = some p ∧ isDone s.out b = false ∧ Reaches (fairQ ps ws) per ps fair0 ⟨s.out ++ [⟨(b : Nat), s.now, s.now + per * p.size⟩], s.now + per * p.size, s.next, s.q.left b⟩ := by
 obtain ⟨H, r⟩ := fair_run hw ho hper h.reach
 rcases h.best with ⟨b1, -⟩ | ⟨b, b1, b2, b3, b4⟩
 · omega
 ·
  have hlen : 0 < s.q.q.length := List.length_pos_of_mem b3
  have hpl := pickAt_lt s.q.tag hlen
  obtain ⟨l1, l2⟩ := least_first (tag := s.q.tag) (q := s.q.q) hlen
  obtain ⟨k, hk⟩ : ∃ k, k = (fairQ ps ws).pick s.q := ⟨_, rfl⟩
  have hkd : s.q.q.getD (pickAt s.q.tag s.q.q) 0 = k := hk.symm
  have hkb : k = b := by
   have hkm : k ∈ s.q.q := by rw [← hkd]; exact l1
   have c1 := b4 k (by have := (r.only k hkm).1; have := r.le; omega) hkm
   obtain ⟨j, hj, ej⟩ := List.getElem_of_mem b3
   have c2 := firstLeast_min s.q.tag s.q.q s.q.q.length j hj
   have e2 : firstLeast s.q.tag s.q.q s.q.q.length = pickAt s.q.tag s.q.q := rfl
   rw [e2, hkd, getD_lt (d := 0) hj, ej] at c2
   have hkb : k ≤ b ∨ s.q.tag k < s.q.tag b := by
    rcases c2 with c2 | ⟨-, c2⟩
    · exact .inr c2
    ·
     refine .inl ?_
     rw [← hkd, getD_lt (d := 0) hpl, ← ej]
     rcases Nat.lt_or_eq_of_le c2 with c3 | c3
     · exact Nat.le_of_lt (List.pairwise_iff_getElem.1 r.rises _ _ hpl hj c3)
     · simp only [c3]; exact Nat.le_refl _
   omega
  have hlt : b < ps.length := b2
  have e : ps[b]? = some ps[b] := List.getElem?_eq_getElem hlt
  refine ⟨b, _, b1, e, (r.only b b3).2, ?_⟩
  have := Reaches.send s ps[b] h.reach (fun q hq => by
   rcases Int.lt_or_le s.now q.tick with h' | h'
   · exact h'
   ·
    have := h.seen s.next (lt_of_get hq) (by rw [tickOf_get hq]; exact h')
    omega) hlen (by rw [← hk, hkb]; exact e)
  have hleft : (fairQ ps ws).left s.q = s.q.left b := by rw [← hkb, ← hkd]; rfl
  rw [← hk, hkb, hleft] at this
  exact this
end
end Go.Proofs.YtibhkijaafdkoaaGreatDoor

namespace Go.Proofs.YtibhkijaafdkoaaGreatDoor
structure MayLaw {σ : Type} (Q : Que σ) (per : Int) (ps : List Pk) (q0 : σ) : Prop where
 law : QueLaw Q per ps q0
 pick : ∀ s, Reaches Q per ps q0 s → 0 < Q.rest s.q → isDone s.out (Q.pick s.q) = false ∧ ∀ j, j < Q.pick s.q → flowOf ps j = flowOf ps (Q.pick s.q) → isDone s.out j = true
 none : ∀ s, Reaches Q per ps q0 s → Q.rest s.q = 0 → ∀ i, i < s.next → isDone s.out i = true
structure MayRun {σ : Type} (per : Int) (ps : List Pk) (s : St σ) : Prop where
 conv : Conv per ps s.out
 turns : Turns ps s.out
 gone : ∀ i : Nat, isDone s.out i = true → i < s.next
 came : ∀ i, i < s.next → tickOf ps i ≤ s.now
 now : s.now = lastFin s.out ∨ ((∀ i, Undone ps.length s.out i → lastFin s.out < tickOf ps i) ∧ ∃ i, Undone ps.length s.out i ∧ s.now = tickOf ps i ∧ ∀ k, Undone ps.length s.out k → tickOf ps i ≤ tickOf ps k)
theorem may_run {σ : Type} {Q : Que σ} {per : Int} {ps : List Pk} {q0 : σ} {s : St σ} (hQ : MayLaw Q per ps q0) (hper : 0 ≤ per) (ho : OkPks ps) (h : Reaches Q per ps q0 s) : MayRun per ps s := by
 refine h.by_steps (C := fun s => MayRun per ps s) ⟨fun k x hx => by simp at hx, fun k x hx => by simp at hx, (fun i hi => by simp [isDone] at hi), fun i hi => absurd hi (Nat.not_lt_zero _), .inl rfl⟩ ?_ ?_ ?_
 ·
  rintro s p hs hp ht r
  refine ⟨r.conv, r.turns, fun i hi => Nat.lt_succ_of_lt (r.gone i hi), fun i hi => ?_, r.now⟩
  rcases Nat.lt_or_ge i s.next with h' | h'
  · exact r.came i h'
  ·
   obtain rfl : i = s.next := by simp only at hi; omega
   rw [tickOf_get hp]; exact ht
 ·
  rintro s p hs hall h0 hp r
  obtain ⟨p1, p2⟩ := hQ.pick s hs h0
  have p3 := hQ.law.pick s hs h0
  obtain ⟨k, hk⟩ : ∃ k, k = Q.pick s.q := ⟨_, rfl⟩
  rw [← hk] at p1 p2 p3 hp ⊢
  have hu : Undone ps.length s.out k := undone_iff.2 ⟨lt_of_get hp, p1⟩
  have hc := r.came k p3
  have htick : Tick ps s.out s.now := by
   rcases r.now with e | e
   · exact .inl ⟨e, k, hu, hc⟩
   · exact .inr e
  obtain ⟨-, -, z1, -, -, -⟩ := okPk_true (ho.each _ p hp).1
  have a1 : 0 ≤ per * p.size := Int.mul_nonneg hper (by omega)
  have htake : ∀ (i : Nat), i ≤ s.out.length → (s.out ++ [(⟨(k : Nat), s.now, s.now + per * p.size⟩ : Sn)]).take i = s.out.take i := fun i hi => List.take_append_of_le_length hi
  refine ⟨fun i x hx => ?_, fun i x hx j hj hf => ?_, fun i hi => ?_, fun i hi => ?_, .inl (by rw [lastFin_snoc])⟩
  ·
   rcases snoc_get hx with ⟨h', hx⟩ | ⟨rfl, rfl⟩
   ·
    simp only [htake i (by omega)]
    exact r.conv i x hx
   ·
    simp only [htake _ (Nat.le_refl _), List.take_length]
    exact ⟨s.now, k, htick, hu, hc, by rw [bytesOf_get hp]⟩
  ·
   rcases snoc_get hx with ⟨h', hx⟩ | ⟨rfl, rfl⟩
   ·
    simp only [htake i (by omega)]
    exact r.turns i x hx j hj hf
   ·
    simp only [htake _ (Nat.le_refl _), List.take_length]
    simp only [Int.toNat_natCast] at hj hf
    intro hu'
    have := p2 j hj hf
    rw [(undone_iff.1 hu').2] at this
    cases this
  ·
   rw [isDone_snoc, Bool.or_eq_true] at hi
   show i < s.next
   rcases hi with hi | hi
   · exact r.gone i hi
   ·
    have := beq_iff_eq.1 hi
    omega
  ·
   have := r.came i hi
   simp only
   omega
 ·
  rintro s p hs hp ht h0 r
  have hge : ∀ i, Undone ps.length s.out i → s.next ≤ i := fun i hi => by
   rcases Nat.lt_or_ge i s.next with h' | h'
   ·
    have := hQ.none s hs h0 i h'
    rw [(undone_iff.1 hi).2] at this
    cases this
   · exact h'
  have hmin : ∀ i, Undone ps.length s.out i → p.tick ≤ tickOf ps i := fun i hi => by
   have := ticks_le ho (hge i hi) (undone_iff.1 hi).1
   rwa [tickOf_get hp] at this
  have hnow : s.now = lastFin s.out := by
   rcases r.now with e | ⟨-, i, hi, e, -⟩
   · exact e
   ·
    have := hmin i hi
    omega
  have hund : Undone ps.length s.out s.next := by
   refine undone_iff.2 ⟨lt_of_get hp, ?_⟩
   cases hd : isDone s.out s.next with
   | false => rfl
   | true => have := r.gone _ hd; omega
  refine ⟨r.conv, r.turns, r.gone, fun i hi => ?_, .inr ⟨fun i hi => ?_, s.next, hund, (tickOf_get hp).symm, fun k hk => ?_⟩⟩
  ·
   have := r.came i hi
   simp only
   omega
  ·
   have := hmin i hi
   show lastFin s.out < _
   omega
  ·
   rw [tickOf_get hp]
   exact hmin k hk
section
variable {ps : List Pk} {ws ns : List Int} {per : Int} {l : List Sn} {ts : List Int}
theorem fair_may (hw : WtsOk ws) (ho : OkPks ps) (hper : 1 ≤ per) : MayLaw (fairQ ps ws) per ps fair0 where
 law := fair_law hw ho hper
 pick := fun s hs h0 => by
  obtain ⟨H, r⟩ := fair_run hw ho hper hs
  obtain ⟨l1, l2⟩ := least_first (tag := s.q.tag) (q := s.q.q) h0
  obtain ⟨k, hk⟩ : ∃ k, k = (fairQ ps ws).pick s.q := ⟨_, rfl⟩
  have hkd : s.q.q.getD (pickAt s.q.tag s.q.q) 0 = k := hk.symm
  rw [hkd] at l1 l2
  rw [← hk]
  refine ⟨(r.only k l1).2, fun j hj hf => ?_⟩
  cases hd : isDone s.out j with
  | true => rfl
  | false =>
   have hm := r.wait j (by have := (r.only k l1).1; omega) hd
   obtain ⟨t, ht⟩ := least_head r.state (fun i _ => (incOf_in hw ho i).1) ⟨l1, l2⟩
   have hp : (s.q.of (flowOf ps) (flowOf ps k)).Pairwise (· < ·) := r.rises.filter _
   have hjm : j ∈ s.q.of (flowOf ps) (flowOf ps k) := mem_of.2 ⟨hm, hf⟩
   rw [ht] at hp hjm
   rcases List.mem_cons.1 hjm with e | hjm
   · omega
   ·
    have := (List.pairwise_cons.1 hp).1 j hjm
    omega
 none := fun s hs h0 i hi => by
  obtain ⟨H, r⟩ := fair_run hw ho hper hs
  have hq : s.q.q = [] := List.length_eq_zero_iff.1 h0
  cases hd : isDone s.out i with
  | true => rfl
  | false =>
   have := r.wait i hi hd
   rw [hq] at this
   cases this
theorem FairSent.may (hw : WtsOk ws) (ho : OkPks ps) (hper : 1 ≤ per) (h : FairSent per ps ws l ts) : Conv per ps l ∧ Turns ps l ∧ l.length = ps.length := by
 have hl := (h.length hw ho hper).1
 obtain ⟨s, h1, h2, h3, rfl, rfl⟩ := h
 have r := may_run (fair_may hw ho hper) (by omega) ho h1
 exact ⟨r.conv, r.turns, hl⟩
theorem turns_may (ho : OkPks ps) (hq : ∀ f, 1 ≤ quOf ns f) (hper : 1 ≤ per) : MayLaw (turnsQ ps ns) per ps turns0 where
 law := turns_law ho hq
 pick := fun s hs h0 => by
  obtain ⟨H, r⟩ := turns_run (M := 1500) ho hq (by omega) (fun k => (sizeAt_in ho k).2) hs
  obtain ⟨k, e, hx, e1, e2, f, t, c, sa⟩ := r.good.picks hq h0
  obtain ⟨-, hl⟩ := turns_lists ho hq hper hs
  rw [e1]
  have hhead : s.q.d.qs f = k :: t := by rw [← sa.same]; exact sa.head
  have hkm : k ∈ s.q.d.qs f := by rw [hhead]; exact List.mem_cons_self ..
  have hkf : flowOf ps k = f := (r.state.size f k hkm).1
  refine ⟨(r.only f k hkm).2, fun j hj hf => ?_⟩
  cases hd : isDone s.out j with
  | true => rfl
  | false =>
   have hm := r.wait j (by have := (r.only f k hkm).1; omega) hd
   rw [hf, hkf] at hm
   have hp : (s.q.d.qs f).Pairwise (· < ·) := by
    rw [hl f]
    exact List.pairwise_lt_range.filter _
   rw [hhead] at hp hm
   rcases List.mem_cons.1 hm with e | hm
   · omega
   ·
    have := (List.pairwise_cons.1 hp).1 j hm
    omega
 none := fun s hs h0 i hi => by
  obtain ⟨H, r⟩ := turns_run (M := 1500) ho hq (by omega) (fun k => (sizeAt_in ho k).2) hs
  cases hd : isDone s.out i with
  | true => rfl
  | false =>
   have hm := r.wait i hi hd
   have hz := r.good.line.1 h0
   have := (r.state.active (flowOf ps i)).2 (by intro e; rw [e] at hm; cases hm)
   rw [hz] at this
   cases this
theorem RoundSent.may (ho : OkPks ps) (hq : ∀ f, 1 ≤ quOf ns f) (hper : 1 ≤ per) (h : RoundSent per ps ns l) : Conv per ps l ∧ Turns ps l ∧ l.length = ps.length := by
 have hl := h.length ho hq
 obtain ⟨s, h1, h2, h3, rfl⟩ := h
 have r := may_run (turns_may ho hq hper) (by omega) ho h1
 exact ⟨r.conv, r.turns, hl⟩
end
end Go.Proofs.YtibhkijaafdkoaaGreatDoor

namespace Go.Proofs.YtibhkijaafdkoaaGreatDoor
open Go.RowKit
theorem ownsRow_of_block {w w' : World} {base : Nat} {e : TypeId} {size : Nat} {v : Value} {n : Nat} {xs : List Value} (h : w.ownsRow base e size v n xs) (hb : ∀ g, v.ownBlock = some g → g < w.heap.size → w'.heap[g]? = w.heap[g]?) : w'.ownsRow base e size v n xs := by
 obtain ⟨h1, h2 | ⟨g, cap, cur, rfl, hB, hg, r⟩⟩ := h
 · exact ⟨h1, .inl h2⟩
 · exact ⟨h1, .inr ⟨g, cap, cur, rfl, hB, (hb g rfl (lt_of_block hg)).trans hg, r⟩⟩
theorem ownsRow_lt {w : World} {base : Nat} {e : TypeId} {size : Nat} {v : Value} {n : Nat} {xs : List Value} (h : w.ownsRow base e size v n xs) {g : Nat} (hg : v.ownBlock = some g) : base ≤ g ∧ g < w.heap.size := by
 obtain ⟨h1, ⟨rfl, -⟩ | ⟨g', cap, cur, rfl, hB, hgc, r⟩⟩ := h
 · cases hg
 ·
  cases hg
  exact ⟨hB, lt_of_block hgc⟩
theorem Tryz.infoInt : (Tryz.prog.info? 3).map (fun i => (i.zero, i.size, i.bytes)) = some (some (.int .i64 0), 1, 8) := by kernel_rfl
theorem made_get (u : Value) (n j : Nat) (h : j < n) : (madeCells #[u] n)[j]? = some u := by
 rw [Array.getElem?_eq_getElem (by rw [size_madeCells]; exact h)]
 simp [madeCells, Nat.mod_one]
def LiesN (w : World) (a : Option Addr) (xs : List Int) : Prop :=
 xs = [] ∨ ∃ b off, a = some ⟨b, off, none⟩ ∧ b < w.heap.size ∧ ∀ (i : Nat) x, xs[i]? = some x → w.cell? ⟨b, off + i, none⟩ = some (.int .i64 x)
theorem LiesN.place {w : World} {a : Option Addr} {xs : List Int} (h : LiesN w a xs) (h1 : 1 ≤ xs.length) : ∃ b off, a = some ⟨b, off, none⟩ ∧ b < w.heap.size ∧ ∀ (i : Nat) x, xs[i]? = some x → w.cell? ⟨b, off + i, none⟩ = some (.int .i64 x) := by
 rcases h with rfl | h
 · simp at h1
 · exact h
theorem LiesN.below {w w' : World} {a : Option Addr} {xs : List Int} (h : LiesN w a xs) (hb : Below w.heap.size w w') : LiesN w' a xs := by
 rcases h with rfl | ⟨b, off, rfl, hlt, hc⟩
 · exact .inl rfl
 · exact .inr ⟨b, off, rfl, Nat.lt_of_lt_of_le hlt hb.size, fun i x hi => cell_later hb (hc i x hi)⟩
theorem liesN_made (w : World) (n : Nat) (t : TypeId) : LiesN (w.alloc (.cells (madeCells #[.int .i64 0] n) t)) (some ⟨w.heap.size, 0, none⟩) (List.replicate n 0) := by
 refine .inr ⟨w.heap.size, 0, rfl, by simp, fun i x hi => ?_⟩
 have hil : i < n := by
  rcases Nat.lt_or_ge i n with h | h
  · exact h
  · rw [List.getElem?_eq_none (by simpa using h)] at hi; cases hi
 rw [List.getElem?_replicate, if_pos hil] at hi
 obtain rfl := Option.some.inj hi
 rw [World.cell?_alloc_at _ _ _ _ rfl, Nat.zero_add]
 exact made_get _ _ _ hil
end Go.Proofs.YtibhkijaafdkoaaGreatDoor
