/- Own facts, put together: no statement of its own. -/
import Derived.Test.YtibhkijaafdkoaaGreatDoorB12
namespace Go.Proofs.YtibhkijaafdkoaaGreatDoor
structure PickLaw {σ : Type} (Q : Que σ) (keys : List Int) (q0 : σ) (ok : σ → Prop) (items : σ → List Nat) : Prop where
 start : ok q0 ∧ items q0 = []
 rest : ∀ q, ok q → Q.rest q = (items q).length
 come : ∀ q k, ok q → (∀ i, i ∈ items q → i < k) → ok (Q.come q k) ∧ (items (Q.come q k)).length = (items q).length + 1 ∧ ∀ i, i ∈ items (Q.come q k) ↔ i ∈ items q ∨ i = k
 idle : ∀ q, ok q → Q.rest q = 0 → ok (Q.idle q) ∧ items (Q.idle q) = items q
 left : ∀ q, ok q → 0 < (items q).length → ok (Q.left q) ∧ (items (Q.left q)).length + 1 = (items q).length ∧ ∀ i, i ∈ items (Q.left q) ↔ i ∈ items q ∧ i ≠ Q.pick q
 pick : ∀ q, ok q → 0 < (items q).length → Q.pick q ∈ items q ∧ ∀ i, i ∈ items q → keys.getD (Q.pick q) 0 < keys.getD i 0 ∨ (keys.getD (Q.pick q) 0 = keys.getD i 0 ∧ Q.pick q ≤ i)
structure Ranked {σ : Type} (ok : σ → Prop) (items : σ → List Nat) (per : Int) (ps : List Pk) (keys : List Int) (s : St σ) : Prop where
 good : ok s.q
 sched : Sched per ps keys s.out
 wait : ∀ i, i ∈ items s.q ↔ i < s.next ∧ isDone s.out i = false
 sent : ∀ i : Nat, isDone s.out i = true → i < s.next
 came : ∀ i, i < s.next → tickOf ps i ≤ s.now
 le : s.next ≤ ps.length
 now : s.now = lastFin s.out ∨ ((∀ i, Undone ps.length s.out i → lastFin s.out < tickOf ps i) ∧ ∃ i, Undone ps.length s.out i ∧ s.now = tickOf ps i ∧ ∀ k, Undone ps.length s.out k → tickOf ps i ≤ tickOf ps k)
theorem ranked {σ : Type} {Q : Que σ} {keys : List Int} {q0 : σ} {ok : σ → Prop} {items : σ → List Nat} {per : Int} {ps : List Pk} {s : St σ} (hQ : PickLaw Q keys q0 ok items) (hper : 0 ≤ per) (ho : OkPks ps) (h : Reaches Q per ps q0 s) : Ranked ok items per ps keys s := by
 refine h.by_steps (C := fun s => Ranked ok items per ps keys s) ?_ ?_ ?_ ?_
 ·
  refine ⟨hQ.start.1, Sched.nil _ _ _, fun i => ?_, fun i h => ?_, fun i h => ?_, Nat.zero_le _, .inl rfl⟩
  ·
   simp only [hQ.start.2]
   constructor
   · intro h; cases h
   · rintro ⟨h, -⟩; exact absurd h (Nat.not_lt_zero _)
  · simp [isDone] at h
  · exact absurd h (Nat.not_lt_zero _)
 ·
  intro s p _ hp ht ih
  have hn : ∀ i, i ∈ items s.q → i < s.next := fun i hm => ((ih.wait _).1 hm).1
  obtain ⟨c1, -, c3⟩ := hQ.come s.q s.next ih.good hn
  have hlt := lt_of_get hp
  refine ⟨c1, ih.sched, fun i => ?_, fun i hi => Nat.lt_succ_of_lt (ih.sent i hi), fun i hi => ?_, hlt, ih.now⟩
  ·
   rw [c3, ih.wait]
   simp only
   constructor
   ·
    rintro (⟨a, b⟩ | rfl)
    · exact ⟨by omega, b⟩
    ·
     refine ⟨by omega, ?_⟩
     cases hd : isDone s.out s.next with
     | false => rfl
     | true => have := ih.sent _ hd; omega
   ·
    rintro ⟨a, b⟩
    rcases Nat.lt_or_ge i s.next with h' | h'
    · exact .inl ⟨h', b⟩
    · exact .inr (by omega)
  ·
   simp only at hi ⊢
   rcases Nat.lt_or_ge i s.next with h' | h'
   · exact ih.came i h'
   ·
    obtain rfl : i = s.next := by omega
    rw [tickOf_get hp]; exact ht
 ·
  intro s p _ hall h0 hp ih
  rw [hQ.rest _ ih.good] at h0
  obtain ⟨l1, -, l3⟩ := hQ.left s.q ih.good h0
  obtain ⟨p1, p2⟩ := hQ.pick s.q ih.good h0
  obtain ⟨w1, w2⟩ := (ih.wait _).1 p1
  have hle := ih.le
  have hcome : ∀ i, Undone ps.length s.out i → tickOf ps i ≤ s.now → i ∈ items s.q := by
   intro i hi ht
   obtain ⟨u1, u2⟩ := undone_iff.1 hi
   refine (ih.wait i).2 ⟨?_, u2⟩
   rcases Nat.lt_or_ge i s.next with h' | h'
   · exact h'
   ·
    have hnl : s.next < ps.length := by omega
    have e : ps[s.next]? = some ps[s.next] := List.getElem?_eq_getElem hnl
    have a1 := hall _ e
    have a2 := ticks_le ho h' u1
    rw [tickOf_get e] at a2
    omega
  have hbest : Best ps keys s.out s.now (Q.pick s.q) := ⟨undone_iff.2 ⟨by omega, w2⟩, ih.came _ w1, fun i hi ht => p2 i (hcome i hi ht)⟩
  have htick : Tick ps s.out s.now := by
   rcases ih.now with e | ⟨e1, e2⟩
   · exact .inl ⟨e, _, hbest.undone, hbest.came⟩
   · exact .inr ⟨e1, e2⟩
  have hpos : 0 ≤ per * p.size := Int.mul_nonneg hper (by have := okPk_true (ho.each _ p hp).1; omega)
  refine ⟨l1, ih.sched.snoc ⟨s.now, Q.pick s.q, htick, hbest, by rw [bytesOf_get hp]⟩, fun i => ?_, fun i hi => ?_, fun i hi => ?_, ih.le, .inl (by rw [lastFin_snoc])⟩
  ·
   rw [l3, ih.wait]
   simp only
   rw [isDone_snoc]
   constructor
   ·
    rintro ⟨⟨a, b⟩, c⟩
    refine ⟨a, ?_⟩
    rw [b, Bool.false_or]
    exact beq_eq_false_iff_ne.2 (fun e => c e.symm)
   ·
    rintro ⟨a, b⟩
    rw [Bool.or_eq_false_iff] at b
    exact ⟨⟨a, b.1⟩, fun e => beq_eq_false_iff_ne.1 b.2 e.symm⟩
  ·
   simp only at hi ⊢
   rw [isDone_snoc, Bool.or_eq_true] at hi
   rcases hi with hi | hi
   · exact ih.sent i hi
   ·
    have := beq_iff_eq.1 hi
    omega
  ·
   have := ih.came i hi
   simp only
   omega
 ·
  intro s p _ hp ht h0 ih
  rw [hQ.rest _ ih.good] at h0
  have hnone : items s.q = [] := List.length_eq_zero_iff.1 h0
  have hge : ∀ i, Undone ps.length s.out i → s.next ≤ i := by
   intro i hi
   rcases Nat.lt_or_ge i s.next with h' | h'
   ·
    have := (ih.wait i).2 ⟨h', (undone_iff.1 hi).2⟩
    rw [hnone] at this; cases this
   · exact h'
  have hmin : ∀ i, Undone ps.length s.out i → p.tick ≤ tickOf ps i := by
   intro i hi
   have := ticks_le ho (hge i hi) (undone_iff.1 hi).1
   rwa [tickOf_get hp] at this
  have hnow : s.now = lastFin s.out := by
   rcases ih.now with e | ⟨-, i, hi, e, -⟩
   · exact e
   ·
    have := hmin i hi
    omega
  have hund : Undone ps.length s.out s.next := by
   refine undone_iff.2 ⟨lt_of_get hp, ?_⟩
   cases hd : isDone s.out s.next with
   | false => rfl
   | true => have := ih.sent _ hd; omega
  obtain ⟨i1, i2⟩ := hQ.idle s.q ih.good (by rw [hQ.rest _ ih.good]; exact h0)
  refine ⟨i1, ih.sched, fun i => by rw [i2]; exact ih.wait i, ih.sent, fun i hi => ?_, ih.le, .inr ⟨fun i hi => ?_, s.next, hund, (tickOf_get hp).symm, fun k hk => ?_⟩⟩
  ·
   have := ih.came i hi
   simp only
   omega
  ·
   have := hmin i hi
   show lastFin s.out < _
   omega
  ·
   rw [tickOf_get hp]
   exact hmin k hk
theorem ranked_law {σ : Type} {Q : Que σ} {keys : List Int} {q0 : σ} {ok : σ → Prop} {items : σ → List Nat} {per : Int} {ps : List Pk} (hQ : PickLaw Q keys q0 ok items) (hper : 0 ≤ per) (ho : OkPks ps) : QueLaw Q per ps q0 where
 none := by rw [hQ.rest _ hQ.start.1, hQ.start.2]; rfl
 come := fun s hs _ => by
  have r := ranked hQ hper ho hs
  have hn : ∀ i, i ∈ items s.q → i < s.next := fun i hm => ((r.wait _).1 hm).1
  obtain ⟨c1, c2, -⟩ := hQ.come s.q s.next r.good hn
  rw [hQ.rest _ c1, hQ.rest _ r.good, c2]
 left := fun s hs h => by
  have r := ranked hQ hper ho hs
  rw [hQ.rest _ r.good] at h ⊢
  obtain ⟨l1, l2, -⟩ := hQ.left s.q r.good h
  rw [hQ.rest _ l1, l2]
 pick := fun s hs h => by
  have r := ranked hQ hper ho hs
  rw [hQ.rest _ r.good] at h
  exact ((r.wait _).1 (hQ.pick s.q r.good h).1).1
 idle := fun s hs h => by
  have r := ranked hQ hper ho hs
  obtain ⟨i1, i2⟩ := hQ.idle s.q r.good h
  rw [hQ.rest _ i1, i2, ← hQ.rest _ r.good]
  exact h
theorem ranked_end {σ : Type} {Q : Que σ} {keys : List Int} {q0 : σ} {ok : σ → Prop} {items : σ → List Nat} {per : Int} {ps : List Pk} {s : St σ} (hQ : PickLaw Q keys q0 ok items) (hper : 0 ≤ per) (ho : OkPks ps) (h : Reaches Q per ps q0 s) (hn : ¬ s.next < ps.length) (hr : Q.rest s.q = 0) : Sched per ps keys s.out ∧ s.out.length = ps.length := by
 have r := ranked hQ hper ho h
 have hc := h.count (ranked_law hQ hper ho)
 have := r.le
 exact ⟨r.sched, by omega⟩
end Go.Proofs.YtibhkijaafdkoaaGreatDoor

namespace Go.Proofs.YtibhkijaafdkoaaGreatDoor
def sumOf (f : Nat → Int) : List Nat → Int
 | [] => 0
 | a :: r => f a + sumOf f r
theorem sumOf_nonneg {f : Nat → Int} (hf : ∀ i, 0 ≤ f i) : ∀ l, 0 ≤ sumOf f l
 | [] => Int.le_refl _
 | a :: r => by
  have := sumOf_nonneg hf r
  have := hf a
  simp only [sumOf]
  omega
theorem sumOf_erase {f : Nat → Int} {a : Nat} : ∀ {l : List Nat}, a ∈ l → sumOf f l = f a + sumOf f (l.erase a) := by
 intro l
 induction l with
 | nil => intro h; cases h
 | cons x r ih =>
  intro h
  by_cases e : x = a
  · subst e; simp [sumOf]
  ·
   have hm : a ∈ r := by
    rcases List.mem_cons.1 h with h | h
    · exact absurd h.symm e
    · exact h
   have he : (x :: r).erase a = x :: r.erase a := List.erase_cons_tail (by simpa using e)
   rw [he]
   simp only [sumOf, ih hm]
   omega
theorem sumOf_le {f : Nat → Int} (hf : ∀ i, 0 ≤ f i) : ∀ (A B : List Nat), A.Nodup → (∀ a, a ∈ A → a ∈ B) → sumOf f A ≤ sumOf f B := by
 intro A
 induction A with
 | nil => intro B _ _; exact sumOf_nonneg hf B
 | cons a r ih =>
  intro B hn hs
  obtain ⟨h1, h2⟩ := List.nodup_cons.1 hn
  have hb := hs a (List.mem_cons_self ..)
  rw [sumOf_erase hb]
  have := ih (B.erase a) h2 (fun x hx => (List.mem_erase_of_ne (fun e : x = a => h1 (by rw [← e]; exact hx))).2 (hs x (List.mem_cons_of_mem _ hx)))
  simp only [sumOf]
  omega
end Go.Proofs.YtibhkijaafdkoaaGreatDoor

namespace Go.Proofs.YtibhkijaafdkoaaGreatDoor
def firstLeast (key : Nat → Int) (q : List Nat) : Nat → Nat
 | 0 => 0
 | i + 1 => if key (q.getD i 0) < key (q.getD (firstLeast key q i) 0) then i else firstLeast key q i
theorem firstLeast_le (key : Nat → Int) (q : List Nat) : ∀ i, firstLeast key q i ≤ i - 1
 | 0 => Nat.le_refl _
 | i + 1 => by
  have := firstLeast_le key q i
  simp only [firstLeast]
  split <;> omega
theorem firstLeast_lt (key : Nat → Int) {q : List Nat} {i : Nat} (h : 0 < q.length) (hi : i ≤ q.length) : firstLeast key q i < q.length := by
 have := firstLeast_le key q i
 omega
theorem firstLeast_min (key : Nat → Int) (q : List Nat) : ∀ i j, j < i → key (q.getD (firstLeast key q i) 0) < key (q.getD j 0) ∨ (key (q.getD (firstLeast key q i) 0) = key (q.getD j 0) ∧ firstLeast key q i ≤ j) := by
 intro i
 induction i with
 | zero => intro j hj; omega
 | succ i ih =>
  intro j hj
  have hle := firstLeast_le key q i
  simp only [firstLeast]
  by_cases hc : key (q.getD i 0) < key (q.getD (firstLeast key q i) 0)
  ·
   rw [if_pos hc]
   rcases Nat.lt_or_ge j i with h | h
   ·
    have := ih j h
    omega
   ·
    obtain rfl : j = i := by omega
    exact .inr ⟨rfl, Nat.le_refl _⟩
  ·
   rw [if_neg hc]
   rcases Nat.lt_or_ge j i with h | h
   · exact ih j h
   ·
    obtain rfl : j = i := by omega
    omega
def pickAt (key : Nat → Int) (q : List Nat) : Nat := firstLeast key q q.length
def waits (key : Nat → Int) : Que (List Nat) where
 come := fun q k => q ++ [k]
 pick := fun q => q.getD (pickAt key q) 0
 left := fun q => q.eraseIdx (pickAt key q)
 rest := List.length
theorem getD_lt {α : Type} {l : List α} {j : Nat} {d : α} (h : j < l.length) : l.getD j d = l[j] := by simp [List.getD, List.getElem?_eq_getElem h]
theorem rises_same {q : List Nat} (h : q.Pairwise (· < ·)) {i j : Nat} (hi : i < q.length) (hj : j < q.length) (e : q[i] = q[j]) : i = j := by
 have h1 := List.pairwise_iff_getElem.1 h i j hi hj
 have h2 := List.pairwise_iff_getElem.1 h j i hj hi
 omega
theorem pickAt_lt (key : Nat → Int) {q : List Nat} (h : 0 < q.length) : pickAt key q < q.length := firstLeast_lt key h (Nat.le_refl _)
theorem waits_law (keys : List Int) : PickLaw (waits fun i => keys.getD i 0) keys [] (fun q => q.Pairwise (· < ·)) (fun q => q) where
 start := ⟨List.Pairwise.nil, rfl⟩
 rest := fun q _ => rfl
 idle := fun q h _ => ⟨h, rfl⟩
 come := fun q k h hk => by
  refine ⟨List.pairwise_append.2 ⟨h, List.pairwise_singleton _ _, fun a ha b hb => ?_⟩, by simp [waits], fun i => by simp [waits]⟩
  rw [List.mem_singleton] at hb
  subst hb
  exact hk a ha
 left := fun q h h0 => by
  have hlt := pickAt_lt (fun i => keys.getD i 0) h0
  refine ⟨List.Pairwise.sublist (List.eraseIdx_sublist ..) h, ?_, fun i => ?_⟩
  ·
   show (q.eraseIdx (pickAt _ q)).length + 1 = _
   rw [List.length_eraseIdx, if_pos hlt]
   omega
  ·
   show i ∈ q.eraseIdx (pickAt _ q) ↔ i ∈ q ∧ i ≠ q.getD (pickAt _ q) 0
   have hg : q.getD (pickAt (fun i => keys.getD i 0) q) 0 = q[pickAt (fun i => keys.getD i 0) q]'hlt := getD_lt hlt
   rw [hg, List.mem_eraseIdx_iff_getElem]
   constructor
   ·
    rintro ⟨j, hj, hne, rfl⟩
    exact ⟨List.getElem_mem _, fun e => hne (rises_same h _ _ e)⟩
   ·
    rintro ⟨hm, hne⟩
    obtain ⟨j, hj, rfl⟩ := List.getElem_of_mem hm
    exact ⟨j, hj, fun e => hne (by subst e; rfl), rfl⟩
 pick := fun q h h0 => by
  have hlt := pickAt_lt (fun i => keys.getD i 0) h0
  have hg : q.getD (pickAt (fun i => keys.getD i 0) q) 0 = q[pickAt (fun i => keys.getD i 0) q]'hlt := getD_lt hlt
  refine ⟨?_, fun i hi => ?_⟩
  ·
   show q.getD (pickAt _ q) 0 ∈ q
   rw [hg]
   exact List.getElem_mem _
  ·
   obtain ⟨j, hj, rfl⟩ := List.getElem_of_mem hi
   show keys.getD (q.getD (pickAt _ q) 0) 0 < _ ∨ (keys.getD (q.getD (pickAt _ q) 0) 0 = _ ∧ q.getD (pickAt _ q) 0 ≤ _)
   have hm := firstLeast_min (fun i => keys.getD i 0) q q.length j hj
   have hgj : q.getD j 0 = q[j] := getD_lt hj
   simp only [hgj] at hm
   rcases hm with hm | ⟨hm, hle⟩
   · exact .inl hm
   ·
    refine .inr ⟨hm, ?_⟩
    rw [hg]
    rcases Nat.lt_or_eq_of_le hle with h' | h'
    · exact Nat.le_of_lt (List.pairwise_iff_getElem.1 h _ _ hlt hj h')
    ·
     have e : pickAt (fun i => keys.getD i 0) q = j := h'
     simp only [e]
     exact Nat.le_refl _
end Go.Proofs.YtibhkijaafdkoaaGreatDoor

namespace Go.Proofs.YtibhkijaafdkoaaGreatDoor
def flowOf (ps : List Pk) (j : Nat) : Nat := match ps[j]? with | some p => p.flow.toNat | none => 0
theorem flowOf_get {ps : List Pk} {j : Nat} {p : Pk} (h : ps[j]? = some p) : flowOf ps j = p.flow.toNat := by simp [flowOf, h]
def ofFlow (ps : List Pk) (ns : List Int) (j : Nat) : Int := ns.getD (flowOf ps j) 0
def rankKeys (ps : List Pk) (ns : List Int) : List Int := (List.range ps.length).map (ofFlow ps ns)
def dueKeys (ps : List Pk) (ns : List Int) : List Int := (List.range ps.length).map fun i => tickOf ps i + ofFlow ps ns i
theorem rankKeys_length (ps : List Pk) (ns : List Int) : (rankKeys ps ns).length = ps.length := by simp [rankKeys]
theorem dueKeys_length (ps : List Pk) (ns : List Int) : (dueKeys ps ns).length = ps.length := by simp [dueKeys]
theorem rankKeys_get {ps : List Pk} {ns : List Int} {i : Nat} (h : i < ps.length) : (rankKeys ps ns).getD i 0 = ofFlow ps ns i := by
 rw [getD_lt (by rw [rankKeys_length]; exact h)]
 simp [rankKeys]
theorem dueKeys_get {ps : List Pk} {ns : List Int} {i : Nat} (h : i < ps.length) : (dueKeys ps ns).getD i 0 = tickOf ps i + ofFlow ps ns i := by
 rw [getD_lt (by rw [dueKeys_length]; exact h)]
 simp [dueKeys]
section
end
end Go.Proofs.YtibhkijaafdkoaaGreatDoor

namespace Go.Proofs.YtibhkijaafdkoaaGreatDoor
section
variable {per : Int} {ps : List Pk} {l : List Sn} {keys : List Int}
theorem sum_one : ∀ L : List Nat, sumOf (fun _ => 1) L = L.length
 | [] => rfl
 | a :: L => by
  have := sum_one L
  simp only [sumOf, List.length_cons]
  omega
theorem few_of {A B : List Nat} (hA : A.Nodup) (h : ∀ a, a ∈ A → a ∈ B) : A.length ≤ B.length := by
 have := sumOf_le (f := fun _ => 1) (fun _ => by omega) A B hA h
 rw [sum_one, sum_one] at this
 omega
end
end Go.Proofs.YtibhkijaafdkoaaGreatDoor

namespace Go.Proofs.YtibhkijaafdkoaaGreatDoor
def Ahead (at_ : Nat → Int) (a b : Nat) : Prop := at_ a < at_ b ∨ (at_ a = at_ b ∧ a < b)
structure IsOrder (at_ : Nat → Int) (n : Nat) (L : List Nat) : Prop where
 sorted : L.Pairwise (Ahead at_)
 mem : ∀ j, j ∈ L ↔ j < n
section
variable {at_ bt : Nat → Int} {n : Nat} {L M : List Nat}
theorem Ahead.ne {a b : Nat} (h : Ahead at_ a b) : a ≠ b := fun e => by subst e; rcases h with h | ⟨-, h⟩ <;> omega
theorem Ahead.not {a b : Nat} (h : Ahead at_ a b) : ¬ Ahead at_ b a := fun k => by unfold Ahead at h k; omega
theorem sorted_same : ∀ {L M : List Nat}, L.Pairwise (Ahead at_) → M.Pairwise (Ahead at_) → (∀ j, j ∈ L ↔ j ∈ M) → L = M
 | [], [], _, _, _ => rfl
 | [], b :: M, _, _, h => by have := (h b).2 (List.mem_cons_self ..); cases this
 | a :: L, [], _, _, h => by have := (h a).1 (List.mem_cons_self ..); cases this
 | a :: L, b :: M, hL, hM, h => by
  obtain ⟨l1, l2⟩ := List.pairwise_cons.1 hL
  obtain ⟨m1, m2⟩ := List.pairwise_cons.1 hM
  have hab : a = b := by
   by_cases e : a = b
   · exact e
   ·
    have h1 : a ∈ M := by
     rcases List.mem_cons.1 ((h a).1 (List.mem_cons_self ..)) with h' | h'
     · exact absurd h' e
     · exact h'
    have h2 : b ∈ L := by
     rcases List.mem_cons.1 ((h b).2 (List.mem_cons_self ..)) with h' | h'
     · exact absurd h'.symm e
     · exact h'
    exact absurd (l1 b h2) (m1 a h1).not
  subst hab
  have na : a ∉ L := fun hm => (l1 a hm).ne rfl
  have nb : a ∉ M := fun hm => (m1 a hm).ne rfl
  have := sorted_same l2 m2 (fun j => ⟨fun hj => by
   rcases List.mem_cons.1 ((h j).1 (List.mem_cons_of_mem _ hj)) with e | e
   · exact absurd (by rw [← e]; exact hj) na
   · exact e, fun hj => by
   rcases List.mem_cons.1 ((h j).2 (List.mem_cons_of_mem _ hj)) with e | e
   · exact absurd (by rw [← e]; exact hj) nb
   · exact e⟩)
  rw [this]
theorem IsOrder.same (h : IsOrder at_ n L) (k : IsOrder at_ n M) : L = M := sorted_same h.sorted k.sorted fun j => by rw [h.mem, k.mem]
theorem IsOrder.nodup (h : IsOrder at_ n L) : L.Nodup := by
 refine List.pairwise_iff_getElem.2 fun i j hi hj hij => (List.pairwise_iff_getElem.1 h.sorted i j hi hj hij).ne
theorem IsOrder.length (h : IsOrder at_ n L) : L.length = n := by
 have h1 := few_of (B := List.range n) h.nodup (fun a ha => List.mem_range.2 ((h.mem a).1 ha))
 have h2 := few_of (A := List.range n) (B := L) List.nodup_range (fun a ha => (h.mem a).2 (List.mem_range.1 ha))
 simp only [List.length_range] at h1 h2
 omega
theorem IsOrder.start (at_ : Nat → Int) : IsOrder at_ 0 [] := ⟨List.Pairwise.nil, fun j => ⟨(fun h => by cases h), fun h => absurd h (Nat.not_lt_zero _)⟩⟩
theorem IsOrder.range (hm : ∀ i j, i < j → j < n → at_ i ≤ at_ j) : IsOrder at_ n (List.range n) := by
 refine ⟨List.pairwise_iff_getElem.2 fun i j hi hj hij => ?_, fun j => List.mem_range⟩
 rw [List.length_range] at hi hj
 rw [List.getElem_range, List.getElem_range]
 have := hm i j hij hj
 unfold Ahead
 omega
end
end Go.Proofs.YtibhkijaafdkoaaGreatDoor

namespace Go.Proofs.YtibhkijaafdkoaaGreatDoor
theorem snoc_ind {α : Type} {P : List α → Prop} (h0 : P []) (hs : ∀ l a, P l → P (l ++ [a])) : ∀ l, P l := by
 have h : ∀ l : List α, P l.reverse := by
  intro l
  induction l with
  | nil => exact h0
  | cons a r ih => rw [List.reverse_cons]; exact hs _ _ ih
 intro l
 have := h l.reverse
 rwa [List.reverse_reverse] at this
def allHave (bs : List Bk) (T n : Int) : Prop := ∀ b, b ∈ bs → n * 1000 ≤ b.lev T
def passT : List Bk → Int → Int → Option Int
 | [], t, _ => some t
 | b :: r, t, n => match b.when t n with | none => none | some u => passT r u n
theorem passT_some {n : Int} : ∀ (bs : List Bk) (t T : Int), (∀ b, b ∈ bs → b.Ok) → t ≤ 1099511627776 → passT bs t n = some T → t ≤ T ∧ T ≤ 1099511627776 ∧ allHave bs T n ∧ ∀ s, t ≤ s → s < T → ¬ allHave bs s n := by
 intro bs
 induction bs with
 | nil => intro t T _ t1 e; cases e; exact ⟨Int.le_refl _, t1, (fun b hb => by cases hb), fun s h1 h2 => by omega⟩
 | cons b r ih =>
  intro t T hok t1 e
  unfold passT at e
  split at e
  · cases e
  ·
   rename_i u hu
   have hb := hok b (List.mem_cons_self ..)
   obtain ⟨h1, h2, h3, h4⟩ := b.when_some hb t1 hu
   obtain ⟨h5, h6, h7, h8⟩ := ih u T (fun c hc => hok c (List.mem_cons_of_mem _ hc)) h2 e
   refine ⟨by omega, h6, fun c hc => ?_, fun s h9 h10 h11 => ?_⟩
   ·
    rcases List.mem_cons.1 hc with rfl | hc
    · have := Bk.lev_mono hb.r0 h5; omega
    · exact h7 c hc
   ·
    by_cases h12 : s < u
    ·
     have := h4 s h9 h12
     have := h11 b (List.mem_cons_self ..)
     omega
    · exact h8 s (by omega) h10 (fun c hc => h11 c (List.mem_cons_of_mem _ hc))
structure Sh where
 bs : List Bk
 left : Int
 out : List Pk
def shStep (s : Sh) (p : Pk) : Option Sh := match passT s.bs (max p.tick s.left) p.size with
 | none => none
 | some T => some ⟨s.bs.map fun b => b.take T p.size, T, s.out ++ [⟨p.flow, p.size, T⟩]⟩
def shape (ls : List (Int × Int)) (ps : List Pk) : Option Sh := ps.foldl (fun s p => s.bind fun s => shStep s p) (some ⟨ls.map bkOf, 0, []⟩)
theorem shape_snoc (ls : List (Int × Int)) (ps : List Pk) (p : Pk) : shape ls (ps ++ [p]) = (shape ls ps).bind fun s => shStep s p := by simp [shape, List.foldl_append]
theorem ahead_snoc_lt (ps : List Pk) (p : Pk) (i : Nat) (h : i ≤ ps.length) : ahead (ps ++ [p]) i = ahead ps i := by
 cases i with
 | zero => rfl
 | succ i => simp only [ahead]; rw [List.getElem?_append_left (by omega)]
theorem ahead_snoc_end (ps : List Pk) (p : Pk) : ahead (ps ++ [p]) (ps.length + 1) = p.tick := by
 unfold ahead; simp
theorem okPks_snoc (ps : List Pk) (p : Pk) : OkPks (ps ++ [p]) ↔ OkPks ps ∧ ps.length < 300 ∧ okPk p = true ∧ ahead ps ps.length ≤ p.tick := by
 constructor
 ·
  rintro ⟨h1, h2⟩
  simp at h1
  refine ⟨⟨by omega, fun i q hq => ?_⟩, by omega, ?_, ?_⟩
  ·
   have hi : i < ps.length := by
    rcases Nat.lt_or_ge i ps.length with h | h
    · exact h
    · simp [List.getElem?_eq_none h] at hq
   have := h2 i q (by rw [List.getElem?_append_left hi]; exact hq)
   rwa [ahead_snoc_lt _ _ _ (by omega)] at this
  · exact (h2 ps.length p (by simp)).1
  ·
   have := (h2 ps.length p (by simp)).2
   rwa [ahead_snoc_lt _ _ _ (by omega)] at this
 ·
  rintro ⟨⟨h1, h2⟩, h3, h4, h5⟩
  refine ⟨by simp; omega, fun i q hq => ?_⟩
  by_cases hi : i < ps.length
  ·
   rw [List.getElem?_append_left hi] at hq
   rw [ahead_snoc_lt _ _ _ (by omega)]
   exact h2 i q hq
  ·
   have hl : i = ps.length := by
    rcases Nat.lt_or_ge ps.length i with h | h
    · rw [List.getElem?_eq_none (by simp; omega)] at hq; cases hq
    · omega
   subst hl
   simp at hq
   subst hq
   rw [ahead_snoc_lt _ _ _ (by omega)]
   exact ⟨h4, h5⟩
theorem OkPks.final {ps : List Pk} (h : OkPks ps) : 0 ≤ ahead ps ps.length ∧ ahead ps ps.length ≤ 1099511627776 := by
 cases hn : ps.length with
 | zero => simp [ahead]
 | succ n =>
  have hp : ps[n]? = some ps[n] := by simp [hn]
  have := okPk_true (h.each n _ hp).1
  simp only [ahead]
  rw [hp]
  exact ⟨this.2.2.2.2.1, this.2.2.2.2.2⟩
structure ShGood (ls : List (Int × Int)) (ps : List Pk) (s : Sh) : Prop where
 few : s.bs.length = ls.length
 ok : ∀ b, b ∈ s.bs → b.Ok ∧ b.last = s.left
 pass : ∀ (i : Nat) q b, ls[i]? = some q → s.bs[i]? = some b → Passed q s.out b
 left : s.left = ahead s.out s.out.length
 okOut : OkPks s.out
 len : s.out.length = ps.length
 each : ∀ (i : Nat) p q, ps[i]? = some p → s.out[i]? = some q → q.flow = p.flow ∧ q.size = p.size ∧ p.tick ≤ q.tick
 fits : fitsB ls s.out = true
theorem shGood_none {ls : List (Int × Int)} (h : okCurve ls) : ShGood ls [] ⟨ls.map bkOf, 0, []⟩ := by
 refine ⟨by simp, fun b hb => ?_, fun i q b hq hb => ?_, rfl, okPks_none, rfl, fun i p q hp => by simp at hp, rfl⟩
 ·
  obtain ⟨q, hq, rfl⟩ := List.mem_map.1 hb
  exact ⟨bkOf_ok (h.2.2 q hq), rfl⟩
 ·
  simp [hq] at hb
  subst hb
  exact passed_none q (okLine_true (h.2.2 q (List.mem_of_getElem? hq))).2.2.1
theorem ShGood.have_fits {ls : List (Int × Int)} {ps : List Pk} {s : Sh} (h : ShGood ls ps s) (hk : okCurve ls) (p : Pk) (hp : s.left ≤ p.tick) : allHave s.bs p.tick p.size ↔ lastFits ls s.out p := by
 rw [lastFits_lines ls hk.1]
 constructor
 ·
  intro H q hq
  obtain ⟨i, hi⟩ := List.mem_iff_getElem?.1 hq
  have hlt : i < s.bs.length := by
   rw [h.few]
   rcases Nat.lt_or_ge i ls.length with h | h
   · exact h
   · simp [List.getElem?_eq_none h] at hi
  have hb : s.bs[i]? = some s.bs[i] := by simp [hlt]
  have hm : s.bs[i] ∈ s.bs := List.getElem_mem hlt
  exact ((h.pass i q _ hi hb).fits p (by rw [(h.ok _ hm).2]; exact hp)).1 (H _ hm)
 ·
  intro H b hb
  obtain ⟨i, hi⟩ := List.mem_iff_getElem?.1 hb
  have hlt : i < ls.length := by
   rw [← h.few]
   rcases Nat.lt_or_ge i s.bs.length with h | h
   · exact h
   · simp [List.getElem?_eq_none h] at hi
  have hq : ls[i]? = some ls[i] := by simp [hlt]
  exact ((h.pass i _ b hq hi).fits p (by rw [(h.ok _ hb).2]; exact hp)).2 (H _ (List.getElem_mem hlt))
theorem ShGood.step {ls : List (Int × Int)} {ps : List Pk} {s s' : Sh} {p : Pk} (h : ShGood ls ps s) (hk : okCurve ls) (hp : okPk p = true) (hn : ps.length < 300) (e : shStep s p = some s') : ShGood ls (ps ++ [p]) s' := by
 have ha := h.okOut.final
 rw [← h.left] at ha
 have hpk := okPk_true hp
 unfold shStep at e
 split at e
 · cases e
 ·
  rename_i T hT
  cases e
  obtain ⟨h1, h2, h3, -⟩ := passT_some s.bs _ T (fun b hb => (h.ok b hb).1) (by omega) hT
  have hlast : s.left ≤ T := by omega
  have hT0 : 0 ≤ T := by omega
  refine ⟨by simpa using h.few, fun b hb => ?_, fun i q b hq hb => ?_, ?_, ?_, by simp [h.len], fun i a b ha' hb' => ?_, ?_⟩
  ·
   obtain ⟨c, hc, rfl⟩ := List.mem_map.1 hb
   exact ⟨(h.ok c hc).1.take (by rw [(h.ok c hc).2]; exact hlast) h2 (by omega), Bk.take_last ..⟩
  ·
   simp only [List.getElem?_map, Option.map_eq_some_iff] at hb
   obtain ⟨c, hc, rfl⟩ := hb
   have hcm := List.mem_of_getElem? hc
   exact (h.pass i q c hq hc).pass (h.ok c hcm).1.r0 ⟨p.flow, p.size, T⟩ (by rw [(h.ok c hcm).2]; exact hlast) (h3 c hcm)
  ·
   show T = ahead (s.out ++ [_]) (s.out ++ [_]).length
   rw [List.length_append, List.length_singleton, ahead_snoc_end]
  ·
   rw [okPks_snoc]
   refine ⟨h.okOut, by rw [h.len]; exact hn, okPk_mk ⟨hpk.1, hpk.2.1, hpk.2.2.1, hpk.2.2.2.1, hT0, h2⟩, by rw [← h.left]; exact hlast⟩
  ·
   by_cases hi : i < ps.length
   ·
    rw [List.getElem?_append_left hi] at ha'
    rw [List.getElem?_append_left (by rw [h.len]; exact hi)] at hb'
    exact h.each i a b ha' hb'
   ·
    have hl : i = ps.length := by
     rcases Nat.lt_or_ge ps.length i with h | h
     · rw [List.getElem?_eq_none (by simp; omega)] at ha'; cases ha'
     · omega
    subst hl
    simp at ha'
    subst ha'
    rw [← h.len] at hb'
    simp at hb'
    subst hb'
    exact ⟨rfl, rfl, by show p.tick ≤ T; omega⟩
  ·
   rw [fitsB_snoc]
   exact ⟨h.fits, (h.have_fits hk ⟨p.flow, p.size, T⟩ hlast).1 h3⟩
theorem shape_good {ls : List (Int × Int)} (hk : okCurve ls) : ∀ (ps : List Pk) (s : Sh), OkPks ps → shape ls ps = some s → ShGood ls ps s := by
 refine snoc_ind (fun s _ e => ?_) (fun ps p ih s ho e => ?_)
 · cases e; exact shGood_none hk
 ·
  rw [shape_snoc] at e
  obtain ⟨s0, h0, h1⟩ := Option.bind_eq_some_iff.1 e
  obtain ⟨o1, o2, o3, -⟩ := (okPks_snoc ps p).1 ho
  exact (ih s0 o1 h0).step hk o3 o2 h1
end Go.Proofs.YtibhkijaafdkoaaGreatDoor
