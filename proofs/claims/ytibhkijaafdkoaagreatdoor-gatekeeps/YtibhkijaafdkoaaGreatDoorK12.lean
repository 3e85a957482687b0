/- Own facts, put together: no statement of its own. -/
import Derived.Test.YtibhkijaafdkoaaGreatDoorK11
namespace Go.Proofs.YtibhkijaafdkoaaGreatDoor
def sumOf (f : Nat → Int) : List Nat → Int
 | [] => 0
 | a :: r => f a + sumOf f r
theorem sumOf_nonneg {f : Nat → Int} (hf : ∀ i, 0 ≤ f i) : ∀ l, 0 ≤ sumOf f l
 | [] => Int.le_refl _
 | a :: r => by
  have := sumOf_nonneg hf r
  have := hf a
  simp only [sumOf]
  omega
theorem sumOf_append (f : Nat → Int) (a b : List Nat) : sumOf f (a ++ b) = sumOf f a + sumOf f b := by
 induction a with
 | nil => simp [sumOf]
 | cons x r ih => simp only [List.cons_append, sumOf, ih]; omega
theorem sumOf_erase {f : Nat → Int} {a : Nat} : ∀ {l : List Nat}, a ∈ l → sumOf f l = f a + sumOf f (l.erase a) := by
 intro l
 induction l with
 | nil => intro h; cases h
 | cons x r ih =>
  intro h
  by_cases e : x = a
  · subst e; simp [sumOf]
  ·
   have hm : a ∈ r := by
    rcases List.mem_cons.1 h with h | h
    · exact absurd h.symm e
    · exact h
   have he : (x :: r).erase a = x :: r.erase a := List.erase_cons_tail (by simpa using e)
   rw [he]
   simp only [sumOf, ih hm]
   omega
theorem sumOf_le {f : Nat → Int} (hf : ∀ i, 0 ≤ f i) : ∀ (A B : List Nat), A.Nodup → (∀ a, a ∈ A → a ∈ B) → sumOf f A ≤ sumOf f B := by
 intro A
 induction A with
 | nil => intro B _ _; exact sumOf_nonneg hf B
 | cons a r ih =>
  intro B hn hs
  obtain ⟨h1, h2⟩ := List.nodup_cons.1 hn
  have hb := hs a (List.mem_cons_self ..)
  rw [sumOf_erase hb]
  have := ih (B.erase a) h2 (fun x hx => (List.mem_erase_of_ne (fun e : x = a => h1 (by rw [← e]; exact hx))).2 (hs x (List.mem_cons_of_mem _ hx)))
  simp only [sumOf]
  omega
end Go.Proofs.YtibhkijaafdkoaaGreatDoor

namespace Go.Proofs.YtibhkijaafdkoaaGreatDoor
def firstLeast (key : Nat → Int) (q : List Nat) : Nat → Nat
 | 0 => 0
 | i + 1 => if key (q.getD i 0) < key (q.getD (firstLeast key q i) 0) then i else firstLeast key q i
theorem firstLeast_le (key : Nat → Int) (q : List Nat) : ∀ i, firstLeast key q i ≤ i - 1
 | 0 => Nat.le_refl _
 | i + 1 => by
  have := firstLeast_le key q i
  simp only [firstLeast]
  split <;> omega
theorem firstLeast_lt (key : Nat → Int) {q : List Nat} {i : Nat} (h : 0 < q.length) (hi : i ≤ q.length) : firstLeast key q i < q.length := by
 have := firstLeast_le key q i
 omega
theorem firstLeast_min (key : Nat → Int) (q : List Nat) : ∀ i j, j < i → key (q.getD (firstLeast key q i) 0) < key (q.getD j 0) ∨ (key (q.getD (firstLeast key q i) 0) = key (q.getD j 0) ∧ firstLeast key q i ≤ j) := by
 intro i
 induction i with
 | zero => intro j hj; omega
 | succ i ih =>
  intro j hj
  have hle := firstLeast_le key q i
  simp only [firstLeast]
  by_cases hc : key (q.getD i 0) < key (q.getD (firstLeast key q i) 0)
  ·
   rw [if_pos hc]
   rcases Nat.lt_or_ge j i with h | h
   ·
    have := ih j h
    omega
   ·
    obtain rfl : j = i := by omega
    exact .inr ⟨rfl, Nat.le_refl _⟩
  ·
   rw [if_neg hc]
   rcases Nat.lt_or_ge j i with h | h
   · exact ih j h
   ·
    obtain rfl : j = i := by omega
    omega
def pickAt (key : Nat → Int) (q : List Nat) : Nat := firstLeast key q q.length
def waits (key : Nat → Int) : Que (List Nat) where
 come := fun q k => q ++ [k]
 pick := fun q => q.getD (pickAt key q) 0
 left := fun q => q.eraseIdx (pickAt key q)
 rest := List.length
theorem getD_lt {α : Type} {l : List α} {j : Nat} {d : α} (h : j < l.length) : l.getD j d = l[j] := by simp [List.getD, List.getElem?_eq_getElem h]
theorem rises_same {q : List Nat} (h : q.Pairwise (· < ·)) {i j : Nat} (hi : i < q.length) (hj : j < q.length) (e : q[i] = q[j]) : i = j := by
 have h1 := List.pairwise_iff_getElem.1 h i j hi hj
 have h2 := List.pairwise_iff_getElem.1 h j i hj hi
 omega
theorem pickAt_lt (key : Nat → Int) {q : List Nat} (h : 0 < q.length) : pickAt key q < q.length := firstLeast_lt key h (Nat.le_refl _)
theorem waits_law (keys : List Int) : PickLaw (waits fun i => keys.getD i 0) keys [] (fun q => q.Pairwise (· < ·)) (fun q => q) where
 start := ⟨List.Pairwise.nil, rfl⟩
 rest := fun q _ => rfl
 idle := fun q h _ => ⟨h, rfl⟩
 come := fun q k h hk => by
  refine ⟨List.pairwise_append.2 ⟨h, List.pairwise_singleton _ _, fun a ha b hb => ?_⟩, by simp [waits], fun i => by simp [waits]⟩
  rw [List.mem_singleton] at hb
  subst hb
  exact hk a ha
 left := fun q h h0 => by
  have hlt := pickAt_lt (fun i => keys.getD i 0) h0
  refine ⟨List.Pairwise.sublist (List.eraseIdx_sublist ..) h, ?_, fun i => ?_⟩
  ·
   show (q.eraseIdx (pickAt _ q)).length + 1 = _
   rw [List.length_eraseIdx, if_pos hlt]
   omega
  ·
   show i ∈ q.eraseIdx (pickAt _ q) ↔ i ∈ q ∧ i ≠ q.getD (pickAt _ q) 0
   have hg : q.getD (pickAt (fun i => keys.getD i 0) q) 0 = q[pickAt (fun i => keys.getD i 0) q]'hlt := getD_lt hlt
   rw [hg, List.mem_eraseIdx_iff_getElem]
   constructor
   ·
    rintro ⟨j, hj, hne, rfl⟩
    exact ⟨List.getElem_mem _, fun e => hne (rises_same h _ _ e)⟩
   ·
    rintro ⟨hm, hne⟩
    obtain ⟨j, hj, rfl⟩ := List.getElem_of_mem hm
    exact ⟨j, hj, fun e => hne (by subst e; rfl), rfl⟩
 pick := fun q h h0 => by
  have hlt := pickAt_lt (fun i => keys.getD i 0) h0
  have hg : q.getD (pickAt (fun i => keys.getD i 0) q) 0 = q[pickAt (fun i => keys.getD i 0) q]'hlt := getD_lt hlt
  refine ⟨?_, fun i hi => ?_⟩
  ·
   show q.getD (pickAt _ q) 0 ∈ q
   rw [hg]
   exact List.getElem_mem _
  ·
   obtain ⟨j, hj, rfl⟩ := List.getElem_of_mem hi
   show keys.getD (q.getD (pickAt _ q) 0) 0 < _ ∨ (keys.getD (q.getD (pickAt _ q) 0) 0 = _ ∧ q.getD (pickAt _ q) 0 ≤ _)
   have hm := firstLeast_min (fun i => keys.getD i 0) q q.length j hj
   have hgj : q.getD j 0 = q[j] := getD_lt hj
   simp only [hgj] at hm
   rcases hm with hm | ⟨hm, hle⟩
   · exact .inl hm
   ·
    refine .inr ⟨hm, ?_⟩
    rw [hg]
    rcases Nat.lt_or_eq_of_le hle with h' | h'
    · exact Nat.le_of_lt (List.pairwise_iff_getElem.1 h _ _ hlt hj h')
    ·
     have e : pickAt (fun i => keys.getD i 0) q = j := h'
     simp only [e]
     exact Nat.le_refl _
end Go.Proofs.YtibhkijaafdkoaaGreatDoor

namespace Go.Proofs.YtibhkijaafdkoaaGreatDoor
def flowOf (ps : List Pk) (j : Nat) : Nat := match ps[j]? with | some p => p.flow.toNat | none => 0
theorem flowOf_get {ps : List Pk} {j : Nat} {p : Pk} (h : ps[j]? = some p) : flowOf ps j = p.flow.toNat := by simp [flowOf, h]
def ofFlow (ps : List Pk) (ns : List Int) (j : Nat) : Int := ns.getD (flowOf ps j) 0
def rankKeys (ps : List Pk) (ns : List Int) : List Int := (List.range ps.length).map (ofFlow ps ns)
def dueKeys (ps : List Pk) (ns : List Int) : List Int := (List.range ps.length).map fun i => tickOf ps i + ofFlow ps ns i
theorem rankKeys_length (ps : List Pk) (ns : List Int) : (rankKeys ps ns).length = ps.length := by simp [rankKeys]
theorem dueKeys_length (ps : List Pk) (ns : List Int) : (dueKeys ps ns).length = ps.length := by simp [dueKeys]
theorem rankKeys_get {ps : List Pk} {ns : List Int} {i : Nat} (h : i < ps.length) : (rankKeys ps ns).getD i 0 = ofFlow ps ns i := by
 rw [getD_lt (by rw [rankKeys_length]; exact h)]
 simp [rankKeys]
theorem dueKeys_get {ps : List Pk} {ns : List Int} {i : Nat} (h : i < ps.length) : (dueKeys ps ns).getD i 0 = tickOf ps i + ofFlow ps ns i := by
 rw [getD_lt (by rw [dueKeys_length]; exact h)]
 simp [dueKeys]
def numsOf (l : List Sn) : List Nat := l.map fun x => x.num.toNat
section
end
end Go.Proofs.YtibhkijaafdkoaaGreatDoor

namespace Go.Proofs.YtibhkijaafdkoaaGreatDoor
def Conv (per : Int) (ps : List Pk) (l : List Sn) : Prop := ∀ (k : Nat) x, l[k]? = some x → ∃ t b, Tick ps (l.take k) t ∧ Undone ps.length (l.take k) b ∧ tickOf ps b ≤ t ∧ x = ⟨(b : Nat), t, t + per * bytesOf ps b⟩
def Turns (ps : List Pk) (l : List Sn) : Prop := ∀ (k : Nat) x, l[k]? = some x → ∀ j, j < x.num.toNat → flowOf ps j = flowOf ps x.num.toNat → ¬ Undone ps.length (l.take k) j
section
variable {per : Int} {ps : List Pk} {l : List Sn} {keys : List Int}
theorem Sched.conv (h : Sched per ps keys l) : Conv per ps l := fun k x hx => by
 obtain ⟨t, b, h1, h2, e⟩ := h k x hx
 exact ⟨t, b, h1, h2.undone, h2.came, e⟩
theorem Sched.turns (ho : OkPks ps) (hk : ∀ i j, i < j → j < ps.length → flowOf ps i = flowOf ps j → keys.getD i 0 ≤ keys.getD j 0) (h : Sched per ps keys l) : Turns ps l := fun k x hx j hj hf hu => by
 obtain ⟨t, b, h1, h2, e⟩ := h k x hx
 have eb : x.num.toNat = b := by rw [e]; simp
 rw [eb] at hj hf
 have hb := h2.undone.1
 have c := ticks_le ho (Nat.le_of_lt hj) hb
 have c1 := h2.least j hu (by have := h2.came; omega)
 have c2 := hk j b hj hb hf
 omega
theorem sum_one : ∀ L : List Nat, sumOf (fun _ => 1) L = L.length
 | [] => rfl
 | a :: L => by
  have := sum_one L
  simp only [sumOf, List.length_cons]
  omega
theorem few_of {A B : List Nat} (hA : A.Nodup) (h : ∀ a, a ∈ A → a ∈ B) : A.length ≤ B.length := by
 have := sumOf_le (f := fun _ => 1) (fun _ => by omega) A B hA h
 rw [sum_one, sum_one] at this
 omega
theorem same_of {f : Nat → Int} (hf : ∀ i, 0 ≤ f i) {A B : List Nat} (hA : A.Nodup) (hB : B.Nodup) (h : ∀ a, a ∈ A ↔ a ∈ B) : sumOf f A = sumOf f B := by
 have h1 := sumOf_le hf A B hA fun a => (h a).1
 have h2 := sumOf_le hf B A hB fun a => (h a).2
 omega
theorem all_of {A : List Nat} {k : Nat} (hA : A.Nodup) (hl : A.length = k) (h : ∀ a, a ∈ A → a < k) (j : Nat) : j ∈ A ↔ j < k := by
 refine ⟨h j, fun hj => ?_⟩
 by_cases hm : j ∈ A
 · exact hm
 ·
  have := few_of (A := j :: A) (B := List.range k) (List.nodup_cons.2 ⟨hm, hA⟩) fun a ha => by
   rcases List.mem_cons.1 ha with e | ha
   · rw [e]; exact List.mem_range.2 hj
   · exact List.mem_range.2 (h a ha)
  rw [List.length_cons, List.length_range, hl] at this
  omega
theorem nums_take1 {k : Nat} {x : Sn} (h : l[k]? = some x) : numsOf (l.take (k + 1)) = numsOf (l.take k) ++ [x.num.toNat] := by
 rw [List.take_add_one, h]
 simp [numsOf]
theorem lastFin_take {k : Nat} {x : Sn} (h : l[k]? = some x) : lastFin (l.take (k + 1)) = x.fin := by
 rw [List.take_add_one, h]
 exact lastFin_snoc _ _
theorem Conv.nums (h : Conv per ps l) : ∀ k, k ≤ l.length → (numsOf (l.take k)).Nodup ∧ (numsOf (l.take k)).length = k ∧ (∀ j, j ∈ numsOf (l.take k) → j < ps.length) ∧ ∀ j : Nat, j ∈ numsOf (l.take k) ↔ ∃ x, x ∈ l.take k ∧ x.num = j
 | 0, _ => ⟨List.nodup_nil, rfl, (fun j hj => by simp [numsOf] at hj), fun j => by simp [numsOf]⟩
 | k + 1, hk => by
  obtain ⟨i1, i2, i3, i4⟩ := Conv.nums h k (by omega)
  have hx : l[k]? = some l[k] := List.getElem?_eq_getElem (by omega)
  obtain ⟨t, b, -, hu, -, e⟩ := h k _ hx
  have eb : (l[k]).num.toNat = b := by rw [e]; simp
  have hb : b ∉ numsOf (l.take k) := fun hm => by
   obtain ⟨x, hx1, hx2⟩ := (i4 b).1 hm
   exact hu.2 x hx1 hx2
  rw [nums_take1 hx, eb]
  refine ⟨?_, by simp [i2], fun j hj => ?_, fun j => ?_⟩
  ·
   refine List.nodup_append.2 ⟨i1, List.nodup_cons.2 ⟨by simp, List.nodup_nil⟩, fun a ha c hc e => ?_⟩
   rw [List.mem_singleton] at hc
   exact hb (by rw [← hc, ← e]; exact ha)
  ·
   rcases List.mem_append.1 hj with hj | hj
   · exact i3 j hj
   · rw [List.mem_singleton] at hj; rw [hj]; exact hu.1
  ·
   rw [List.mem_append, List.mem_singleton, i4, List.take_add_one, hx]
   simp only [Option.toList_some, List.mem_append, List.mem_singleton]
   constructor
   ·
    rintro (⟨x, h1, h2⟩ | rfl)
    · exact ⟨x, .inl h1, h2⟩
    · exact ⟨_, .inr rfl, by rw [e]⟩
   ·
    rintro ⟨x, h1 | rfl, h2⟩
    · exact .inl ⟨x, h1, h2⟩
    ·
     right
     rw [e] at h2
     simp only at h2
     omega
theorem Conv.undone (h : Conv per ps l) {k : Nat} (hk : k ≤ l.length) (j : Nat) : Undone ps.length (l.take k) j ↔ j < ps.length ∧ j ∉ numsOf (l.take k) := by
 obtain ⟨-, -, -, i4⟩ := h.nums k hk
 rw [i4]
 exact ⟨fun hu => ⟨hu.1, fun ⟨x, h1, h2⟩ => hu.2 x h1 h2⟩, fun hu => ⟨hu.1, fun x h1 h2 => hu.2 ⟨x, h1, h2⟩⟩⟩
theorem bytes_low (ho : OkPks ps) (hper : 1 ≤ per) (i : Nat) : 0 ≤ per * bytesOf ps i := by
 refine Int.mul_nonneg (by omega) ?_
 cases hx : ps[i]? with
 | none => simp [bytesOf, hx]
 | some p =>
  obtain ⟨-, -, s1, -, -, -⟩ := okPk_true (ho.each _ _ hx).1
  rw [bytesOf_get hx]
  omega
theorem Conv.step (ho : OkPks ps) (hper : 1 ≤ per) (h : Conv per ps l) {k : Nat} {x : Sn} (hx : l[k]? = some x) : lastFin (l.take k) ≤ x.beg ∧ x.beg ≤ x.fin ∧ lastFin (l.take (k + 1)) = x.fin ∧ tickOf ps x.num.toNat ≤ x.beg ∧ x.fin = x.beg + per * bytesOf ps x.num.toNat ∧ x.num.toNat < ps.length := by
 obtain ⟨t, b, ht, hu, hc, e⟩ := h k x hx
 have eb : x.num.toNat = b := by rw [e]; simp
 have := bytes_low ho hper b
 rw [lastFin_take hx, eb, e]
 refine ⟨?_, by simp only; omega, rfl, hc, rfl, hu.1⟩
 rcases ht with ⟨rfl, -⟩ | ⟨h0, i, hi, rfl, -⟩
 · exact Int.le_refl _
 · exact Int.le_of_lt (h0 i hi)
theorem Conv.mono (ho : OkPks ps) (hper : 1 ≤ per) (h : Conv per ps l) {m : Nat} : ∀ d, m + d ≤ l.length → lastFin (l.take m) ≤ lastFin (l.take (m + d))
 | 0, _ => Int.le_refl _
 | d + 1, hd => by
  have ih := Conv.mono ho hper h (m := m) d (by omega)
  have hx : l[m + d]? = some l[m + d] := List.getElem?_eq_getElem (by omega)
  obtain ⟨s1, s2, s3, -⟩ := h.step ho hper hx
  rw [← Nat.add_assoc, s3]
  omega
theorem lto_mono (ho : OkPks ps) (hper : 1 ≤ per) {m : Nat} : ∀ d, lto per ps m ≤ lto per ps (m + d)
 | 0 => Int.le_refl _
 | d + 1 => by
  have ih := lto_mono ho hper (m := m) d
  have := bytes_low ho hper (m + d)
  rw [← Nat.add_assoc]
  simp only [lto]
  omega
theorem Conv.idles (ho : OkPks ps) (hper : 1 ≤ per) (h : Conv per ps l) {k : Nat} {x : Sn} (hx : l[k]? = some x) (hi : lastFin (l.take k) < x.beg) : (∀ j, j ∈ numsOf (l.take k) ↔ j < k) ∧ x.beg = tickOf ps k := by
 have hk := lt_of_get hx
 obtain ⟨n1, n2, n3, n4⟩ := h.nums k (by omega)
 obtain ⟨t, b, ht, hu, hc, e⟩ := h k x hx
 have et : x.beg = t := by rw [e]
 rw [et] at hi ⊢
 rcases ht with ⟨rfl, -⟩ | ⟨h0, i, hui, rfl, hmin⟩
 · omega
 ·
  have sep : ∀ j i, j ∈ numsOf (l.take k) → Undone ps.length (l.take k) i → j < i := fun j i hj hi' => by
   obtain ⟨y, hy1, hy2⟩ := (n4 j).1 hj
   obtain ⟨m, hm⟩ := List.mem_iff_getElem?.1 hy1
   rw [List.getElem?_take] at hm
   have hmk : m < k := by
    rcases Nat.lt_or_ge m k with h' | h'
    · exact h'
    · rw [if_neg (by omega)] at hm; cases hm
   rw [if_pos hmk] at hm
   obtain ⟨s1, s2, s3, s4, -, -⟩ := h.step ho hper hm
   have ey : y.num.toNat = j := by rw [hy2]; simp
   rw [ey] at s4
   have mono := h.mono ho hper (m := m + 1) (k - (m + 1)) (by omega)
   rw [show m + 1 + (k - (m + 1)) = k by omega, s3] at mono
   have := h0 i hi'
   rcases Nat.lt_or_ge j i with h' | h'
   · exact h'
   ·
    have := ticks_le ho h' (n3 j hj)
    omega
  have all : ∀ j, j ∈ numsOf (l.take k) ↔ j < k := by
   refine all_of n1 n2 fun j hj => ?_
   rcases Nat.lt_or_ge j k with h' | h'
   · exact h'
   ·
    have hlen := few_of (A := List.range (j + 1)) (B := numsOf (l.take k)) List.nodup_range fun a ha => by
     have ha := List.mem_range.1 ha
     by_cases hm : a ∈ numsOf (l.take k)
     · exact hm
     ·
      have := sep j a hj ((h.undone (by omega) a).2 ⟨by have := n3 j hj; omega, hm⟩)
      omega
    rw [List.length_range, n2] at hlen
    omega
  refine ⟨all, ?_⟩
  have hik : k ≤ i := by
   rcases Nat.lt_or_ge i k with h' | h'
   · exact absurd ((all i).2 h') ((h.undone (by omega) i).1 hui).2
   · exact h'
  have hkn : k < ps.length := by have := hui.1; omega
  have h1 := hmin k ((h.undone (by omega) k).2 ⟨hkn, fun hm => by have := (all k).1 hm; omega⟩)
  have h2 := ticks_le ho hik hui.1
  omega
def workOf (per : Int) (ps : List Pk) (L : List Nat) : Int := sumOf (fun i => per * bytesOf ps i) L
theorem workOf_snoc (per : Int) (ps : List Pk) (L : List Nat) (b : Nat) : workOf per ps (L ++ [b]) = workOf per ps L + per * bytesOf ps b := by
 unfold workOf
 rw [sumOf_append]
 simp [sumOf]
theorem lto_work (per : Int) (ps : List Pk) (k : Nat) : lto per ps (k + 1) - workOf per ps (List.range (k + 1)) = max (lto per ps k) (tickOf ps k) - workOf per ps (List.range k) := by
 rw [List.range_succ, workOf_snoc, lto]
 omega
def lostAt (per : Int) (ps : List Pk) (l : List Sn) (k : Nat) : Int := lastFin (l.take k) - workOf per ps (numsOf (l.take k))
theorem Conv.lost (ho : OkPks ps) (hper : 1 ≤ per) (h : Conv per ps l) {k : Nat} {x : Sn} (hx : l[k]? = some x) : lostAt per ps l (k + 1) = lostAt per ps l k + (x.beg - lastFin (l.take k)) := by
 obtain ⟨-, -, s3, -, s5, -⟩ := h.step ho hper hx
 unfold lostAt
 rw [s3, nums_take1 hx, workOf_snoc]
 omega
theorem Conv.lost_mono (ho : OkPks ps) (hper : 1 ≤ per) (h : Conv per ps l) {m : Nat} : ∀ d, m + d ≤ l.length → lostAt per ps l m ≤ lostAt per ps l (m + d)
 | 0, _ => Int.le_refl _
 | d + 1, hd => by
  have ih := Conv.lost_mono ho hper h (m := m) d (by omega)
  have hx : l[m + d]? = some l[m + d] := List.getElem?_eq_getElem (by omega)
  have := (h.step ho hper hx).1
  rw [← Nat.add_assoc, h.lost ho hper hx]
  omega
structure Beside (per : Int) (ps : List Pk) (l : List Sn) (k : Nat) (x : Sn) : Prop where
 same : lastFin (l.take k) < x.beg ↔ lto per ps k < tickOf ps k
 idle : lastFin (l.take k) < x.beg → lastFin (l.take k) = lto per ps k ∧ x.beg = tickOf ps k
theorem Conv.beside_one (ho : OkPks ps) (hper : 1 ≤ per) (h : Conv per ps l) {k : Nat} {x : Sn} (hx : l[k]? = some x) (hl : lostAt per ps l k = lto per ps k - workOf per ps (List.range k)) (hb : ∀ (m : Nat) y, m < k → l[m]? = some y → Beside per ps l m y) : Beside per ps l k x := by
 have hk := lt_of_get hx
 obtain ⟨n1, n2, n3, n4⟩ := h.nums k (by omega)
 have hnn := bytes_low ho hper
 obtain ⟨s1, -, -, -, -, s6⟩ := h.step ho hper hx
 have eqw : (∀ j, j ∈ numsOf (l.take k) ↔ j < k) → lastFin (l.take k) = lto per ps k := fun hall => by
  have := same_of (f := fun i => per * bytesOf ps i) hnn n1 (List.nodup_range (n := k)) fun a => by rw [hall, List.mem_range]
  unfold lostAt workOf at hl
  omega
 have idle : lastFin (l.take k) < x.beg → lastFin (l.take k) = lto per ps k ∧ x.beg = tickOf ps k := fun hi => by
  obtain ⟨hall, hbeg⟩ := h.idles ho hper hx hi
  exact ⟨eqw hall, hbeg⟩
 refine ⟨⟨fun hi => ?_, fun hi => ?_⟩, idle⟩
 ·
  obtain ⟨i1, i2⟩ := idle hi
  omega
 ·
  rcases Int.lt_or_le (lastFin (l.take k)) x.beg with h' | h'
  · exact h'
  ·
   exfalso
   have small : ∀ m, m ≤ k → ∀ c, c ∈ numsOf (l.take m) → c < k := by
    intro m
    induction m with
    | zero => intro _ c hc; simp [numsOf] at hc
    | succ m ih =>
     intro hm c hc
     have hy : l[m]? = some l[m] := List.getElem?_eq_getElem (by omega)
     rw [nums_take1 hy] at hc
     rcases List.mem_append.1 hc with hc | hc
     · exact ih (by omega) c hc
     ·
      rw [List.mem_singleton] at hc
      rcases Nat.lt_or_ge c k with h3 | h3
      · exact h3
      ·
       exfalso
       obtain ⟨t1, -, -, t4, -, t6⟩ := h.step ho hper hy
       rw [← hc] at t4 t6
       have c1 := ticks_le ho h3 t6
       rcases Int.lt_or_le (lastFin (l.take m)) (l[m]).beg with h4 | h4
       ·
        obtain ⟨-, e2⟩ := (hb m _ (by omega) hy).idle h4
        have c2 := lto_mono ho hper (m := m + 1) (k - (m + 1))
        rw [show m + 1 + (k - (m + 1)) = k by omega] at c2
        have c3 := hnn m
        have c4 : tickOf ps m ≤ lto per ps (m + 1) := by simp only [lto]; omega
        omega
       ·
        have c2 := h.lost_mono ho hper (m := m) (k - m) (by omega)
        rw [show m + (k - m) = k by omega, hl] at c2
        obtain ⟨q1, -, -, -⟩ := h.nums m (by omega)
        have c3 : workOf per ps (numsOf (l.take m)) ≤ workOf per ps (List.range k) := sumOf_le hnn _ _ q1 fun a ha => List.mem_range.2 (ih (by omega) a ha)
        unfold lostAt at c2
        omega
   have hall := all_of n1 n2 (small k (Nat.le_refl _))
   have eT := eqw hall
   obtain ⟨t, b, ht, hu, hc, e⟩ := h k x hx
   have et : x.beg = t := by rw [e]
   have hbk : k ≤ b := by
    rcases Nat.lt_or_ge b k with h3 | h3
    · exact absurd ((hall b).2 h3) ((h.undone (by omega) b).1 hu).2
    · exact h3
   have := ticks_le ho hbk hu.1
   omega
theorem Conv.beside (ho : OkPks ps) (hper : 1 ≤ per) (h : Conv per ps l) : ∀ k, k ≤ l.length → lostAt per ps l k = lto per ps k - workOf per ps (List.range k) ∧ ∀ (m : Nat) y, m < k → l[m]? = some y → Beside per ps l m y
 | 0, _ => ⟨rfl, fun m y hm => absurd hm (Nat.not_lt_zero _)⟩
 | k + 1, hk => by
  obtain ⟨i1, i2⟩ := Conv.beside ho hper h k (by omega)
  have hx : l[k]? = some l[k] := List.getElem?_eq_getElem (by omega)
  have hb := h.beside_one ho hper hx i1 i2
  refine ⟨?_, fun m y hm hy => ?_⟩
  ·
   rw [h.lost ho hper hx, i1]
   have e := lto_work per ps k
   obtain ⟨s1, -⟩ := h.step ho hper hx
   by_cases hi : lastFin (l.take k) < (l[k]).beg
   ·
    obtain ⟨e1, e2⟩ := hb.idle hi
    have := hb.same.1 hi
    omega
   ·
    have : ¬ lto per ps k < tickOf ps k := fun h' => hi (hb.same.2 h')
    omega
  ·
   rcases Nat.lt_or_ge m k with h' | h'
   · exact i2 m y h' hy
   ·
    obtain rfl : m = k := by omega
    rw [hx] at hy
    obtain rfl := Option.some.inj hy
    exact hb
structure MayOne (per : Int) (ps : List Pk) (out : List Sn) (x : Sn) : Prop where
 num : ∃ k : Nat, x.num = k ∧ k < ps.length ∧ isDone out k = false
 old : tickOf ps x.num.toNat ≤ x.beg ∧ lastFin out ≤ x.beg
 shape : x.fin = x.beg + per * bytesOf ps x.num.toNat
 idle : lastFin out < x.beg → ∀ i, i < ps.length → isDone out i = false → x.beg ≤ tickOf ps i
 turn : ∀ i, i < x.num.toNat → flowOf ps i = flowOf ps x.num.toNat → isDone out i = true
theorem Conv.may (ho : OkPks ps) (hper : 1 ≤ per) (h : Conv per ps l) (ht : Turns ps l) {k : Nat} {x : Sn} (hx : l[k]? = some x) : MayOne per ps (l.take k) x := by
 obtain ⟨s1, -, -, s4, s5, s6⟩ := h.step ho hper hx
 obtain ⟨t, b, h1, h2, -, e⟩ := h k x hx
 have et : x.beg = t := by rw [e]
 refine ⟨⟨b, by rw [e], undone_iff.1 h2⟩, ⟨s4, s1⟩, s5, fun hi i hin hd => ?_, fun i hi hf => ?_⟩
 ·
  rw [et] at hi ⊢
  rcases h1 with ⟨rfl, -⟩ | ⟨-, j, -, rfl, hm⟩
  · omega
  · exact hm i (undone_iff.2 ⟨hin, hd⟩)
 ·
  have := ht k x hx i hi hf
  cases hd : isDone (l.take k) i with
  | true => rfl
  | false => exact absurd (undone_iff.2 ⟨by omega, hd⟩) this
theorem Conv.all (h : Conv per ps l) (hl : l.length = ps.length) {j : Nat} (hj : j < ps.length) : isDone l j = true := by
 obtain ⟨n1, n2, n3, n4⟩ := h.nums l.length (Nat.le_refl _)
 have hm := (all_of n1 n2 (fun i hi => by have := n3 i hi; omega) j).2 (by omega)
 obtain ⟨x, x1, x2⟩ := (n4 j).1 hm
 cases hd : isDone l j with
 | true => rfl
 | false => exact absurd x2 (isDone_false.1 hd x (List.mem_of_mem_take x1))
theorem rank_turns (ho : OkPks ps) {ns : List Int} (h : Sched per ps (rankKeys ps ns) l) : Turns ps l := by
 refine h.turns ho fun i j hij hj hf => ?_
 have e : ∀ k, k < ps.length → (rankKeys ps ns).getD k 0 = ofFlow ps ns k := fun k hk => by simp [rankKeys, List.getD, hk]
 rw [e i (by omega), e j hj]
 unfold ofFlow
 rw [hf]
 exact Int.le_refl _
theorem due_turns (ho : OkPks ps) {ns : List Int} (h : Sched per ps (dueKeys ps ns) l) : Turns ps l := by
 refine h.turns ho fun i j hij hj hf => ?_
 have e : ∀ k, k < ps.length → (dueKeys ps ns).getD k 0 = tickOf ps k + ofFlow ps ns k := fun k hk => by simp [dueKeys, List.getD, hk]
 rw [e i (by omega), e j hj]
 have := ticks_le ho (Nat.le_of_lt hij) hj
 unfold ofFlow
 rw [hf]
 omega
theorem lind_may (ho : OkPks ps) : Conv per ps (lindAll per ps ps.length) ∧ Turns ps (lindAll per ps ps.length) := by
 have h := lind_sched (per := per) ho [] (fun _ => rfl)
 exact ⟨h.conv, h.turns ho fun _ _ _ _ _ => Int.le_refl _⟩
end
end Go.Proofs.YtibhkijaafdkoaaGreatDoor

namespace Go.Proofs.YtibhkijaafdkoaaGreatDoor
def Ahead (at_ : Nat → Int) (a b : Nat) : Prop := at_ a < at_ b ∨ (at_ a = at_ b ∧ a < b)
structure IsOrder (at_ : Nat → Int) (n : Nat) (L : List Nat) : Prop where
 sorted : L.Pairwise (Ahead at_)
 mem : ∀ j, j ∈ L ↔ j < n
section
variable {at_ bt : Nat → Int} {n : Nat} {L M : List Nat}
theorem Ahead.ne {a b : Nat} (h : Ahead at_ a b) : a ≠ b := fun e => by subst e; rcases h with h | ⟨-, h⟩ <;> omega
theorem Ahead.not {a b : Nat} (h : Ahead at_ a b) : ¬ Ahead at_ b a := fun k => by unfold Ahead at h k; omega
theorem sorted_same : ∀ {L M : List Nat}, L.Pairwise (Ahead at_) → M.Pairwise (Ahead at_) → (∀ j, j ∈ L ↔ j ∈ M) → L = M
 | [], [], _, _, _ => rfl
 | [], b :: M, _, _, h => by have := (h b).2 (List.mem_cons_self ..); cases this
 | a :: L, [], _, _, h => by have := (h a).1 (List.mem_cons_self ..); cases this
 | a :: L, b :: M, hL, hM, h => by
  obtain ⟨l1, l2⟩ := List.pairwise_cons.1 hL
  obtain ⟨m1, m2⟩ := List.pairwise_cons.1 hM
  have hab : a = b := by
   by_cases e : a = b
   · exact e
   ·
    have h1 : a ∈ M := by
     rcases List.mem_cons.1 ((h a).1 (List.mem_cons_self ..)) with h' | h'
     · exact absurd h' e
     · exact h'
    have h2 : b ∈ L := by
     rcases List.mem_cons.1 ((h b).2 (List.mem_cons_self ..)) with h' | h'
     · exact absurd h'.symm e
     · exact h'
    exact absurd (l1 b h2) (m1 a h1).not
  subst hab
  have na : a ∉ L := fun hm => (l1 a hm).ne rfl
  have nb : a ∉ M := fun hm => (m1 a hm).ne rfl
  have := sorted_same l2 m2 (fun j => ⟨fun hj => by
   rcases List.mem_cons.1 ((h j).1 (List.mem_cons_of_mem _ hj)) with e | e
   · exact absurd (by rw [← e]; exact hj) na
   · exact e, fun hj => by
   rcases List.mem_cons.1 ((h j).2 (List.mem_cons_of_mem _ hj)) with e | e
   · exact absurd (by rw [← e]; exact hj) nb
   · exact e⟩)
  rw [this]
theorem IsOrder.same (h : IsOrder at_ n L) (k : IsOrder at_ n M) : L = M := sorted_same h.sorted k.sorted fun j => by rw [h.mem, k.mem]
theorem IsOrder.nodup (h : IsOrder at_ n L) : L.Nodup := by
 refine List.pairwise_iff_getElem.2 fun i j hi hj hij => (List.pairwise_iff_getElem.1 h.sorted i j hi hj hij).ne
theorem IsOrder.length (h : IsOrder at_ n L) : L.length = n := by
 have h1 := few_of (B := List.range n) h.nodup (fun a ha => List.mem_range.2 ((h.mem a).1 ha))
 have h2 := few_of (A := List.range n) (B := L) List.nodup_range (fun a ha => (h.mem a).2 (List.mem_range.1 ha))
 simp only [List.length_range] at h1 h2
 omega
theorem IsOrder.start (at_ : Nat → Int) : IsOrder at_ 0 [] := ⟨List.Pairwise.nil, fun j => ⟨(fun h => by cases h), fun h => absurd h (Nat.not_lt_zero _)⟩⟩
theorem IsOrder.range (hm : ∀ i j, i < j → j < n → at_ i ≤ at_ j) : IsOrder at_ n (List.range n) := by
 refine ⟨List.pairwise_iff_getElem.2 fun i j hi hj hij => ?_, fun j => List.mem_range⟩
 rw [List.length_range] at hi hj
 rw [List.getElem_range, List.getElem_range]
 have := hm i j hij hj
 unfold Ahead
 omega
end
end Go.Proofs.YtibhkijaafdkoaaGreatDoor
