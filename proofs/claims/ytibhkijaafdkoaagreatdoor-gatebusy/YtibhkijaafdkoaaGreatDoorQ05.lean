/- Own facts, put together: no statement of its own. -/
import Derived.Test.YtibhkijaafdkoaaGreatDoorQ04
namespace Go.Proofs.YtibhkijaafdkoaaGreatDoor
def firstLeast (key : Nat → Int) (q : List Nat) : Nat → Nat
 | 0 => 0
 | i + 1 => if key (q.getD i 0) < key (q.getD (firstLeast key q i) 0) then i else firstLeast key q i
theorem firstLeast_le (key : Nat → Int) (q : List Nat) : ∀ i, firstLeast key q i ≤ i - 1
 | 0 => Nat.le_refl _
 | i + 1 => by
  have := firstLeast_le key q i
  simp only [firstLeast]
  split <;> omega
theorem firstLeast_lt (key : Nat → Int) {q : List Nat} {i : Nat} (h : 0 < q.length) (hi : i ≤ q.length) : firstLeast key q i < q.length := by
 have := firstLeast_le key q i
 omega
theorem firstLeast_min (key : Nat → Int) (q : List Nat) : ∀ i j, j < i → key (q.getD (firstLeast key q i) 0) < key (q.getD j 0) ∨ (key (q.getD (firstLeast key q i) 0) = key (q.getD j 0) ∧ firstLeast key q i ≤ j) := by
 intro i
 induction i with
 | zero => intro j hj; omega
 | succ i ih =>
  intro j hj
  have hle := firstLeast_le key q i
  simp only [firstLeast]
  by_cases hc : key (q.getD i 0) < key (q.getD (firstLeast key q i) 0)
  ·
   rw [if_pos hc]
   rcases Nat.lt_or_ge j i with h | h
   ·
    have := ih j h
    omega
   ·
    obtain rfl : j = i := by omega
    exact .inr ⟨rfl, Nat.le_refl _⟩
  ·
   rw [if_neg hc]
   rcases Nat.lt_or_ge j i with h | h
   · exact ih j h
   ·
    obtain rfl : j = i := by omega
    omega
def pickAt (key : Nat → Int) (q : List Nat) : Nat := firstLeast key q q.length
def waits (key : Nat → Int) : Que (List Nat) where
 come := fun q k => q ++ [k]
 pick := fun q => q.getD (pickAt key q) 0
 left := fun q => q.eraseIdx (pickAt key q)
 rest := List.length
theorem getD_lt {α : Type} {l : List α} {j : Nat} {d : α} (h : j < l.length) : l.getD j d = l[j] := by simp [List.getD, List.getElem?_eq_getElem h]
theorem rises_same {q : List Nat} (h : q.Pairwise (· < ·)) {i j : Nat} (hi : i < q.length) (hj : j < q.length) (e : q[i] = q[j]) : i = j := by
 have h1 := List.pairwise_iff_getElem.1 h i j hi hj
 have h2 := List.pairwise_iff_getElem.1 h j i hj hi
 omega
theorem pickAt_lt (key : Nat → Int) {q : List Nat} (h : 0 < q.length) : pickAt key q < q.length := firstLeast_lt key h (Nat.le_refl _)
theorem waits_law (keys : List Int) : PickLaw (waits fun i => keys.getD i 0) keys [] (fun q => q.Pairwise (· < ·)) (fun q => q) where
 start := ⟨List.Pairwise.nil, rfl⟩
 rest := fun q _ => rfl
 idle := fun q h _ => ⟨h, rfl⟩
 come := fun q k h hk => by
  refine ⟨List.pairwise_append.2 ⟨h, List.pairwise_singleton _ _, fun a ha b hb => ?_⟩, by simp [waits], fun i => by simp [waits]⟩
  rw [List.mem_singleton] at hb
  subst hb
  exact hk a ha
 left := fun q h h0 => by
  have hlt := pickAt_lt (fun i => keys.getD i 0) h0
  refine ⟨List.Pairwise.sublist (List.eraseIdx_sublist ..) h, ?_, fun i => ?_⟩
  ·
   show (q.eraseIdx (pickAt _ q)).length + 1 = _
   rw [List.length_eraseIdx, if_pos hlt]
   omega
  ·
   show i ∈ q.eraseIdx (pickAt _ q) ↔ i ∈ q ∧ i ≠ q.getD (pickAt _ q) 0
   have hg : q.getD (pickAt (fun i => keys.getD i 0) q) 0 = q[pickAt (fun i => keys.getD i 0) q]'hlt := getD_lt hlt
   rw [hg, List.mem_eraseIdx_iff_getElem]
   constructor
   ·
    rintro ⟨j, hj, hne, rfl⟩
    exact ⟨List.getElem_mem _, fun e => hne (rises_same h _ _ e)⟩
   ·
    rintro ⟨hm, hne⟩
    obtain ⟨j, hj, rfl⟩ := List.getElem_of_mem hm
    exact ⟨j, hj, fun e => hne (by subst e; rfl), rfl⟩
 pick := fun q h h0 => by
  have hlt := pickAt_lt (fun i => keys.getD i 0) h0
  have hg : q.getD (pickAt (fun i => keys.getD i 0) q) 0 = q[pickAt (fun i => keys.getD i 0) q]'hlt := getD_lt hlt
  refine ⟨?_, fun i hi => ?_⟩
  ·
   show q.getD (pickAt _ q) 0 ∈ q
   rw [hg]
   exact List.getElem_mem _
  ·
   obtain ⟨j, hj, rfl⟩ := List.getElem_of_mem hi
   show keys.getD (q.getD (pickAt _ q) 0) 0 < _ ∨ (keys.getD (q.getD (pickAt _ q) 0) 0 = _ ∧ q.getD (pickAt _ q) 0 ≤ _)
   have hm := firstLeast_min (fun i => keys.getD i 0) q q.length j hj
   have hgj : q.getD j 0 = q[j] := getD_lt hj
   simp only [hgj] at hm
   rcases hm with hm | ⟨hm, hle⟩
   · exact .inl hm
   ·
    refine .inr ⟨hm, ?_⟩
    rw [hg]
    rcases Nat.lt_or_eq_of_le hle with h' | h'
    · exact Nat.le_of_lt (List.pairwise_iff_getElem.1 h _ _ hlt hj h')
    ·
     have e : pickAt (fun i => keys.getD i 0) q = j := h'
     simp only [e]
     exact Nat.le_refl _
end Go.Proofs.YtibhkijaafdkoaaGreatDoor

namespace Go.Proofs.YtibhkijaafdkoaaGreatDoor
def flowOf (ps : List Pk) (j : Nat) : Nat := match ps[j]? with | some p => p.flow.toNat | none => 0
theorem flowOf_get {ps : List Pk} {j : Nat} {p : Pk} (h : ps[j]? = some p) : flowOf ps j = p.flow.toNat := by simp [flowOf, h]
def ofFlow (ps : List Pk) (ns : List Int) (j : Nat) : Int := ns.getD (flowOf ps j) 0
def rankKeys (ps : List Pk) (ns : List Int) : List Int := (List.range ps.length).map (ofFlow ps ns)
def dueKeys (ps : List Pk) (ns : List Int) : List Int := (List.range ps.length).map fun i => tickOf ps i + ofFlow ps ns i
theorem rankKeys_length (ps : List Pk) (ns : List Int) : (rankKeys ps ns).length = ps.length := by simp [rankKeys]
theorem dueKeys_length (ps : List Pk) (ns : List Int) : (dueKeys ps ns).length = ps.length := by simp [dueKeys]
theorem rankKeys_get {ps : List Pk} {ns : List Int} {i : Nat} (h : i < ps.length) : (rankKeys ps ns).getD i 0 = ofFlow ps ns i := by
 rw [getD_lt (by rw [rankKeys_length]; exact h)]
 simp [rankKeys]
theorem dueKeys_get {ps : List Pk} {ns : List Int} {i : Nat} (h : i < ps.length) : (dueKeys ps ns).getD i 0 = tickOf ps i + ofFlow ps ns i := by
 rw [getD_lt (by rw [dueKeys_length]; exact h)]
 simp [dueKeys]
def numsOf (l : List Sn) : List Nat := l.map fun x => x.num.toNat
section
end
end Go.Proofs.YtibhkijaafdkoaaGreatDoor
