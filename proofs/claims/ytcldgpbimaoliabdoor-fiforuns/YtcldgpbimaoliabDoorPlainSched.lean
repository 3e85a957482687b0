/- Plain facts: of those that wait the least one by a key, of these the first: such a list there is but once. No Go text is named here. -/
import Derived.Test.YtcldgpbimaoliabDoorPlainFifo
namespace Go.Proofs.YtcldgpbimaoliabDoor

/-- Not sent yet. -/
def Undone (n : Nat) (out : List Sn) (i : Nat) : Prop := i < n ∧ ∀ x ∈ out, x.num ≠ (i : Int)
/-- When the last one is through. -/
def lastFin (out : List Sn) : Int := match out.getLast? with | some x => x.fin | none => 0
theorem lastFin_nil : lastFin [] = 0 := rfl
theorem lastFin_snoc (out : List Sn) (x : Sn) : lastFin (out ++ [x]) = x.fin := by simp [lastFin]

/-- Of those that have come, and wait, the least one, of these the first. -/
structure Best (ps : List Pk) (keys : List Int) (out : List Sn) (t : Int) (b : Nat) : Prop where
  undone : Undone ps.length out b
  came : tickOf ps b ≤ t
  least : ∀ i, Undone ps.length out i → tickOf ps i ≤ t → keys.getD b 0 < keys.getD i 0 ∨ (keys.getD b 0 = keys.getD i 0 ∧ b ≤ i)
/-- The tick at which the next one is sent. -/
def Tick (ps : List Pk) (out : List Sn) (t : Int) : Prop :=
  (t = lastFin out ∧ ∃ i, Undone ps.length out i ∧ tickOf ps i ≤ t) ∨
  ((∀ i, Undone ps.length out i → lastFin out < tickOf ps i) ∧ ∃ i, Undone ps.length out i ∧ t = tickOf ps i ∧ ∀ k, Undone ps.length out k → tickOf ps i ≤ tickOf ps k)
theorem Tick.same {ps : List Pk} {out : List Sn} {t u : Int} (h : Tick ps out t) (k : Tick ps out u) : t = u := by
  rcases h with ⟨rfl, i, h1, h2⟩ | ⟨h0, i, h1, rfl, h2⟩
  · rcases k with ⟨rfl, -⟩ | ⟨k0, -⟩
    · rfl
    · have := k0 i h1; omega
  · rcases k with ⟨rfl, j, k1, k2⟩ | ⟨-, j, k1, rfl, k2⟩
    · have := h0 j k1; omega
    · have := h2 j k1
      have := k2 i h1
      omega
theorem Best.same {ps : List Pk} {keys : List Int} {out : List Sn} {t : Int} {b c : Nat} (h : Best ps keys out t b) (k : Best ps keys out t c) : b = c := by
  have h1 := h.least c k.undone k.came
  have k1 := k.least b h.undone h.came
  omega
/-- The next one that is sent. -/
def IsNext (per : Int) (ps : List Pk) (keys : List Int) (out : List Sn) (x : Sn) : Prop := ∃ t b, Tick ps out t ∧ Best ps keys out t b ∧ x = ⟨b, t, t + per * bytesOf ps b⟩
theorem IsNext.same {per : Int} {ps : List Pk} {keys : List Int} {out : List Sn} {x y : Sn} (h : IsNext per ps keys out x) (k : IsNext per ps keys out y) : x = y := by
  obtain ⟨t, b, h1, h2, rfl⟩ := h
  obtain ⟨u, c, k1, k2, rfl⟩ := k
  obtain rfl := h1.same k1
  obtain rfl := h2.same k2
  rfl
/-- A list of what was sent, each the next one. -/
def Sched (per : Int) (ps : List Pk) (keys : List Int) (out : List Sn) : Prop := ∀ k x, out[k]? = some x → IsNext per ps keys (out.take k) x
theorem Sched.nil (per : Int) (ps : List Pk) (keys : List Int) : Sched per ps keys [] := fun k x h => by simp at h
theorem Sched.snoc {per : Int} {ps : List Pk} {keys : List Int} {out : List Sn} {x : Sn} (h : Sched per ps keys out) (hx : IsNext per ps keys out x) : Sched per ps keys (out ++ [x]) := by
  intro k y hk
  have hl := lt_of_get hk
  rw [List.length_append, List.length_cons, List.length_nil] at hl
  rcases Nat.lt_or_ge k out.length with h1 | h1
  · rw [List.getElem?_append_left h1] at hk
    rw [List.take_append_of_le_length (by omega)]
    exact h k y hk
  · obtain rfl : k = out.length := by omega
    rw [List.getElem?_append_right (Nat.le_refl _)] at hk
    simp at hk
    subst hk
    rw [List.take_append_of_le_length (Nat.le_refl _), List.take_length]
    exact hx
theorem Sched.same {per : Int} {ps : List Pk} {keys : List Int} {a b : List Sn} (h : Sched per ps keys a) (k : Sched per ps keys b) (hl : a.length = b.length) : a = b := by
  have key : ∀ n, n ≤ a.length → a.take n = b.take n := by
    intro n
    induction n with
    | zero => intro _; simp
    | succ n ih =>
      intro hn
      have e := ih (by omega)
      have h1 : a[n]? = some a[n] := List.getElem?_eq_getElem (by omega)
      have h2 : b[n]? = some (b[n]'(by omega)) := List.getElem?_eq_getElem (by omega)
      have g1 := h n _ h1
      have g2 := k n _ h2
      rw [← e] at g2
      have := g1.same g2
      rw [List.take_add_one, List.take_add_one, e, h1, h2, this]
  have := key a.length (Nat.le_refl _)
  rw [List.take_length, hl, List.take_length] at this
  exact this

theorem undone_lind {per : Int} {ps : List Pk} {j i : Nat} : Undone ps.length (lindAll per ps j) i ↔ i < ps.length ∧ j ≤ i := by
  unfold Undone
  constructor
  · rintro ⟨h1, h2⟩
    refine ⟨h1, ?_⟩
    rcases Nat.lt_or_ge i j with h | h
    · have hm : lind per ps i ∈ lindAll per ps j := List.mem_map.2 ⟨i, List.mem_range.2 h, rfl⟩
      exact absurd rfl (h2 _ hm)
    · exact h
  · rintro ⟨h1, h2⟩
    refine ⟨h1, fun x hx => ?_⟩
    obtain ⟨k, hk, rfl⟩ := List.mem_map.1 hx
    have := List.mem_range.1 hk
    simp only [lind]
    omega
theorem lastFin_lind (per : Int) (ps : List Pk) : ∀ j, lastFin (lindAll per ps j) = lto per ps j
  | 0 => rfl
  | j + 1 => by rw [lindAll_succ, lastFin_snoc]; rfl
/-- In order: the list by a key that is the same for all. -/
theorem lind_sched {per : Int} {ps : List Pk} (ho : OkPks ps) (keys : List Int) (hk : ∀ i, keys.getD i 0 = 0) : Sched per ps keys (lindAll per ps ps.length) := by
  intro k x hx
  have hkl := lt_of_get hx
  rw [lindAll_length] at hkl
  rw [lindAll_get hkl] at hx
  have hx := Option.some.inj hx
  subst hx
  rw [lindAll_take (by omega)]
  refine ⟨max (lto per ps k) (tickOf ps k), k, ?_, ⟨undone_lind.2 ⟨hkl, Nat.le_refl _⟩, by omega, fun i hi _ => .inr ⟨by rw [hk, hk], (undone_lind.1 hi).2⟩⟩, ?_⟩
  · by_cases h : tickOf ps k ≤ lto per ps k
    · exact .inl ⟨by rw [lastFin_lind]; omega, k, undone_lind.2 ⟨hkl, Nat.le_refl _⟩, by omega⟩
    · refine .inr ⟨fun i hi => ?_, k, undone_lind.2 ⟨hkl, Nat.le_refl _⟩, by omega, fun i hi => ?_⟩
      · rw [lastFin_lind]
        have := undone_lind.1 hi
        have := ticks_le ho this.2 this.1
        omega
      · have := undone_lind.1 hi
        exact ticks_le ho this.2 this.1
  · simp only [lind, lto]
end Go.Proofs.YtcldgpbimaoliabDoor
