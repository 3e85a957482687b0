/- Plain facts: weights: which numbers are right ones; what is wrong with eight of them. No Go text is named here. -/
import Derived.Test.YtolbmkniafkeaaaDoorCAllFairs
import Derived.Test.YtolbmkniafkeaaaDoorCAllNums
namespace Go.Proofs.YtolbmkniafkeaaaDoor

def isWt (x : Int) : Prop := 1 ≤ x ∧ 12 % x = 0
theorem isWt_le {x : Int} (h : isWt x) : x ≤ 12 := Int.le_of_dvd (by decide) (Int.dvd_of_emod_eq_zero h.2)
/-- Eight numbers, each by which the scale can be divided. -/
structure WtsAll (ns : List Int) : Prop where
  len : ns.length = 8
  each : ∀ (i : Nat) x, ns[i]? = some x → isWt x
/-- The first that is not. -/
def WtBad (ns : List Int) (j : Nat) : Prop := ns.length = 8 ∧ (∃ x, ns[j]? = some x ∧ ¬ isWt x) ∧ ∀ (i : Nat) y, i < j → ns[i]? = some y → isWt y
/-- What is wrong with weights, by the error's number. -/
def WtsFault (ns : List Int) (c : Nat) : Prop := (c = 3 ∧ ns.length ≠ 8) ∨ (c = 2 ∧ ∃ j, WtBad ns j) ∨ (c = 0 ∧ WtsAll ns)
theorem wtsFault_is (ns : List Int) : ∃ c, WtsFault ns c := by
  by_cases hl : ns.length = 8
  · have key : ∀ k, k ≤ ns.length → (∀ (i : Nat) y, i < k → ns[i]? = some y → isWt y) ∨ ∃ j, WtBad ns j := by
      intro k
      induction k with
      | zero => intro _; exact .inl fun i y h => by omega
      | succ k ih =>
        intro hk
        rcases ih (by omega) with h | h
        · obtain ⟨x, hx, -⟩ := get_some ns k (by omega)
          by_cases hb : isWt x
          · refine .inl fun i y hi' hy => ?_
            rcases Nat.lt_or_ge i k with h' | h'
            · exact h i y h' hy
            · obtain rfl : i = k := by omega
              obtain rfl := Option.some.inj (hx.symm.trans hy)
              exact hb
          · exact .inr ⟨k, hl, ⟨x, hx, hb⟩, h⟩
        · exact .inr h
    rcases key ns.length (Nat.le_refl _) with h | h
    · exact ⟨0, .inr (.inr ⟨rfl, hl, fun i x hx => h i x (lt_of_get hx) hx⟩)⟩
    · exact ⟨2, .inr (.inl ⟨rfl, h⟩)⟩
  · exact ⟨3, .inl ⟨rfl, hl⟩⟩
theorem WtsAll.nums {ns : List Int} (h : WtsAll ns) : NumsOk 1 12 ns := ⟨h.len, fun i x hx => ⟨(h.each i x hx).1, isWt_le (h.each i x hx)⟩⟩
theorem WtsAll.wide {ns : List Int} (h : WtsAll ns) : NumsOk 1 3000 ns := ⟨h.len, fun i x hx => ⟨(h.each i x hx).1, by have := isWt_le (h.each i x hx); omega⟩⟩
theorem WtsAll.ok {ns : List Int} (h : WtsAll ns) : WtsOk ns := fun f => by
  cases hf : ns[f]? with
  | some x =>
    rw [quOf_get hf]
    have := h.each f x hf
    exact ⟨this.1, Int.ediv_mul_cancel (Int.dvd_of_emod_eq_zero this.2)⟩
  | none =>
    have : quOf ns f = 1 := by simp [quOf, hf]
    rw [this]
    exact ⟨Int.le_refl _, by decide⟩
/-- What one packet adds to its flow's tag, by two ways of reckoning. -/
theorem inc_tdiv {x z : Int} (h : isWt x) (hz : 0 ≤ z) : (z * 12).tdiv x = z * (12 / x) := by
  have hd := Int.dvd_of_emod_eq_zero h.2
  rw [Int.tdiv_eq_ediv_of_nonneg (by omega), Int.mul_ediv_assoc _ hd]
/-- One taken out by its place is one taken out by what it is. -/
theorem erase_filter : ∀ (q : List Nat) (i : Nat), q.Nodup → i < q.length → q.eraseIdx i = q.filter fun j => j != q.getD i 0
  | [], i, _, h => absurd h (Nat.not_lt_zero _)
  | a :: q, 0, hn, _ => by
    obtain ⟨h1, -⟩ := List.nodup_cons.1 hn
    have e : (a :: q).getD 0 0 = a := rfl
    rw [e, List.filter_cons, if_neg (by simp)]
    refine (List.filter_eq_self.2 fun j hj => ?_).symm
    have : j ≠ a := fun e => h1 (by rw [← e]; exact hj)
    simp [this]
  | a :: q, i + 1, hn, h => by
    obtain ⟨h1, h2⟩ := List.nodup_cons.1 hn
    have hi : i < q.length := by simpa using h
    have e : (a :: q).getD (i + 1) 0 = q.getD i 0 := by simp [List.getD]
    have hne : a ≠ q.getD i 0 := fun e' => h1 (by rw [e', getD_lt hi]; exact List.getElem_mem hi)
    rw [e, List.filter_cons, if_pos (bne_iff_ne.2 hne), ← erase_filter q i h2 hi]
    rfl
end Go.Proofs.YtolbmkniafkeaaaDoor
