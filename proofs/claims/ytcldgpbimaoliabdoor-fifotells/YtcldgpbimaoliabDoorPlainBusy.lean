/- Plain facts: busy ticks of what was sent; the first that names no packet. No Go text is named here. -/
import Derived.Test.YtcldgpbimaoliabDoorPlainFifo
namespace Go.Proofs.YtcldgpbimaoliabDoor

def busyStep (acc : List (Int × Int)) (x : Sn) : List (Int × Int) :=
  match acc.getLast? with
  | none => [(x.beg, x.fin)]
  | some l => if l.2 < x.beg then acc ++ [(x.beg, x.fin)] else acc.dropLast ++ [(l.1, max l.2 x.fin)]
def busyL (l : List Sn) : List (Int × Int) := l.foldl busyStep []
theorem busyL_take {l : List Sn} {k : Nat} {x : Sn} (h : l[k]? = some x) : busyL (l.take (k + 1)) = busyStep (busyL (l.take k)) x := by
  unfold busyL
  rw [List.take_add_one, h]
  simp
theorem busyStep_nil (x : Sn) : busyStep [] x = [(x.beg, x.fin)] := rfl
theorem busyStep_far (r : List (Int × Int)) (s t : Int) (x : Sn) (h : t < x.beg) : busyStep (r ++ [(s, t)]) x = r ++ [(s, t)] ++ [(x.beg, x.fin)] := by
  unfold busyStep
  simp [h]
theorem busyStep_near (r : List (Int × Int)) (s t : Int) (x : Sn) (h : ¬ t < x.beg) : busyStep (r ++ [(s, t)]) x = r ++ [(s, max t x.fin)] := by
  unfold busyStep
  simp [h]
theorem busyStep_length (acc : List (Int × Int)) (x : Sn) : (busyStep acc x).length ≤ acc.length + 1 := by
  rcases List.eq_nil_or_concat acc with rfl | ⟨r, ⟨s, t⟩, rfl⟩
  · simp [busyStep_nil]
  · rw [List.concat_eq_append]
    by_cases h : t < x.beg
    · rw [busyStep_far _ _ _ _ h]; simp
    · rw [busyStep_near _ _ _ _ h]; simp
theorem busyL_length (l : List Sn) : ∀ k, k ≤ l.length → (busyL (l.take k)).length ≤ k
  | 0, _ => by simp [busyL]
  | k + 1, h => by
    have e : l[k]? = some l[k] := List.getElem?_eq_getElem (by omega)
    have ih := busyL_length l k (by omega)
    have := busyStep_length (busyL (l.take k)) l[k]
    rw [busyL_take e]
    omega

/-- Does it name a packet? -/
def named (n : Nat) (x : Sn) : Bool := decide (0 ≤ x.num ∧ x.num < n)
/-- The first that names none: a number and a place. -/
def SentFaultIs (n : Nat) (l : List Sn) (c p : Int) : Prop :=
  (∃ (j : Nat) (x : Sn), l[j]? = some x ∧ (∀ (i : Nat) y, i < j → l[i]? = some y → named n y = true) ∧ named n x = false ∧ c = 4 ∧ p = j) ∨
  ((∀ (i : Nat) y, l[i]? = some y → named n y = true) ∧ c = 0 ∧ p = -1)
theorem sentFault_is (n : Nat) (l : List Sn) : ∃ c p, SentFaultIs n l c p := by
  have h : ∀ j, j ≤ l.length → (∀ (i : Nat) y, i < j → l[i]? = some y → named n y = true) ∨ ∃ (j : Nat) (x : Sn), l[j]? = some x ∧ (∀ (i : Nat) y, i < j → l[i]? = some y → named n y = true) ∧ named n x = false := by
    intro j
    induction j with
    | zero => intro _; exact .inl fun i y hi => by omega
    | succ j ih =>
      intro hj
      rcases ih (by omega) with h1 | h1
      · have e : l[j]? = some l[j] := List.getElem?_eq_getElem (by omega)
        cases hn : named n l[j] with
        | true =>
          refine .inl fun i y hi hy => ?_
          rcases Nat.lt_or_ge i j with h2 | h2
          · exact h1 i y h2 hy
          · obtain rfl : i = j := by omega
            rw [e] at hy
            obtain rfl := Option.some.inj hy
            exact hn
        | false => exact .inr ⟨j, l[j], e, h1, hn⟩
      · exact .inr h1
  rcases h l.length (Nat.le_refl _) with h1 | ⟨j, x, h1, h2, h3⟩
  · exact ⟨0, -1, .inr ⟨fun i y hy => h1 i y (lt_of_get hy) hy, rfl, rfl⟩⟩
  · exact ⟨4, j, .inl ⟨j, x, h1, h2, h3, rfl, rfl⟩⟩
theorem named_true {n : Nat} {x : Sn} (h : named n x = true) : 0 ≤ x.num ∧ x.num < n := of_decide_eq_true h
theorem named_false {n : Nat} {x : Sn} (h : named n x = false) : x.num < 0 ∨ (¬ x.num < 0 ∧ (n : Int) ≤ x.num) := by
  have : ¬ (0 ≤ x.num ∧ x.num < n) := of_decide_eq_false h
  omega
end Go.Proofs.YtcldgpbimaoliabDoor
