/- Plain facts on runs of packets, from any of them on. No Go text is named here. -/
import Derived.Test.YtlknljbceppedaaDoorCPlainShape
namespace Go.Proofs.YtlknljbceppedaaDoor

theorem startB_step (ls : List (Int × Int)) (a c : Int) (qs : List Pk) (k : Nat) (p : Pk) (h : qs[k]? = some p) : startB ls a c (qs.drop k) = (decide (c + p.size ≤ curveAt (p.tick - a) ls) && startB ls a (c + p.size) (qs.drop (k + 1))) := by
  have hk : k < qs.length := by
    rcases Nat.lt_or_ge k qs.length with h' | h'
    · exact h'
    · simp [List.getElem?_eq_none h'] at h
  have e : qs.drop k = p :: qs.drop (k + 1) := by
    rw [List.drop_eq_getElem_cons hk]
    rw [List.getElem?_eq_getElem hk] at h
    rw [Option.some.inj h]
  rw [e]
  rfl
theorem drop_head {qs : List Pk} {k : Nat} {p : Pk} (h : qs[k]? = some p) : qs.drop k = p :: qs.drop (k + 1) := by
  have hk : k < qs.length := by
    rcases Nat.lt_or_ge k qs.length with h' | h'
    · exact h'
    · simp [List.getElem?_eq_none h'] at h
  rw [List.drop_eq_getElem_cons hk]
  rw [List.getElem?_eq_getElem hk] at h
  rw [Option.some.inj h]
theorem fitsB_step (ls : List (Int × Int)) (ps : List Pk) (k : Nat) (p : Pk) (h : ps[k]? = some p) : fitsB ls (ps.drop k) = (startB ls p.tick 0 (ps.drop k) && fitsB ls (ps.drop (k + 1))) := by
  rw [drop_head h]
  rfl

/-- A run of packets: each right, none ahead of the first one's tick. -/
structure RunOk (a : Int) (qs : List Pk) : Prop where
  few : qs.length ≤ 300
  each : ∀ (i : Nat) p, qs[i]? = some p → okPk p = true ∧ a ≤ p.tick

theorem OkPks.rises {ps : List Pk} (h : OkPks ps) : ∀ (d i : Nat) p q, ps[i]? = some p → ps[i + d]? = some q → p.tick ≤ q.tick := by
  intro d
  induction d with
  | zero => intro i p q hp hq; rw [Nat.add_zero, hp] at hq; cases hq; exact Int.le_refl _
  | succ d ih =>
    intro i p q hp hq
    have hlt : i + d < ps.length := by
      rcases Nat.lt_or_ge (i + (d + 1)) ps.length with h' | h'
      · omega
      · simp [List.getElem?_eq_none h'] at hq
    have hr : ps[i + d]? = some ps[i + d] := by simp [hlt]
    have h1 := ih i p _ hp hr
    have h2 := (h.each (i + (d + 1)) q hq).2
    rw [show i + (d + 1) = i + d + 1 by omega] at h2
    simp only [ahead] at h2
    rw [hr] at h2
    simp only at h2
    omega
theorem OkPks.run {ps : List Pk} (h : OkPks ps) (k : Nat) (p : Pk) (hp : ps[k]? = some p) : RunOk p.tick (ps.drop k) := by
  refine ⟨by have := h.few; simp; omega, fun i q hq => ?_⟩
  rw [List.getElem?_drop] at hq
  exact ⟨(h.each _ q hq).1, h.rises i k p q hp hq⟩
theorem total_bd (qs : List Pk) (h : ∀ p, p ∈ qs → okPk p = true) : 0 ≤ total qs ∧ total qs ≤ 1500 * qs.length := by
  induction qs with
  | nil => simp [total]
  | cons p r ih =>
    have h1 := okPk_true (h p (List.mem_cons_self ..))
    have h2 := ih (fun q hq => h q (List.mem_cons_of_mem _ hq))
    simp only [total, List.length_cons]
    omega
end Go.Proofs.YtlknljbceppedaaDoor
