/- Walks: the document's answer: is a line somewhere the least? -/
import Derived.Test.YtcldgpbimaoliaaDoorPlainSome
import Derived.Test.YtcldgpbimaoliaaDoorSameLines
namespace Go.Proofs.YtcldgpbimaoliaaDoor
open Go.RowKit

/-- What is known of the first k lines. -/
structure SoFar (ls : List (Int × Int)) (i k : Nat) (p : Int × Int) (low lowBy : Int) (op : Bool) (high highBy : Int) : Prop where
  lim : LimIs p (ls.take k) low lowBy op high highBy
  early : ∀ j, j < k → j < i → ls[j]? ≠ some p
  same : ∀ b, b ∈ ls.take k → b.2 = p.2 → b ≠ p → p.1 < b.1
theorem sofar_none (ls : List (Int × Int)) (i : Nat) (p : Int × Int) : SoFar ls i 0 p 0 1 false 0 0 :=
  ⟨lim_none p, fun _ h => absurd h (Nat.not_lt_zero _), fun _ h => by simp at h⟩
section
variable {ls : List (Int × Int)} {i k : Nat} {p b : Int × Int} {low lowBy high highBy low' lowBy' high' highBy' : Int} {op op' : Bool}
theorem sofar_next (h : SoFar ls i k p low lowBy op high highBy) (hb : ls[k]? = some b) (hl : LimIs p (ls.take k ++ [b]) low' lowBy' op' high' highBy') (he : b = p → ¬ k < i) (hs : b.2 = p.2 → b ≠ p → p.1 < b.1) : SoFar ls i (k + 1) p low' lowBy' op' high' highBy' := by
  have e : ls.take (k + 1) = ls.take k ++ [b] := by rw [List.take_add_one, hb]; rfl
  refine ⟨by rw [e]; exact hl, fun j hj hi e' => ?_, fun c hc h1 h2 => ?_⟩
  · rcases Nat.lt_or_ge j k with hjk | hjk
    · exact h.early j hjk hi e'
    · have : j = k := by omega
      subst this
      rw [hb] at e'
      injection e' with e'
      exact he e' hi
  · rw [e] at hc
    rcases List.mem_append.1 hc with hc | hc
    · exact h.same c hc h1 h2
    · rw [List.mem_singleton.1 hc] at h1 h2 ⊢
      exact hs h1 h2
theorem sofar_self (h : SoFar ls i k p low lowBy op high highBy) (hb : ls[k]? = some p) (hk : ¬ k < i) : SoFar ls i (k + 1) p low lowBy op high highBy :=
  sofar_next h hb (lim_same h.lim rfl) (fun _ => hk) (fun _ hne => absurd rfl hne)
theorem ne_of_rate (h : b.2 ≠ p.2) : b = p → ¬ k < i := fun e => absurd (e ▸ rfl) h
theorem sofar_same (h : SoFar ls i k p low lowBy op high highBy) (hb : ls[k]? = some b) (hne : b ≠ p) (hs : b.2 = p.2) (hl : p.1 < b.1) : SoFar ls i (k + 1) p low lowBy op high highBy :=
  sofar_next h hb (lim_same h.lim hs) (fun e => absurd e hne) (fun _ _ => hl)
theorem sofar_above (h : SoFar ls i k p low lowBy op high highBy) (hb : ls[k]? = some b) (hs : p.2 < b.2) (hn : p.1 - b.1 < 0) : SoFar ls i (k + 1) p low lowBy op high highBy :=
  sofar_next h hb (lim_above h.lim hs hn) (ne_of_rate (by omega)) (fun e _ => by omega)
theorem sofar_sooner (h : SoFar ls i k p low lowBy op high highBy) (hb : ls[k]? = some b) (hs : p.2 < b.2) (hn : 0 ≤ p.1 - b.1) (hp : (p.1 - b.1) * lowBy < low * (b.2 - p.2)) : SoFar ls i (k + 1) p low lowBy op high highBy :=
  sofar_next h hb (lim_sooner h.lim hs hn hp) (ne_of_rate (by omega)) (fun e _ => by omega)
theorem sofar_low (h : SoFar ls i k p low lowBy op high highBy) (hb : ls[k]? = some b) (hok : okAll ls) (hpl : p ∈ ls) (hs : p.2 < b.2) (hn : 0 ≤ p.1 - b.1) (hp : low * (b.2 - p.2) ≤ (p.1 - b.1) * lowBy) : SoFar ls i (k + 1) p (p.1 - b.1) (b.2 - p.2) true high highBy :=
  sofar_next h hb (lim_low h.lim (okLine_true (hok p hpl)) (okLine_true (hok b (List.mem_of_getElem? hb))) hs hn hp) (ne_of_rate (by omega)) (fun e _ => by omega)
theorem sofar_high (h : SoFar ls i k p low lowBy op high highBy) (hb : ls[k]? = some b) (hok : okAll ls) (hpl : p ∈ ls) (hs : b.2 < p.2) (hp : highBy = 0 ∨ -(p.1 - b.1) * highBy < high * -(b.2 - p.2)) : SoFar ls i (k + 1) p low lowBy op (-(p.1 - b.1)) (-(b.2 - p.2)) :=
  sofar_next h hb (lim_high h.lim (okLine_true (hok p hpl)) (okLine_true (hok b (List.mem_of_getElem? hb))) hs hp) (ne_of_rate (by omega)) (fun e _ => by omega)
theorem sofar_later (h : SoFar ls i k p low lowBy op high highBy) (hb : ls[k]? = some b) (hs : b.2 < p.2) (hz : highBy ≠ 0) (hp : ¬ -(p.1 - b.1) * highBy < high * -(b.2 - p.2)) : SoFar ls i (k + 1) p low lowBy op high highBy :=
  sofar_next h hb (lim_later h.lim hs hz hp) (ne_of_rate (by omega)) (fun e _ => by omega)
theorem sofar_double (hb : ls[k]? = some p) (hk : k < i) : ¬ KeptAt ls i p := fun h => h.2 k hk hb
theorem sofar_under (hb : ls[k]? = some b) (hne : b ≠ p) (hs : b.2 = p.2) (hl : b.1 ≤ p.1) : ¬ KeptAt ls i p := fun h => by
  have := h.1.same b (List.mem_of_getElem? hb) hs hne
  omega
theorem sofar_end (h : SoFar ls i ls.length p low lowBy op high highBy) (hi : i ≤ ls.length) : LimIs p ls low lowBy op high highBy ∧ (∀ b, b ∈ ls → b.2 = p.2 → b ≠ p → p.1 < b.1) ∧ (SomeOf p ls ↔ KeptAt ls i p) := by
  have h1 := h.lim
  have h2 := h.same
  rw [List.take_length] at h1 h2
  exact ⟨h1, h2, ⟨fun hs => ⟨hs, fun j hj => h.early j (by omega) hj⟩, fun hk => hk.1⟩⟩
end

end Go.Proofs.YtcldgpbimaoliaaDoor
