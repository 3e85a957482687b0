/- A copy of numbers in memory of the call's own: append of a slice to none. -/
import Derived.Test.YtepnfioldbhffabDoorCOwnRow
import Derived.Test.YtepnfioldbhffabDoorCPutRow
namespace Go.Proofs.YtepnfioldbhffabDoor
open Go.RowKit

theorem own_lies {w : World} {B e : Nat} {v : Value} {zs : List Int} (h : w.ownsRow B e 1 v zs.length (ints zs)) : ∃ a cap, v = .slice a zs.length cap ∧ zs.length ≤ cap ∧ cap ≤ maxLen ∧ LiesN w a zs := by
  have hh := h
  obtain ⟨h1, ⟨rfl, h0⟩ | ⟨g, cap, cur, rfl, hB, hg, hn, hm, hc, ht⟩⟩ := h
  · exact ⟨none, 0, by rw [h0], by omega, by simp [maxLen], .inl (List.length_eq_zero_iff.1 h0)⟩
  · refine ⟨_, cap, rfl, hn, hm, .inr ⟨g, 0, rfl, lt_of_block hg, fun i x hx => ?_⟩⟩
    rw [Nat.zero_add, hh.cellAt i (by have := (List.getElem?_eq_some_iff.1 hx).1; omega)]
    exact ints_get hx

theorem run_append_ints {P : Program} (w : World) (t ty e : TypeId) (i : TypeInfo) (z : Value) (ht : P.underlying t = some (.slice e)) (hi : P.info? e = some i) (hz : i.zero = some z) (hsize : i.size = 1) (hby : i.bytes = 8) (hzs : z.cells.size = 1)
    (na : Option Addr) (ncap : Nat) (ns : List Int) (hl : LiesN w na ns) (hna : na = none → ns = [] ∧ ncap = 0) (hn : ns.length ≤ 1000) :
    ∃ a cap w', (Builtin.append_ #[t, t] ty #[.slice none 0 0, .slice na ns.length ncap]).run P w = .ok (.slice a ns.length cap) w' ∧ LiesN w' a ns ∧ ns.length ≤ cap ∧ cap ≤ maxLen ∧ Below w.heap.size w w' := by
  cases na with
  | none =>
    obtain ⟨rfl, rfl⟩ := hna rfl
    exact ⟨none, 0, w, run_append_owned_none (P := P) w w.heap.size t ty e i 1 ht hi (.slice none 0 0) 0 [] (World.ownsRow_nil _ _ _ _), .inl rfl, Nat.le_refl _, by simp [maxLen], Below.refl _ _⟩
  | some ad =>
    have hnews : ∀ j u, (ints ns)[j]? = some u → w.cell? (ad.add j) = some u := by
      intro j u hu
      rcases hl with rfl | ⟨b, off, e', -, hc⟩
      · simp [ints] at hu
      · cases e'
        rw [Addr.add_lit]
        simp only [ints, List.getElem?_map] at hu
        cases hx : ns[j]? with
        | none => rw [hx] at hu; cases hu
        | some x =>
          rw [hx] at hu
          rw [hc j x hx]
          simpa using hu
    obtain ⟨v', w', hrun, h1, h2, h3⟩ := run_append_own (P := P) w w.heap.size t ty e i z 1 8 ht hi hz hsize hby hzs (by decide) (.slice none 0 0) 0 [] (World.ownsRow_nil _ _ _ _) ad ns.length ncap (ints ns) (by rw [ints_length, Nat.mul_one]) hnews (ints_one _) (by unfold maxLen; omega) (by omega) (Nat.le_refl _)
    rw [Nat.zero_add, List.nil_append] at h1
    obtain ⟨a, cap, rfl, g1, g2, g3⟩ := own_lies h1
    exact ⟨a, cap, w', hrun, g3, g1, g2, (Below.refl _ _).grown h2 (Nat.le_refl _) (fun k hk => by cases hk)⟩
/-- For the walk. -/
theorem wpList_append_ints {P : Program} (w : World) {ops : Array Oper} {rest : List Oper} {o : Oper} {a : Act} {Q : Exit → Act → World → Prop} (hgd : o.guard = none) (s x : Operand) (t : TypeId)
    (ho : o.op = .call { callee := .builtin .append, args := #[s, x], argTypes := #[t, t] })
    (e : TypeId) (i : TypeInfo) (z : Value) (ht : P.underlying t = some (.slice e)) (hi : P.info? e = some i) (hz : i.zero = some z) (hsize : i.size = 1) (hby : i.bytes = 8) (hzs : z.cells.size = 1)
    (na : Option Addr) (ncap n : Nat) (ns : List Int) (hnn : ns.length = n) (hs : a.eval s = .slice none 0 0) (hx : a.eval x = .slice na n ncap) (hl : LiesN w na ns) (hna : na = none → ns = [] ∧ ncap = 0) (hn : n ≤ 1000)
    (hK : ∀ a' cap' w', LiesN w' a' ns ∧ n ≤ cap' ∧ cap' ≤ maxLen ∧ Below w.heap.size w w' → wpList P ops Q rest (a.put o.dst (.slice a' n cap')) w') : wpList P ops Q (o :: rest) a w := by
  subst hnn
  refine wpList_plain hgd fun K hK' => ?_
  obtain ⟨ao, cap, w', hrun, g1, g2, g3, g4⟩ := run_append_ints (P := P) w t o.type e i z ht hi hz hsize hby hzs na ncap ns hl hna hn
  unfold Oper.wp
  simp [execOp, ho, resolve, invoke, builtin, hs, hx, hrun, Result.andThen]
  exact hK' _ _ (hK ao cap w' ⟨g1, g2, g3, g4⟩)
end Go.Proofs.YtepnfioldbhffabDoor
