/- An argument of what was sent, opened. -/
import Derived.Test.YtcldgpbimaoliabDoorLiftP
import Derived.Test.YtcldgpbimaoliabDoorSent1
namespace Go.Proofs.YtcldgpbimaoliabDoor
open Go.ChangeShapes Go.WideShapes Go.ChangeAt Go.RowKit Go.Deep

theorem Tryd.cellsSent : Tryd.prog.cellsOf 43 = 3 := by kernel_rfl

set_option maxRecDepth 100000 in
/-- An argument of what was sent. -/
theorem open_sents {H : Type} {enc : TypeId × Value → H} {W : World} {base : Nat} {v : Value} {d : DataW H} {p : List MemPlace} (hv : Value.okWide Tryd.prog W .any base 23 v)
    (h : DataW.Trod enc Tryd.prog W 0 (fun _ => true) true 23 v d p) :
    ∃ a cap ps, v = .slice a ps.length cap ∧ LiesS W a ps ∧ ps.length ≤ cap ∧ cap ≤ maxLen ∧ (a = none → ps = [] ∧ cap = 0) := by
  obtain ⟨a0, len0, cap0, rfl⟩ := okWide_slice Tryd.underlying23 hv
  obtain ⟨fuel, hf⟩ := h
  rcases open_slice_three Tryd.underlying23 Tryd.underlying43 Tryd.cellsSent rfl rfl rfl Tryd.cellsInt Tryd.cellsInt Tryd.cellsInt hf with hcs | ⟨x, l, c, n, hcs, hl, hm, hcell⟩
  · simp [Value.cells] at hcs
    obtain ⟨rfl, rfl, rfl⟩ := hcs
    exact ⟨none, 0, [], rfl, .inl rfl, by simp, by simp [maxLen], fun _ => ⟨rfl, rfl⟩⟩
  · simp [Value.cells] at hcs
    obtain ⟨rfl, rfl, rfl⟩ := hcs
    have each : ∀ i, i < len0 → ∃ q : Int × Int × Int, W.cell? (x.add (i * 3)) = some (.int .i64 q.1) ∧ W.cell? (x.add (i * 3 + 1)) = some (.int .i64 q.2.1) ∧ W.cell? (x.add (i * 3 + 2)) = some (.int .i64 q.2.2) := by
      intro i hi
      obtain ⟨v0, v1, v2, y0, y1, y2, h0, h1, h2, g0, g1, g2⟩ := hcell i hi
      obtain ⟨k0, e0, _, _⟩ := DataW.trod_int Tryd.underlying3 g0
      obtain ⟨k1, e1, _, _⟩ := DataW.trod_int Tryd.underlying3 g1
      obtain ⟨k2, e2, _, _⟩ := DataW.trod_int Tryd.underlying3 g2
      simp at e0 e1 e2
      subst e0 e1 e2
      exact ⟨(k0, k1, k2), h0, h1, h2⟩
    obtain ⟨q, hq⟩ := choose_lt each
    refine ⟨some x, cap0, (List.range len0).map fun i => ⟨(q i).1, (q i).2.1, (q i).2.2⟩, by simp, ?_, by simpa using hl, hm, fun h => by cases h⟩
    by_cases h0 : len0 = 0
    · subst h0; exact .inl (by simp)
    · obtain ⟨b, off, spot⟩ := x
      have hc0 := (hq 0 (by omega)).1
      have hspot : spot = none := by simpa [Addr.add] using World.cell?_spot hc0
      subst hspot
      refine .inr ⟨b, off, rfl, by simpa [Addr.add] using cell_lt hc0, fun i p hi => ?_⟩
      have hil : i < len0 := by
        rcases Nat.lt_or_ge i len0 with h | h
        · exact h
        · simp [h] at hi
      simp [hil] at hi
      subst hi
      obtain ⟨h0, h1, h2⟩ := hq i hil
      rw [Addr.add_lit] at h0 h1 h2
      exact ⟨h0, by rw [Nat.add_assoc]; exact h1, by rw [Nat.add_assoc]; exact h2⟩
end Go.Proofs.YtcldgpbimaoliabDoor
