/- What every curve law's statement wants besides its walk: an argument of lines opened; the errors' variables; a world that meets the condition. -/
import Derived.Test.YtlknljbceppedaaDoorCAllWalks
import Derived.Test.YtlknljbceppedaaDoorCLift0
namespace Go.Proofs.YtlknljbceppedaaDoor
open Go.ChangeShapes Go.WideShapes Go.ChangeAt Go.RowKit

theorem Tryd.cellsLine : Tryd.prog.cellsOf 54 = 2 := by kernel_rfl

set_option maxRecDepth 100000 in
/-- An argument of lines. -/
theorem open_lines {H : Type} {enc : TypeId × Value → H} {W : World} {base : Nat} {v : Value} {d : DataW H} {p : List MemPlace} (hv : Value.okWide Tryd.prog W .any base 35 v)
    (h : DataW.Trod enc Tryd.prog W 0 (fun _ => true) true 35 v d p) :
    ∃ a cap ls, v = .slice a ls.length cap ∧ Lies W a ls ∧ ls.length ≤ cap ∧ cap ≤ maxLen ∧ (a = none → ls = [] ∧ cap = 0) := by
  obtain ⟨a0, len0, cap0, rfl⟩ := okWide_slice Tryd.underlying35 hv
  obtain ⟨fuel, hf⟩ := h
  rcases Go.Deep.open_slice_pairs Tryd.underlying35 Tryd.underlying54 Tryd.cellsLine rfl rfl Tryd.cellsInt Tryd.cellsInt hf with ⟨hcs, _⟩ | ⟨x, l, c, m, n, V0, V1, D0, D1, P0, P1, hcs, _, hl, hm, hmm, _, hcell⟩
  · simp [Value.cells] at hcs
    obtain ⟨rfl, rfl, rfl⟩ := hcs
    exact ⟨none, 0, [], rfl, .inl rfl, by simp, by simp [maxLen], fun _ => ⟨rfl, rfl⟩⟩
  · simp [Value.cells] at hcs
    obtain ⟨rfl, rfl, rfl⟩ := hcs
    have hm' : m = cap0 := by simpa using hmm
    refine ⟨some x, cap0, (List.range len0).map fun i => (intOf (V0 i), intOf (V1 i)), by simp, ?_, by simpa using hl, hm, fun h => by cases h⟩
    by_cases h0 : len0 = 0
    · subst h0; exact .inl (by simp)
    · have hint : ∀ i, i < len0 → V0 i = .int .i64 (intOf (V0 i)) ∧ V1 i = .int .i64 (intOf (V1 i)) := by
        intro i hi
        obtain ⟨_, _, h2, h3⟩ := hcell i (by omega)
        obtain ⟨k0, e0, _, _⟩ := DataW.trod_int Tryd.underlying3 h2
        obtain ⟨k1, e1, _, _⟩ := DataW.trod_int Tryd.underlying3 h3
        simp at e0 e1
        rw [e0, e1]
        exact ⟨rfl, rfl⟩
      obtain ⟨b, off, spot⟩ := x
      have hc0 := (hcell 0 (by omega)).1
      have hspot : spot = none := by simpa [Addr.add] using World.cell?_spot hc0
      subst hspot
      refine .inr ⟨b, off, rfl, by simpa [Addr.add] using cell_lt hc0, fun i x y hi => ?_⟩
      have hil : i < len0 := by
        rcases Nat.lt_or_ge i len0 with h | h
        · exact h
        · simp [h] at hi
      simp [hil] at hi
      obtain ⟨h0, h1, _, _⟩ := hcell i (by omega)
      have := hint i hil
      rw [this.1, hi.1] at h0
      rw [this.2, hi.2] at h1
      rw [Addr.add_lit] at h0 h1
      exact ⟨h0, by rw [Nat.add_assoc]; exact h1⟩

/-- What the condition on the two errors gives the walks. -/
theorem errs2_of_laid {W : World} (h : laidMetH Tryd.prog Rows.curveRisesRow.laid W) : ∃ aB aS, Errs2 W aB aS := by
  rw [MakeChecks.laidMetH_plain _ _ _ (by kernel_rfl)] at h
  obtain ⟨aB, _, vB, _⟩ := sentinel_of_laid (g := 1) h rfl (by kernel_rfl) (by kernel_rfl)
  obtain ⟨aS, _, vS, _⟩ := sentinel_of_laid (g := 2) h.tail rfl (by kernel_rfl) (by kernel_rfl)
  exact ⟨aB, aS, vB, vS⟩

/-- The heap that the initialisers leave meets the condition. -/
theorem door_met2 (os : Os) (args : Array Value) : laidMetH Tryd.prog Rows.curveRisesRow.laid ((World.doorLaid Tryd.prog 187 os).forCall (fun _ _ => 0) ⟨#[], args, []⟩).memory :=
  laidMetH_of_parts3 (fuel := 8) (laidMet_of_run' 8 (by kernel_rfl) (by kernel_rfl)) (by kernel_rfl) (by kernel_rfl)
end Go.Proofs.YtlknljbceppedaaDoor
