/- The condition on the nine errors and on package errors' own type, opened; the heap that the initialisers leave meets it. -/
import Derived.Test.YtepnfioldbhffabDoorCLift0
import Derived.Test.YtepnfioldbhffabDoorCAllErrs
namespace Go.Proofs.YtepnfioldbhffabDoor
open Go.ChangeShapes Go.WideShapes Go.ChangeAt Go.RowKit

theorem Tryd.oneRow : ((List.range 190).filter fun t => Tryd.prog.rowNamed t [101, 114, 114, 111, 114]) = [34] := by kernel_rfl
theorem Tryd.sizeTypes : Tryd.prog.types.size = 190 := by kernel_rfl
theorem Tryd.handleErr : typeHandle Tryd.prog 34 = .pointer (some ⟨10, 34, none⟩) := by kernel_rfl
theorem Tryd.gType : Tryd.prog.globalNamed "errors.errorType" = some 9 := by kernel_rfl

/-- Nine addresses by number. -/
def nth9 (a0 a1 a2 a3 a4 a5 a6 a7 a8 : Addr) : Nat → Addr
  | 0 => a0 | 1 => a1 | 2 => a2 | 3 => a3 | 4 => a4 | 5 => a5 | 6 => a6 | 7 => a7 | _ => a8
theorem ne_of_text {W : World} {a b : Addr} {s u : ByteArray} {x y : List UInt8} (ha : W.cell? a = some (.string s)) (hb : W.cell? b = some (.string u)) (hs : s.data.toList = x) (hu : u.data.toList = y) (h : x ≠ y) : a ≠ b := by
  rintro rfl
  rw [ha] at hb
  injection hb with hb
  injection hb with hb
  subst hb
  exact h (hs.symm.trans hu)

theorem errs9_of_laid {W : World} (h : laidMetH Tryd.prog Rows.fifoRunsRow.laid W) : ∃ ad, Errs9 W ad := by
  have h' : laidMet Tryd.prog Rows.fifoRunsRow.laid.tail W ∧ handlesMet Tryd.prog [("errors.errorType", Rows.laid_errors_errorType)] W := h
  obtain ⟨h1, h2⟩ := h'
  have hty : W.cell? ⟨9, 0, none⟩ = some (.iface 143 (.agg #[.pointer (some ⟨10, 34, none⟩)])) := by
    obtain ⟨name, u, ty, e1, e2, e3, e4, e5⟩ := h2 _ (List.mem_singleton.2 rfl)
    have en : name = [101, 114, 114, 111, 114] := (Option.some.inj e1).symm
    subst en
    obtain rfl : u = 143 := Option.some.inj (e2.symm.trans (by kernel_rfl))
    have hm : ty ∈ (List.range 190).filter fun t => Tryd.prog.rowNamed t [101, 114, 114, 111, 114] := List.mem_filter.2 ⟨List.mem_range.2 (by rw [← Tryd.sizeTypes]; exact e3), e4⟩
    rw [Tryd.oneRow] at hm
    obtain rfl := List.mem_singleton.1 hm
    rw [Tryd.handleErr] at e5
    simpa using World.var?_cell Tryd.gType e5 0
  obtain ⟨a0, s0, v0, c0, t0, b0⟩ := sentinel_of_laid (g := 1) h1 rfl (by kernel_rfl) (by kernel_rfl)
  obtain ⟨a1, s1, v1, c1, t1, b1⟩ := sentinel_of_laid (g := 2) h1.tail rfl (by kernel_rfl) (by kernel_rfl)
  obtain ⟨a2, s2, v2, c2, t2, b2⟩ := sentinel_of_laid (g := 3) h1.tail.tail rfl (by kernel_rfl) (by kernel_rfl)
  obtain ⟨a3, s3, v3, c3, t3, b3⟩ := sentinel_of_laid (g := 0) h1.tail.tail.tail rfl (by kernel_rfl) (by kernel_rfl)
  obtain ⟨a4, s4, v4, c4, t4, b4⟩ := sentinel_of_laid (g := 4) h1.tail.tail.tail.tail rfl (by kernel_rfl) (by kernel_rfl)
  obtain ⟨a5, s5, v5, c5, t5, b5⟩ := sentinel_of_laid (g := 5) h1.tail.tail.tail.tail.tail rfl (by kernel_rfl) (by kernel_rfl)
  obtain ⟨a6, s6, v6, c6, t6, b6⟩ := sentinel_of_laid (g := 6) h1.tail.tail.tail.tail.tail.tail rfl (by kernel_rfl) (by kernel_rfl)
  obtain ⟨a7, s7, v7, c7, t7, b7⟩ := sentinel_of_laid (g := 7) h1.tail.tail.tail.tail.tail.tail.tail rfl (by kernel_rfl) (by kernel_rfl)
  obtain ⟨a8, s8, v8, c8, t8, b8⟩ := sentinel_of_laid (g := 8) h1.tail.tail.tail.tail.tail.tail.tail.tail rfl (by kernel_rfl) (by kernel_rfl)
  have hc : ∀ i, i < 9 → ∃ s : ByteArray, W.cell? (nth9 a0 a1 a2 a3 a4 a5 a6 a7 a8 i) = some (.string s) ∧ some s.data.toList = [s0, s1, s2, s3, s4, s5, s6, s7, s8][i]?.map fun s => s.data.toList := by
    intro i hi
    match i, hi with
    | 0, _ => exact ⟨s0, c0, rfl⟩
    | 1, _ => exact ⟨s1, c1, rfl⟩
    | 2, _ => exact ⟨s2, c2, rfl⟩
    | 3, _ => exact ⟨s3, c3, rfl⟩
    | 4, _ => exact ⟨s4, c4, rfl⟩
    | 5, _ => exact ⟨s5, c5, rfl⟩
    | 6, _ => exact ⟨s6, c6, rfl⟩
    | 7, _ => exact ⟨s7, c7, rfl⟩
    | 8, _ => exact ⟨s8, c8, rfl⟩
    | i + 9, h => omega
  refine ⟨nth9 a0 a1 a2 a3 a4 a5 a6 a7 a8, hty, v0, v1, v2, v3, v4, v5, v6, v7, v8, ?_, ?_⟩
  · have hl : [s0, s1, s2, s3, s4, s5, s6, s7, s8].map (fun s => s.data.toList) = (Rows.fifoRunsRow.laid.tail.map fun x => match x.2 with | .iface _ (.ptr (.agg [.lit (.string t)])) => t | _ => []) := by
      simp only [List.map_cons, List.map_nil, t0, t1, t2, t3, t4, t5, t6, t7, t8]
      rfl
    have hnd : ((Rows.fifoRunsRow.laid.tail.map fun x => match x.2 with | .iface _ (.ptr (.agg [.lit (.string t)])) => t | _ => []) : List (List UInt8)).Nodup := by decide
    intro i j hi hj hij he
    obtain ⟨s, h1, h2⟩ := hc i hi
    obtain ⟨u, h3, h4⟩ := hc j hj
    rw [he, h3] at h1
    injection h1 with h1
    injection h1 with h1
    subst h1
    rw [← List.getElem?_map, hl] at h2 h4
    exact hij ((List.getElem?_inj (by rw [← hl]; simpa using hi) hnd).1 (h2.symm.trans h4))
  · intro i hi
    match i, hi with
    | 0, _ => exact b0
    | 1, _ => exact b1
    | 2, _ => exact b2
    | 3, _ => exact b3
    | 4, _ => exact b4
    | 5, _ => exact b5
    | 6, _ => exact b6
    | 7, _ => exact b7
    | 8, _ => exact b8
    | i + 9, h => omega

theorem door_met9 (os : Os) (args : Array Value) : laidMetH Tryd.prog Rows.fifoRunsRow.laid ((World.doorLaid Tryd.prog 187 os).forCall (fun _ _ => 0) ⟨#[], args, []⟩).memory :=
  laidMetH_of_parts3 (fuel := 8) (laidMet_of_run' 8 (by kernel_rfl) (by kernel_rfl)) (by kernel_rfl) (by kernel_rfl)
end Go.Proofs.YtepnfioldbhffabDoor
