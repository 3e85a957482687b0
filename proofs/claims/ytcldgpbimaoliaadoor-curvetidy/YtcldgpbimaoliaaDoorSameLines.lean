/- Walks: the document's answer: are two rows of lines the same? And '==' on lines. -/
import Derived.Test.YtcldgpbimaoliaaDoorWalk6
import Derived.Laws.StructEq
import Derived.BigQuiet
namespace Go.Proofs.YtcldgpbimaoliaaDoor
open Go.RowKit

theorem Tryd.lineHeld : Tryd.prog.stoodInHeld 54 = false := by kernel_rfl
theorem Tryd.lineGuard : Tryd.prog.eqGuardType Tryd.prog.depth 54 = false := by kernel_rfl
theorem Tryd.lineFieldsIs : (Tryd.prog.fieldsOf 54).toList = [{ name := "Burst", type := 3, offset := 0, embedded := false, tag := "", pkgPath := "", byteOffset := 0 }, { name := "Rate", type := 3, offset := 1, embedded := false, tag := "", pkgPath := "", byteOffset := 8 }] := by
  simp only [Program.fieldsOf, Tryd.underlying54]
theorem Tryd.lineFields : Tryd.prog.underlying 54 = some (.struct (Tryd.prog.fieldsOf 54)) := by
  simp only [Program.fieldsOf, Tryd.underlying54]
theorem Tryd.part0 (w : World) (x y : Int) : (part 3 #[.int .i64 x, .int .i64 y] 0).run Tryd.prog w = .ok (.int .i64 x) w := by kernel_rfl
theorem Tryd.part1 (w : World) (x y : Int) : (part 3 #[.int .i64 x, .int .i64 y] 1).run Tryd.prog w = .ok (.int .i64 y) w := by kernel_rfl
theorem Tryd.eqLine (w : World) (x y x' y' : Int) : (binOp .eql 54 (.agg #[.int .i64 x, .int .i64 y]) (.agg #[.int .i64 x', .int .i64 y'])).run Tryd.prog w = .ok (.bool (x == x' && y == y')) w := by
  rw [run_eql_struct, run_equalIn_struct _ 9999 _ _ _ Tryd.lineFields Tryd.lineHeld, Tryd.lineFieldsIs]
  have h1 : ("Burst" : String) ≠ "_" := by decide
  have h2 : ("Rate" : String) ≠ "_" := by decide
  simp only [Op.eqFields, if_pos h1, if_pos h2, Sem.run_bind, Tryd.part0, Tryd.part1, Result.andThen_ok, run_equalIn_int _ 9998 3 .i64 .i64 _ _ Tryd.underlying3, Sem.run_ite, Sem.run_pure]
  cases x == x' <;> cases y == y' <;> rfl
theorem Tryd.neqLine (w : World) (x y x' y' : Int) : (binOp .neq 54 (.agg #[.int .i64 x, .int .i64 y]) (.agg #[.int .i64 x', .int .i64 y'])).run Tryd.prog w = .ok (.bool (!(x == x' && y == y'))) w := by
  rw [run_neq_struct, run_equalIn_struct _ 9999 _ _ _ Tryd.lineFields Tryd.lineHeld, Tryd.lineFieldsIs]
  have h1 : ("Burst" : String) ≠ "_" := by decide
  have h2 : ("Rate" : String) ≠ "_" := by decide
  simp only [Op.eqFields, if_pos h1, if_pos h2, Sem.run_bind, Tryd.part0, Tryd.part1, Result.andThen_ok, run_equalIn_int _ 9998 3 .i64 .i64 _ _ Tryd.underlying3, Sem.run_ite, Sem.run_pure]
  cases x == x' <;> cases y == y' <;> rfl

set_option maxHeartbeats 1000000 in
theorem sameLines_yes (a1 a2 : Option Addr) (cap1 cap2 : Nat) (ls : List (Int × Int)) (w : World) (h1 : Lies w a1 ls) (h2 : Lies w a2 ls) (hn : ls.length ≤ 1000) :
    Calls Tryd.prog 29 #[.slice a1 ls.length cap1, .slice a2 ls.length cap2] w fun e w' => e = .returned (.bool true) ∧ Below w.heap.size w w' := by
  have HA : Hid (Lies w a1 ls) := h1
  have HB : Hid (Lies w a2 ls) := h2
  clear h1 h2
  go_enter Tryd.func29, Tryd.ntmps29
  go_wp2_with fail
  go_loopw [5] (fun i wr => ∃ k : Nat, k ≤ ls.length ∧ i = .int .i64 k ∧ Below w.heap.size w wr) (fun i _ => ls.length - (intOf i).toNat)
  case atStart => exact ⟨0, Nat.zero_le _, rfl, Below.refl _ _⟩
  case round =>
    obtain ⟨k, hk, rfl, hb⟩ := hrel
    have HBR : Hid (Below w.heap.size w wr) := hb
    by_cases hkn : k < ls.length
    · obtain ⟨⟨x, y⟩, hp, hm⟩ := get_some ls k hkn
      obtain ⟨b1, o1, rfl, -, hc1⟩ := HA.out.some (by omega)
      obtain ⟨b2, o2, rfl, -, hc2⟩ := HB.out.some (by omega)
      have c1 : wr.cell? ⟨b1, o1 + k * 2, none⟩ = some (.int .i64 x) := cell_later hb (hc1 k x y hp).1
      have c2 : wr.cell? ⟨b1, o1 + k * 2 + 1, none⟩ = some (.int .i64 y) := cell_later hb (hc1 k x y hp).2
      have c3 : wr.cell? ⟨b2, o2 + k * 2, none⟩ = some (.int .i64 x) := cell_later hb (hc2 k x y hp).1
      have c4 : wr.cell? ⟨b2, o2 + k * 2 + 1, none⟩ = some (.int .i64 y) := cell_later hb (hc2 k x y hp).2
      have q := Tryd.neqLine
      have g := fun (w : World) op x y xs ys => run_eqGuard_agg (P := Tryd.prog) w op 54 x y xs ys Tryd.lineGuard
      clear hc1 hc2 hp hm
      go_wp2_with fail
      go_quiet (fail)
      go_wp2_with fail
      exact ⟨⟨k + 1, by omega, by go_num, below_drewN hb _⟩, by simp [intOf]; omega⟩
    · go_wp2_with fail
      go_ret
      exact ⟨rfl, HBR.out⟩
end Go.Proofs.YtcldgpbimaoliaaDoor
