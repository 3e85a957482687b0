/- Equality of what was sent. -/
import Derived.Test.YtepnfioldbhffabDoorCSent1
import Derived.Laws.StructEq
namespace Go.Proofs.YtepnfioldbhffabDoor
open Go.RowKit

/-- Are two of them the same? -/
def eqS (x y z x' y' z' : Int) : Bool := x == x' && (y == y' && z == z')
theorem eqS_iff (x y z x' y' z' : Int) : eqS x y z x' y' z' = true ↔ (⟨x, y, z⟩ : Sn) = ⟨x', y', z'⟩ := by simp [eqS]
theorem eqS_refl (x y z : Int) : eqS x y z x y z = true := (eqS_iff x y z x y z).2 rfl

theorem Tryd.sentHeld : Tryd.prog.stoodInHeld 43 = false := by kernel_rfl
theorem Tryd.sentGuard : Tryd.prog.eqGuardType Tryd.prog.depth 43 = false := by kernel_rfl
theorem Tryd.sentFields : Tryd.prog.underlying 43 = some (.struct (Tryd.prog.fieldsOf 43)) := by
  simp only [Program.fieldsOf, Tryd.underlying43]
theorem Tryd.sentFieldsIs : (Tryd.prog.fieldsOf 43).toList = [{ name := "Packet", type := 3, offset := 0, embedded := false, tag := "", pkgPath := "", byteOffset := 0 }, { name := "From", type := 3, offset := 1, embedded := false, tag := "", pkgPath := "", byteOffset := 8 }, { name := "To", type := 3, offset := 2, embedded := false, tag := "", pkgPath := "", byteOffset := 16 }] := by
  simp only [Program.fieldsOf, Tryd.underlying43]
theorem Tryd.sentPart0 (w : World) (x y z : Int) : (part 3 #[.int .i64 x, .int .i64 y, .int .i64 z] 0).run Tryd.prog w = .ok (.int .i64 x) w := by kernel_rfl
theorem Tryd.sentPart1 (w : World) (x y z : Int) : (part 3 #[.int .i64 x, .int .i64 y, .int .i64 z] 1).run Tryd.prog w = .ok (.int .i64 y) w := by kernel_rfl
theorem Tryd.sentPart2 (w : World) (x y z : Int) : (part 3 #[.int .i64 x, .int .i64 y, .int .i64 z] 2).run Tryd.prog w = .ok (.int .i64 z) w := by kernel_rfl
theorem Tryd.neqSent (w : World) (x y z x' y' z' : Int) : (binOp .neq 43 (.agg #[.int .i64 x, .int .i64 y, .int .i64 z]) (.agg #[.int .i64 x', .int .i64 y', .int .i64 z'])).run Tryd.prog w = .ok (.bool (!(eqS x y z x' y' z'))) w := by
  rw [run_neq_struct, run_equalIn_struct _ 9999 _ _ _ Tryd.sentFields Tryd.sentHeld, Tryd.sentFieldsIs]
  have h1 : ("Packet" : String) ≠ "_" := by decide
  have h2 : ("From" : String) ≠ "_" := by decide
  have h3 : ("To" : String) ≠ "_" := by decide
  simp only [Op.eqFields, if_pos h1, if_pos h2, if_pos h3, Sem.run_bind, Tryd.sentPart0, Tryd.sentPart1, Tryd.sentPart2, Result.andThen_ok, run_equalIn_int _ 9998 3 .i64 .i64 _ _ Tryd.underlying3, Sem.run_ite, Sem.run_pure, eqS]
  cases x == x' <;> cases y == y' <;> cases z == z' <;> rfl
theorem Tryd.eqlSent (w : World) (x y z x' y' z' : Int) : (binOp .eql 43 (.agg #[.int .i64 x, .int .i64 y, .int .i64 z]) (.agg #[.int .i64 x', .int .i64 y', .int .i64 z'])).run Tryd.prog w = .ok (.bool (eqS x y z x' y' z')) w := by
  rw [run_eql_struct, run_equalIn_struct _ 9999 _ _ _ Tryd.sentFields Tryd.sentHeld, Tryd.sentFieldsIs]
  have h1 : ("Packet" : String) ≠ "_" := by decide
  have h2 : ("From" : String) ≠ "_" := by decide
  have h3 : ("To" : String) ≠ "_" := by decide
  simp only [Op.eqFields, if_pos h1, if_pos h2, if_pos h3, Sem.run_bind, Tryd.sentPart0, Tryd.sentPart1, Tryd.sentPart2, Result.andThen_ok, run_equalIn_int _ 9998 3 .i64 .i64 _ _ Tryd.underlying3, Sem.run_ite, Sem.run_pure, eqS]
  cases x == x' <;> cases y == y' <;> cases z == z' <;> rfl
end Go.Proofs.YtepnfioldbhffabDoor
