/- Rows of pairs ([2]int) of the call's own. -/
import Derived.Test.YtcldgpbimaoliabDoorOwnRow
import Derived.Laws.OwnMore
import Derived.Laws.StructEq
import Derived.ChangeKeysEq
namespace Go.Proofs.YtcldgpbimaoliabDoor
open Go.RowKit

/-- The cells of pairs, one behind the other. -/
def cells2 (ls : List (Int × Int)) : List Value := ls.flatMap fun p => [.int .i64 p.1, .int .i64 p.2]
theorem cells2_cons (p : Int × Int) (r : List (Int × Int)) : cells2 (p :: r) = .int .i64 p.1 :: .int .i64 p.2 :: cells2 r := rfl
theorem cells2_append (a b : List (Int × Int)) : cells2 (a ++ b) = cells2 a ++ cells2 b := by simp [cells2]
theorem cells2_length (ls : List (Int × Int)) : (cells2 ls).length = ls.length * 2 := by
  induction ls with
  | nil => rfl
  | cons p r ih => rw [cells2_cons]; simp [ih]; omega
theorem cells2_get (ls : List (Int × Int)) : ∀ i x y, ls[i]? = some (x, y) → (cells2 ls)[i * 2]? = some (.int .i64 x) ∧ (cells2 ls)[i * 2 + 1]? = some (.int .i64 y) := by
  induction ls with
  | nil => intro i x y h; simp at h
  | cons q r ih =>
    intro i x y h
    rw [cells2_cons]
    cases i with
    | zero => simp at h; subst h; exact ⟨rfl, rfl⟩
    | succ i =>
      have := ih i x y (by simpa using h)
      rw [show (i + 1) * 2 = i * 2 + 1 + 1 by omega]
      exact ⟨by simpa using this.1, by simpa using this.2⟩
theorem cells2_one (ls : List (Int × Int)) : ∀ u ∈ cells2 ls, u.oneCell' = true := by
  intro u hu
  simp only [cells2, List.mem_flatMap] at hu
  obtain ⟨p, -, h⟩ := hu
  simp at h
  rcases h with rfl | rfl <;> rfl
theorem cells2_set (r : List (Int × Int)) (s t u : Int) : (cells2 (r ++ [(s, t)])).set (r.length * 2 + 1) (.int .i64 u) = cells2 (r ++ [(s, u)]) := by
  rw [cells2_append, cells2_append, List.set_append_right _ _ (by rw [cells2_length]; omega), cells2_length, show r.length * 2 + 1 - r.length * 2 = 1 by omega]
  rfl
theorem cells2_set0 (r : List (Int × Int)) (s t : Int) : (cells2 (r ++ [(s, t)])).set (r.length * 2) (.int .i64 s) = cells2 (r ++ [(s, t)]) := by
  rw [cells2_append, List.set_append_right _ _ (by rw [cells2_length]; omega), cells2_length, show r.length * 2 - r.length * 2 = 0 by omega]
  rfl

/-- A slice of pairs in memory that the call itself has made, from block B on. -/
def Own2 (w : World) (B : Nat) (v : Value) (ls : List (Int × Int)) : Prop := w.ownsRow B 31 2 v ls.length (cells2 ls)
/-- Of one that is not empty: where it lies. -/
theorem Own2.place {w : World} {B : Nat} {v : Value} {ls : List (Int × Int)} (h : Own2 w B v ls) (h0 : 0 < ls.length) :
    ∃ g cap, v = .slice (some ⟨g, 0, none⟩) ls.length cap ∧ ls.length ≤ cap ∧ cap ≤ maxLen ∧ B ≤ g ∧ g < w.heap.size ∧ (∀ i x y, ls[i]? = some (x, y) → w.cell? ⟨g, i * 2, none⟩ = some (.int .i64 x) ∧ w.cell? ⟨g, i * 2 + 1, none⟩ = some (.int .i64 y)) ∧ ∀ j, w.frozen? ⟨g, j, none⟩ = false := by
  have hh := h
  obtain ⟨h1, ⟨-, h2⟩ | ⟨g, cap, cur, rfl, hB, hg, hn, hm, r⟩⟩ := h
  · omega
  · refine ⟨g, cap, rfl, hn, hm, hB, lt_of_block hg, fun i x y hi => ?_, fun j => World.ownsRow.frozenAt hh j⟩
    have hil : i < ls.length := by
      rcases Nat.lt_or_ge i ls.length with h | h
      · exact h
      · simp [List.getElem?_eq_none h] at hi
    have := cells2_get ls i x y hi
    rw [World.ownsRow.cellAt hh _ (by omega), World.ownsRow.cellAt hh _ (by omega)]
    exact this
theorem Own2.form {w : World} {B : Nat} {v : Value} {ls : List (Int × Int)} (h : Own2 w B v ls) : ∃ a cap, v = .slice a ls.length cap ∧ ls.length ≤ cap ∧ cap ≤ maxLen := by
  obtain ⟨h1, ⟨rfl, h2⟩ | ⟨g, cap, cur, rfl, hB, hg, hn, hm, r⟩⟩ := h
  · exact ⟨none, 0, by rw [h2], by omega, by simp [maxLen]⟩
  · exact ⟨_, cap, rfl, hn, hm⟩
theorem Own2.later {w w' : World} {B : Nat} {v : Value} {ls : List (Int × Int)} (h : Own2 w B v ls) (hb : Below w.heap.size w w') : Own2 w' B v ls := ownsRow_of_block h (fun g _ hg => hb.block g hg)
/-- The last pair's second half is written. -/
theorem Own2.put {w : World} {B g cap n : Nat} {r : List (Int × Int)} {s t : Int} (h : Own2 w B (.slice (some ⟨g, 0, none⟩) n cap) (r ++ [(s, t)])) (hn : n = r.length + 1) (u : Int) : Own2 (w.setCell ⟨g, r.length * 2 + 1, none⟩ (.int .i64 u)) B (.slice (some ⟨g, 0, none⟩) n cap) (r ++ [(s, u)]) := by
  subst hn
  unfold Own2 at *
  rw [List.length_append] at *
  have := (World.ownsRow.stored h (r.length * 2 + 1) (.int .i64 u)).1
  rw [cells2_set] at this
  exact this
theorem Own2.put0 {w : World} {B g cap n : Nat} {r : List (Int × Int)} {s t : Int} (h : Own2 w B (.slice (some ⟨g, 0, none⟩) n cap) (r ++ [(s, t)])) (hn : n = r.length + 1) : Own2 (w.setCell ⟨g, r.length * 2, none⟩ (.int .i64 s)) B (.slice (some ⟨g, 0, none⟩) n cap) (r ++ [(s, t)]) := by
  subst hn
  unfold Own2 at *
  rw [List.length_append] at *
  have := (World.ownsRow.stored h (r.length * 2) (.int .i64 s)).1
  rw [cells2_set0] at this
  exact this
theorem Own2.snoc {w : World} {B g cap : Nat} {ls : List (Int × Int)} {x y : Int} (h : w.ownsRow B 31 2 (.slice (some ⟨g, 0, none⟩) (ls.length + 1) cap) (ls.length + 1) (cells2 ls ++ cells2 [(x, y)])) : Own2 w B (.slice (some ⟨g, 0, none⟩) (ls.length + 1) cap) (ls ++ [(x, y)]) := by
  unfold Own2
  rw [List.length_append, cells2_append]
  exact h

theorem Tryd.infoArr2 : (Tryd.prog.info? 31).map (fun i => (i.zero, i.size, i.bytes)) = some (some (.agg #[.int .i64 0, .int .i64 0]), 2, 16) := by kernel_rfl
theorem Tryd.arr2Guard : Tryd.prog.eqGuardType Tryd.prog.depth 31 = false := by kernel_rfl
theorem Tryd.arr2Cells : Tryd.prog.cellsOf 3 = 1 := by kernel_rfl
theorem Tryd.arr2Part0 (w : World) (x y : Int) : (part 3 #[.int .i64 x, .int .i64 y] (0 * 1)).run Tryd.prog w = .ok (.int .i64 x) w := by kernel_rfl
theorem Tryd.arr2Part1 (w : World) (x y : Int) : (part 3 #[.int .i64 x, .int .i64 y] (1 * 1)).run Tryd.prog w = .ok (.int .i64 y) w := by kernel_rfl
theorem Tryd.neqArr2 (w : World) (x y : Int) : (binOp .neq 31 (.agg #[.int .i64 x, .int .i64 y]) (.agg #[.int .i64 x, .int .i64 y])).run Tryd.prog w = .ok (.bool false) w := by
  obtain ⟨i, hi, -, -, -⟩ := info_parts Tryd.infoInt
  rw [run_neq_struct, run_equalIn_array (n := 2) (e := 3) w 9999 _ _ Tryd.underlying31 hi, Tryd.arr2Cells]
  simp only [show List.range 2 = [0, 1] from rfl, Op.eqItems, Sem.run_bind, Tryd.arr2Part0, Tryd.arr2Part1, Result.andThen_ok, run_equalIn_int _ 9998 3 .i64 .i64 _ _ Tryd.underlying3, beq_self_eq_true, Bool.not_true, Bool.false_eq_true, if_false, Sem.run_pure, Sem.run_ite]
end Go.Proofs.YtcldgpbimaoliabDoor
