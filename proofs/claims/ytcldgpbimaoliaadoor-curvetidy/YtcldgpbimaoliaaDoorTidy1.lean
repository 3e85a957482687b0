/- Walks: the document's answer: lines that matter. -/
import Derived.Test.YtcldgpbimaoliaaDoorSome2
import Derived.Test.YtcldgpbimaoliaaDoorEach
import Derived.Maps.AppendAt
namespace Go.Proofs.YtcldgpbimaoliaaDoor
open Go.RowKit

theorem Lies.take {w : World} {a : Option Addr} {ls : List (Int × Int)} (h : Lies w a ls) (k : Nat) : Lies w a (ls.take k) := by
  rcases h with rfl | ⟨b, off, rfl, hlt, hc⟩
  · exact .inl (by simp)
  · refine .inr ⟨b, off, rfl, hlt, fun i x y hi => ?_⟩
    rw [List.getElem?_take] at hi
    split at hi
    · exact hc i x y hi
    · cases hi
theorem Lies.drop {w : World} {b off : Nat} {ls : List (Int × Int)} (h : Lies w (Option.some ⟨b, off, Option.none⟩) ls) (k : Nat) : Lies w (Option.some ⟨b, off + k * 2, Option.none⟩) (ls.drop k) := by
  rcases h with rfl | ⟨b', off', e, hlt, hc⟩
  · exact .inl (by simp)
  · cases e
    refine .inr ⟨b, _, rfl, hlt, fun i x y hi => ?_⟩
    rw [List.getElem?_drop] at hi
    have := hc (k + i) x y hi
    rw [show off + k * 2 + i * 2 = off + (k + i) * 2 by omega]
    exact this
theorem Tryd.appendNone (w : World) (ty : TypeId) (g n c : Nat) (hnc : n ≤ c) : (Builtin.append_ #[35, 35] ty #[.slice (some ⟨g, 0, none⟩) n c, .slice none 0 0]).run Tryd.prog w = .ok (.slice (some ⟨g, 0, none⟩) n c) w := by
  obtain ⟨i0, hi, hz0, hz1, hz2⟩ := info_parts Tryd.infoLine
  simp [Builtin.append_, run_underlying Tryd.underlying35, sizeOf, typeInfo, hi, Builtin.lenOf, Builtin.firstCells, loadCells, hnc, storeCells]
theorem own_some {w : World} {B m : Nat} {v : Value} {xs : List Value} (h : w.ownsRow B 54 2 v m xs) (h1 : 1 ≤ m) : ∃ g c, v = .slice (some ⟨g, 0, none⟩) m c ∧ m ≤ c ∧ v.ownBlock = some g := by
  obtain ⟨-, ⟨-, h0⟩ | ⟨g, cap, cur, rfl, -, -, hn, -, -, -⟩⟩ := h
  · omega
  · exact ⟨g, cap, rfl, hn, rfl⟩
theorem lies_grown {w w' : World} {g off : Nat} {row : Option Nat} {ls : List (Int × Int)} (h : Lies w (some ⟨g, off, none⟩) ls) (hg : w.grownBy w' row) (hne : row ≠ some g) : Lies w' (some ⟨g, off, none⟩) ls := by
  rcases h with rfl | ⟨b, o, e, hlt, hc⟩
  · exact .inl rfl
  · cases e
    refine .inr ⟨g, off, rfl, Nat.lt_of_lt_of_le hlt hg.size, fun i x y hi => ?_⟩
    exact ⟨hg.cell (hc i x y hi).1 (fun e => hne e.symm), hg.cell (hc i x y hi).2 (fun e => hne e.symm)⟩
theorem cells_take {ls : List (Int × Int)} {k : Nat} (h : k ≤ ls.length) : (cellsL (ls.take k)).length = k * 2 := by
  rw [cellsL_length, List.length_take, Nat.min_eq_left h]
theorem cells_drop (ls : List (Int × Int)) (k : Nat) : (cellsL (ls.drop k)).length = (ls.length - k) * 2 := by
  rw [cellsL_length, List.length_drop]
theorem own_put {w : World} {B k : Nat} {v : Value} {R : List (Int × Int)} {x y : Int} (hk : k ≤ R.length) (h : w.ownsRow B 54 2 v (k + 1 + (R.length - k)) (cellsL (R.take k) ++ [.int .i64 x, .int .i64 y] ++ cellsL (R.drop k))) : OwnL w B v (R.take k ++ (x, y) :: R.drop k) := by
  unfold OwnL
  have e1 : (R.take k ++ (x, y) :: R.drop k).length = k + 1 + (R.length - k) := by simp; omega
  have e2 : cellsL (R.take k ++ (x, y) :: R.drop k) = cellsL (R.take k) ++ [.int .i64 x, .int .i64 y] ++ cellsL (R.drop k) := by
    rw [cellsL_append, cellsL_cons]; simp
  rw [e1, e2]
  exact h
theorem OwnL.grownR {w0 w w' : World} {v : Value} {n : Nat} {xs : List Value} (hB : Below w0.heap.size w0 w) (ho : w.ownsRow w0.heap.size 54 2 v n xs) (hg : w.grownBy w' v.ownBlock) : Below w0.heap.size w0 w' :=
  hB.grown hg hB.size (fun k hk => (World.ownsRow.lt ho k hk).1)
end Go.Proofs.YtcldgpbimaoliaaDoor
