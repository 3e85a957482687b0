/- A row of numbers of the call's own, of which one was deleted by the library's slices.Delete: what its world is. -/
import Derived.Test.YtepnfioldbhffabDoorCFrame
import Derived.Laws.OwnMore
import Derived.Sort.Row
namespace Go.Proofs.YtepnfioldbhffabDoor
open Go.RowKit Go.Sort

/-- Numbers as cells. -/
def ints (xs : List Int) : List Value := xs.map (Value.int .i64)
theorem ints_length (xs : List Int) : (ints xs).length = xs.length := by simp [ints]
theorem ints_append (a b : List Int) : ints (a ++ b) = ints a ++ ints b := by simp [ints]
theorem ints_get {xs : List Int} {j : Nat} {x : Int} (h : xs[j]? = some x) : (ints xs)[j]? = some (.int .i64 x) := by simp [ints, h]
theorem ints_one (xs : List Int) : ∀ u ∈ ints xs, u.oneCell' = true := by
  intro u hu
  obtain ⟨x, -, rfl⟩ := List.mem_map.1 hu
  rfl

theorem holds_of_own {w : World} {B : Nat} {e : TypeId} {g cap : Nat} {zs : List Int} (h : w.ownsRow B e 1 (.slice (some ⟨g, 0, none⟩) zs.length cap) zs.length (ints zs)) : Holds (Value.int .i64) w g 0 zs.toArray := by
  intro j hj
  have hj' : j < zs.length := by simpa using hj
  refine ⟨?_, h.frozenAt _⟩
  rw [Nat.zero_add, h.cellAt j (by omega), ints_get (List.getElem?_eq_getElem hj')]
  congr 2
  rw [getElem!_pos _ j hj]
  simp

theorem own_deleted {w : World} {B : Nat} {e : TypeId} {g cap : Nat} {zs : List Int} (h : w.ownsRow B e 1 (.slice (some ⟨g, 0, none⟩) zs.length cap) zs.length (ints zs)) (i q : Nat) (hi : i < zs.length) :
    (putRow (Value.int .i64) (Sort.ahead w q) g 0 (zs.take i ++ zs.drop (i + 1) ++ List.replicate (i + 1 - i) 0).toArray).ownsRow B e 1 (.slice (some ⟨g, 0, none⟩) (zs.length - 1) cap) (zs.length - 1) (ints (zs.eraseIdx i)) ∧
      But (fun k => k = g) w (putRow (Value.int .i64) (Sort.ahead w q) g 0 (zs.take i ++ zs.drop (i + 1) ++ List.replicate (i + 1 - i) 0).toArray) := by
  have hel : (zs.eraseIdx i).length = zs.length - 1 := by rw [List.length_eraseIdx, if_pos hi]
  rcases h.2 with ⟨h', _⟩ | ⟨g', cap', cur, h', hB, hg, hn, hm, hcs, ht⟩
  · simp at h'
  · simp only [Value.slice.injEq, Option.some.injEq, Addr.mk.injEq, and_true, true_and] at h'
    obtain ⟨rfl, rfl⟩ := h'
    refine ⟨⟨by rw [ints_length, hel, Nat.mul_one], .inr ⟨g, cap, putCells (Value.int .i64) 0 (zs.take i ++ zs.drop (i + 1) ++ List.replicate (i + 1 - i) 0).toArray cur, rfl, hB, ?_, by omega, hm, by simp [putCells, hcs], ?_⟩⟩, ⟨rfl, rfl, rfl, by simp, fun k hk hs => ?_⟩⟩
    · simp only [putRow, mapBlock, Array.getElem?_modify, heap_ahead, hg]
      rfl
    · apply List.ext_getElem?
      intro k
      rw [List.getElem?_take, Nat.mul_one]
      by_cases hk : k < zs.length - 1
      · rw [if_pos hk]
        have hz : (zs.eraseIdx i)[k]? = some ((zs.eraseIdx i)[k]'(by omega)) := List.getElem?_eq_getElem (by omega)
        rw [ints_get hz]
        have hcur : cur[k]? = some cur[k] := Array.getElem?_eq_getElem (by omega)
        have hsz : (zs.take i ++ zs.drop (i + 1) ++ List.replicate (i + 1 - i) (0 : Int)).length = zs.length := by
          simp only [List.length_append, List.length_take, List.length_drop, List.length_replicate]
          omega
        simp only [putCells, Array.getElem?_toList, Array.getElem?_mapIdx, hcur, Option.map_some]
        rw [if_pos ⟨Nat.zero_le _, by rw [List.size_toArray, hsz]; omega⟩]
        congr 2
        rw [Nat.sub_zero, getElem!_pos _ k (by rw [List.size_toArray, hsz]; omega)]
        have e1 : zs.take i ++ zs.drop (i + 1) = zs.eraseIdx i := (List.eraseIdx_eq_take_drop_succ ..).symm
        simp only [e1, List.getElem_toArray]
        rw [List.getElem_append_left (by omega)]
      · rw [if_neg hk, List.getElem?_eq_none (by rw [ints_length]; omega)]
    · simp only [putRow, mapBlock, Array.getElem?_modify, heap_ahead]
      rw [if_neg (fun h => hs h.symm)]
end Go.Proofs.YtepnfioldbhffabDoor
