/- Two cells of a block of the call's own. -/
import Derived.Test.YtepnfioldbhffabDoorCUtil
namespace Go.Proofs.YtepnfioldbhffabDoor
open Go.RowKit

/-- Two cells of a block of the call's own. -/
structure At2 (W : World) (g : Nat) (x y : Value) : Prop where
  c0 : W.cell? ⟨g, 0, none⟩ = some x
  c1 : W.cell? ⟨g, 1, none⟩ = some y
  f0 : W.frozen? ⟨g, 0, none⟩ = false
  f1 : W.frozen? ⟨g, 1, none⟩ = false
section
variable {W W' : World} {g h : Nat} {x y : Value}
theorem at2_new (w : World) (x y : Value) (t : TypeId) : At2 (w.alloc (.cells #[x, y] t)) w.heap.size x y := ⟨by simp, by simp, by simp, by simp⟩
theorem At2.later (k : At2 W g x y) (hb : Below W.heap.size W W') : At2 W' g x y :=
  have l := cell_lt k.c0
  ⟨cell_later hb k.c0, cell_later hb k.c1, by rw [hb.frozen (p := ⟨g, 0, none⟩) l]; exact k.f0, by rw [hb.frozen (p := ⟨g, 1, none⟩) l]; exact k.f1⟩
theorem At2.set (k : At2 W g x y) (u v : Value) : At2 ((W.setCell ⟨g, 0, none⟩ u).setCell ⟨g, 1, none⟩ v) g u v := by
  have e0 : (W.setCell ⟨g, 0, none⟩ u).cell? ⟨g, 0, none⟩ = some u := World.cell?_setCell_same' _ _ _ (by rw [k.c0]; rfl)
  have e1 : (W.setCell ⟨g, 0, none⟩ u).cell? ⟨g, 1, none⟩ = some y := by
    rw [World.cell?_setCell_other _ _ _ _ (by intro e; cases e)]
    exact k.c1
  refine ⟨?_, World.cell?_setCell_same' _ _ _ (by rw [e1]; rfl), ?_, ?_⟩
  · rw [World.cell?_setCell_other _ _ _ _ (by intro e; cases e)]
    exact e0
  · rw [World.frozen?_setCell, World.frozen?_setCell]; exact k.f0
  · rw [World.frozen?_setCell, World.frozen?_setCell]; exact k.f1
theorem At2.other (k : At2 W g x y) (hne : h ≠ g) (u v : Value) : At2 ((W.setCell ⟨h, 0, none⟩ u).setCell ⟨h, 1, none⟩ v) g x y := by
  refine ⟨?_, ?_, ?_, ?_⟩
  · rw [World.cell?_setCell_other _ _ _ _ (by intro e; injection e with e1; exact hne e1), World.cell?_setCell_other _ _ _ _ (by intro e; injection e with e1; exact hne e1)]; exact k.c0
  · rw [World.cell?_setCell_other _ _ _ _ (by intro e; injection e with e1; exact hne e1), World.cell?_setCell_other _ _ _ _ (by intro e; injection e with e1; exact hne e1)]; exact k.c1
  · rw [World.frozen?_setCell, World.frozen?_setCell]; exact k.f0
  · rw [World.frozen?_setCell, World.frozen?_setCell]; exact k.f1
end
end Go.Proofs.YtepnfioldbhffabDoor
