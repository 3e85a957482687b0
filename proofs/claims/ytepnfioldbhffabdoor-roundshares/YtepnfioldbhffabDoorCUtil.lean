/- Small facts that all walks share; no function is named here. -/
import Derived.Test.YtepnfioldbhffabDoorRows
import Derived.Test.YtepnfioldbhffabDoorCFrame
import Derived.WalkKit
import Derived.WalkSpells
import Derived.WalkLawsBesides
import Derived.BigQuiet
namespace Go.Proofs.YtepnfioldbhffabDoor
open Go.RowKit

theorem get_some {α : Type} (l : List α) (k : Nat) (h : k < l.length) : ∃ p, l[k]? = some p ∧ p ∈ l := ⟨l[k], by simp [h], List.getElem_mem h⟩
theorem cell_lt {w : World} {a : Addr} {v : Value} (h : w.cell? a = some v) : a.block < w.heap.size := by
  rcases Nat.lt_or_ge a.block w.heap.size with h' | h'
  · exact h'
  · simp [World.cell?, Array.getElem?_eq_none h'] at h
theorem ownsRow_mono {w : World} {base base' : Nat} {e : TypeId} {size : Nat} {v : Value} {n : Nat} {xs : List Value} (h : w.ownsRow base e size v n xs) (hb : base' ≤ base) : w.ownsRow base' e size v n xs := by
  obtain ⟨h1, h2 | ⟨g, cap, cur, hv, hB, r⟩⟩ := h
  · exact ⟨h1, .inl h2⟩
  · exact ⟨h1, .inr ⟨g, cap, cur, hv, Nat.le_trans hb hB, r⟩⟩
theorem But.one {g : Nat} {B : Nat} {w w' : World} (h : But (fun k => k = g) w w') (hB : B ≤ w.heap.size) (hg : B ≤ g) : Below B w w' := h.below hB (fun k hk => by rw [hk]; exact hg)
theorem below_undrew {B : Nat} {w w' : World} (h : Below B w.drew w') : Below B w w' := ⟨h.os, h.tape, h.output, h.size, h.block⟩
/-- The variables of package api that hold the errors of packets. -/
structure ErrsBO (w : World) (ad : Nat → Addr) : Prop where
  c1 : w.cell? ⟨2, 0, none⟩ = some (.iface 157 (.pointer (some (ad 1))))
  c4 : w.cell? ⟨4, 0, none⟩ = some (.iface 157 (.pointer (some (ad 4))))
theorem ErrsBO.below {w w' : World} {ad : Nat → Addr} (h : ErrsBO w ad) (hb : Below w.heap.size w w') : ErrsBO w' ad :=
  ⟨cell_later hb h.c1, cell_later hb h.c4⟩
/-- An error of package api by its number; none: nil. -/
def sentOf (ad : Nat → Addr) : Nat → Value
  | 0 => .nilIface
  | k + 1 => .iface 157 (.pointer (some (ad k)))
end Go.Proofs.YtepnfioldbhffabDoor
