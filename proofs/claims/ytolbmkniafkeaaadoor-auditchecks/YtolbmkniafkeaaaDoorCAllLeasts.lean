/- Own facts, put together: no statement of its own. -/
import Derived.Test.YtolbmkniafkeaaaDoorCSent1
import Derived.Test.YtolbmkniafkeaaaDoorCOwnRow
import Derived.Test.YtolbmkniafkeaaaDoorCAllPlain

/- What the document's answer for links holds in memory while it seeks. -/
namespace Go.Proofs.YtolbmkniafkeaaaDoor
open Go.RowKit

/-- Which ones are done, in a row of bools. -/
structure DoneAt (w : World) (g n : Nat) (out : List Sn) : Prop where
  cell : ∀ i, i < n → w.cell? ⟨g, i, none⟩ = some (.bool (isDone out i))
  frozen : ∀ i, w.frozen? ⟨g, i, none⟩ = false
  lt : g < w.heap.size
theorem done_made (w : World) (n : Nat) (t : TypeId) : DoneAt (w.alloc (.cells (madeCells #[.bool false] n) t)) w.heap.size n [] := by
  refine ⟨fun i hi => ?_, fun i => World.frozen?_alloc_new w _ _ i, by simp⟩
  rw [World.cell?_alloc_at _ _ _ _ rfl]
  exact made_get _ _ _ hi
theorem DoneAt.of_block {w w' : World} {g n : Nat} {out : List Sn} (h : DoneAt w g n out) (hb : w'.heap[g]? = w.heap[g]?) (hs : w.heap.size ≤ w'.heap.size) : DoneAt w' g n out :=
  ⟨fun i hi => (World.cell?_of_block (a := ⟨g, i, none⟩) hb).trans (h.cell i hi), fun i => (World.frozen?_of_block (a := ⟨g, i, none⟩) hb).trans (h.frozen i), Nat.lt_of_lt_of_le h.lt hs⟩
theorem DoneAt.put {w : World} {g n : Nat} {out : List Sn} (h : DoneAt w g n out) (b : Nat) (hb : b < n) (f t : Int) : DoneAt (w.setCell ⟨g, b, none⟩ (.bool true)) g n (out ++ [⟨b, f, t⟩]) := by
  refine ⟨fun i hi => ?_, fun i => by rw [World.frozen?_setCell]; exact h.frozen i, by simp [World.setCell]; exact h.lt⟩
  rw [isDone_snoc]
  by_cases e : b = i
  · subst e
    rw [World.cell?_setCell_same' _ _ _ (by rw [h.cell b hb]; rfl)]
    simp
  · rw [World.cell?_setCell_other _ _ _ _ (by intro e'; cases e'; exact e rfl), h.cell i hi]
    simp [e]

structure LeastAt (per : Int) (ps : List Pk) (keys : List Int) (w wr : World) (v : Value) (g : Nat) (out : List Sn) (t : Int) (f : Nat) : Prop where
  seeks : Seeks per ps keys out t f
  own : OwnS wr w.heap.size v out
  done : DoneAt wr g ps.length out
  apart : v.ownBlock ≠ some g
  new : w.heap.size ≤ g
  below : Below w.heap.size w wr
section
variable {per : Int} {ps : List Pk} {keys : List Int} {w wr wr' : World} {v : Value} {g : Nat} {out : List Sn} {t : Int} {f : Nat}
theorem LeastAt.later (h : LeastAt per ps keys w wr v g out t f) (hb : Below wr.heap.size wr wr') : LeastAt per ps keys w wr' v g out t f :=
  ⟨h.seeks, ownsRow_of_block h.own (fun g _ hg => hb.block g hg), h.done.of_block (hb.block g h.done.lt) hb.size, h.apart, h.new, h.below.trans (hb.mono h.below.size)⟩
theorem LeastAt.grown (h : LeastAt per ps keys w wr v g out t f) {x : Sn} {g' cap : Nat} {w2 : World} (h1 : w2.ownsRow w.heap.size 44 3 (.slice (some ⟨g', 0, none⟩) (out.length + 1) cap) (out.length + 1) (cellsS out ++ cellsS [x])) (h2 : wr.grownBy w2 v.ownBlock) (h3 : v.ownBlock = some g' ∨ g' = wr.heap.size)
    (b : Nat) (hb : b < ps.length) (hx : x = ⟨b, x.beg, x.fin⟩) (t' : Int) (f' : Nat) (hs : Seeks per ps keys (out ++ [x]) t' f') : LeastAt per ps keys w (w2.setCell ⟨g, b, none⟩ (.bool true)) (.slice (some ⟨g', 0, none⟩) (out.length + 1) cap) g (out ++ [x]) t' f' := by
  have hne : g' ≠ g := by
    rcases h3 with h3 | h3
    · intro e; subst e; exact h.apart h3
    · have := h.done.lt; omega
  have hd : DoneAt w2 g ps.length out := h.done.of_block (h2.block g h.done.lt (fun e => h.apart e.symm)) h2.size
  have hb1 : But (fun k => v.ownBlock = some k) wr w2 := ⟨h2.os, h2.tape, h2.output, h2.size, fun k hk hn => h2.block k hk (fun e => hn e.symm)⟩
  have hb2 : But (fun k => k = g) w2 (w2.setCell ⟨g, b, none⟩ (.bool true)) := But.setCell (S := fun k => k = g) (But.refl _ w2) (p := ⟨g, b, none⟩) rfl _
  refine ⟨hs, ?_, by rw [hx]; exact hd.put b hb _ _, fun e => hne (Option.some.inj e), h.new, ?_⟩
  · unfold OwnS
    rw [List.length_append, cellsS_append]
    exact ownsRow_of_block h1 (fun k hk hlt => hb2.block k hlt (fun e => hne ((Option.some.inj hk).trans e)))
  · exact h.below.trans ((hb1.below h.below.size fun k hk => (ownsRow_lt h.own hk).1).trans (hb2.below (Nat.le_trans h.below.size h2.size) fun k hk => by rw [hk]; exact h.new))
end
end Go.Proofs.YtolbmkniafkeaaaDoor
