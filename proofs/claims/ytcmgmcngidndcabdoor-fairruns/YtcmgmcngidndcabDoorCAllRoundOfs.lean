/- Own facts, put together: no statement of its own. -/
import Derived.Test.YtcmgmcngidndcabDoorCAllLeasts
import Derived.Test.YtcmgmcngidndcabDoorCSlide
import Derived.Test.YtcmgmcngidndcabDoorCAllRounds

/- What the document's answer for rounds holds in memory while it seeks. -/
namespace Go.Proofs.YtcmgmcngidndcabDoor
open Go.RowKit

/-- Which ones have come, in a row of bools. -/
structure CameAt (w : World) (g n next : Nat) : Prop where
  cell : ∀ i, i < n → w.cell? ⟨g, i, none⟩ = some (.bool (decide (i < next)))
  frozen : ∀ i, w.frozen? ⟨g, i, none⟩ = false
  lt : g < w.heap.size
/-- The flows' credits, in a row of numbers. -/
structure CredAt (w : World) (g : Nat) (cr : Nat → Int) : Prop where
  cell : ∀ f, f < 8 → w.cell? ⟨g, f, none⟩ = some (.int .i64 (cr f))
  frozen : ∀ i, w.frozen? ⟨g, i, none⟩ = false
  lt : g < w.heap.size
theorem came_made (w : World) (n : Nat) (t : TypeId) : CameAt (w.alloc (.cells (madeCells #[.bool false] n) t)) w.heap.size n 0 := by
  refine ⟨fun i hi => ?_, fun i => World.frozen?_alloc_new w _ _ i, by simp⟩
  rw [World.cell?_alloc_at _ _ _ _ rfl]
  simpa using made_get _ _ _ hi
theorem cred_made (w : World) (t : TypeId) : CredAt (w.alloc (.cells (madeCells #[.int .i64 0] 8) t)) w.heap.size (fun _ => 0) := by
  refine ⟨fun i hi => ?_, fun i => World.frozen?_alloc_new w _ _ i, by simp⟩
  rw [World.cell?_alloc_at _ _ _ _ rfl]
  exact made_get _ _ _ hi
theorem CameAt.of_block {w w' : World} {g n k : Nat} (h : CameAt w g n k) (hb : w'.heap[g]? = w.heap[g]?) (hs : w.heap.size ≤ w'.heap.size) : CameAt w' g n k :=
  ⟨fun i hi => (World.cell?_of_block (a := ⟨g, i, none⟩) hb).trans (h.cell i hi), fun i => (World.frozen?_of_block (a := ⟨g, i, none⟩) hb).trans (h.frozen i), Nat.lt_of_lt_of_le h.lt hs⟩
theorem CredAt.of_block {w w' : World} {g : Nat} {cr : Nat → Int} (h : CredAt w g cr) (hb : w'.heap[g]? = w.heap[g]?) (hs : w.heap.size ≤ w'.heap.size) : CredAt w' g cr :=
  ⟨fun i hi => (World.cell?_of_block (a := ⟨g, i, none⟩) hb).trans (h.cell i hi), fun i => (World.frozen?_of_block (a := ⟨g, i, none⟩) hb).trans (h.frozen i), Nat.lt_of_lt_of_le h.lt hs⟩
theorem CameAt.put {w : World} {g n k : Nat} (h : CameAt w g n k) (hk : k < n) : CameAt (w.setCell ⟨g, k, none⟩ (.bool true)) g n (k + 1) := by
  refine ⟨fun i hi => ?_, fun i => by rw [World.frozen?_setCell]; exact h.frozen i, by simp [World.setCell]; exact h.lt⟩
  by_cases e : k = i
  · subst e
    rw [World.cell?_setCell_same' _ _ _ (by rw [h.cell k hk]; rfl)]
    simp
  · rw [World.cell?_setCell_other _ _ _ _ (by intro e'; cases e'; exact e rfl), h.cell i hi]
    congr 2
    simp only [decide_eq_decide]
    omega
theorem CredAt.put {w : World} {g : Nat} {cr : Nat → Int} (h : CredAt w g cr) {f : Nat} (hf : f < 8) (x : Int) : CredAt (w.setCell ⟨g, f, none⟩ (.int .i64 x)) g (put1 cr f x) := by
  refine ⟨fun i hi => ?_, fun i => by rw [World.frozen?_setCell]; exact h.frozen i, by simp [World.setCell]; exact h.lt⟩
  by_cases e : f = i
  · subst e
    rw [World.cell?_setCell_same' _ _ _ (by rw [h.cell f hf]; rfl), put1_same]
  · rw [World.cell?_setCell_other _ _ _ _ (by intro e'; cases e'; exact e rfl), h.cell i hi, put1_other _ _ (fun e' => e e'.symm)]

/-- All that it holds; w: the world at its start. -/
structure RoMem (w wr : World) (gd gc gk n : Nat) (v : Value) (out : List Sn) (next : Nat) (cr : Nat → Int) (rv : Value) (F : Nat → Prop) (row : List Nat) : Prop where
  own : OwnS wr w.heap.size v out
  done : DoneAt wr gd n out
  came : CameAt wr gc n next
  cred : CredAt wr gk cr
  row : Slides wr w.heap.size rv F row
  ne : gd ≠ gc ∧ gd ≠ gk ∧ gc ≠ gk
  vne : v.ownBlock ≠ some gd ∧ v.ownBlock ≠ some gc ∧ v.ownBlock ≠ some gk
  fne : ¬ F gd ∧ ¬ F gc ∧ ¬ F gk ∧ ∀ k, F k → v.ownBlock ≠ some k
  new : w.heap.size ≤ gd ∧ w.heap.size ≤ gc ∧ w.heap.size ≤ gk
  below : Below w.heap.size w wr
section
variable {w wr wr' : World} {gd gc gk n : Nat} {v : Value} {out : List Sn} {next : Nat} {cr : Nat → Int} {rv : Value} {F : Nat → Prop} {row : List Nat}
theorem RoMem.later (h : RoMem w wr gd gc gk n v out next cr rv F row) (hb : Below wr.heap.size wr wr') : RoMem w wr' gd gc gk n v out next cr rv F row :=
  ⟨ownsRow_of_block h.own (fun g _ hg => hb.block g hg), h.done.of_block (hb.block gd h.done.lt) hb.size, h.came.of_block (hb.block gc h.came.lt) hb.size, h.cred.of_block (hb.block gk h.cred.lt) hb.size, h.row.but (S := fun _ => False) (.ofBelow hb) (fun _ _ h => h), h.ne, h.vne, h.fne, h.new, h.below.trans (hb.mono h.below.size)⟩
theorem RoMem.alloc (h : RoMem w wr gd gc gk n v out next cr rv F row) (o : Obj) : RoMem w (wr.alloc o) gd gc gk n v out next cr rv F row := h.later ((Below.refl _ _).alloc (Nat.le_refl _) _)
theorem butOne (w : World) (g i : Nat) (v : Value) : But (fun k => k = g) w (w.setCell ⟨g, i, none⟩ v) := But.setCell (S := fun k => k = g) (But.refl _ w) (p := ⟨g, i, none⟩) rfl v
theorem size_setCell (w : World) (a : Addr) (v : Value) : (w.setCell a v).heap.size = w.heap.size := by simp [World.setCell]
theorem RoMem.setCame (h : RoMem w wr gd gc gk n v out next cr rv F row) (hn : next < n) : RoMem w (wr.setCell ⟨gc, next, none⟩ (.bool true)) gd gc gk n v out (next + 1) cr rv F row := by
  have hb := butOne wr gc next (.bool true)
  exact ⟨ownsRow_of_block h.own (fun g hg hlt => hb.block g hlt (fun e => h.vne.2.1 (by rw [← e]; exact hg))), h.done.of_block (hb.block gd h.done.lt h.ne.1) hb.size, h.came.put hn, h.cred.of_block (hb.block gk h.cred.lt (fun e => h.ne.2.2 e.symm)) hb.size, h.row.but hb (fun k hk e => h.fne.2.1 (by rw [← e]; exact hk)), h.ne, h.vne, h.fne, h.new, h.below.trans (hb.below h.below.size fun k hk => by rw [hk]; exact h.new.2.1)⟩
theorem RoMem.setCred (h : RoMem w wr gd gc gk n v out next cr rv F row) {f : Nat} (hf : f < 8) (x : Int) : RoMem w (wr.setCell ⟨gk, f, none⟩ (.int .i64 x)) gd gc gk n v out next (put1 cr f x) rv F row := by
  have hb := butOne wr gk f (.int .i64 x)
  exact ⟨ownsRow_of_block h.own (fun g hg hlt => hb.block g hlt (fun e => h.vne.2.2 (by rw [← e]; exact hg))), h.done.of_block (hb.block gd h.done.lt h.ne.2.1) hb.size, h.came.of_block (hb.block gc h.came.lt h.ne.2.2) hb.size, h.cred.put hf x, h.row.but hb (fun k hk e => h.fne.2.2.1 (by rw [← e]; exact hk)), h.ne, h.vne, h.fne, h.new, h.below.trans (hb.below h.below.size fun k hk => by rw [hk]; exact h.new.2.2)⟩
/-- The row is another one, in blocks of the old one or in new ones. -/
theorem RoMem.setRow (h : RoMem w wr gd gc gk n v out next cr rv F row) {w2 : World} {rv' : Value} {F' : Nat → Prop} {row' : List Nat} (hb : But F wr w2) (hs : Slides w2 w.heap.size rv' F' row') (hF : ∀ k, F' k → F k ∨ wr.heap.size ≤ k) : RoMem w w2 gd gc gk n v out next cr rv' F' row' := by
  have hne : ∀ g, g < wr.heap.size → ¬ F g → ¬ F' g := fun g hg hn h' => by
    rcases hF g h' with h1 | h1
    · exact hn h1
    · omega
  refine ⟨ownsRow_of_block h.own (fun g hg hlt => hb.block g hlt (fun e => h.fne.2.2.2 g e hg)), h.done.of_block (hb.block gd h.done.lt h.fne.1) hb.size, h.came.of_block (hb.block gc h.came.lt h.fne.2.1) hb.size, h.cred.of_block (hb.block gk h.cred.lt h.fne.2.2.1) hb.size, hs, h.ne, h.vne, ⟨hne gd h.done.lt h.fne.1, hne gc h.came.lt h.fne.2.1, hne gk h.cred.lt h.fne.2.2.1, fun k hk e => ?_⟩, h.new, h.below.trans (hb.below h.below.size fun k hk => (h.row.foot k hk).1)⟩
  have hlt := (ownsRow_lt h.own e).2
  rcases hF k hk with h1 | h1
  · exact h.fne.2.2.2 k h1 e
  · omega
/-- One is done, and sent. -/
theorem RoMem.setDone (h : RoMem w wr gd gc gk n v out next cr rv F row) (b : Nat) (hb : b < n) {w2 : World} {f t : Int} {g' cap : Nat} (w1 : World) (hw1 : w1 = wr.setCell ⟨gd, b, none⟩ (.bool true)) {w1' : World} (hb1 : Below w1.heap.size w1 w1')
    (h1 : w2.ownsRow w.heap.size 43 3 (.slice (some ⟨g', 0, none⟩) (out.length + 1) cap) (out.length + 1) (cellsS out ++ cellsS [⟨b, f, t⟩])) (h2 : w1'.grownBy w2 v.ownBlock) (h3 : v.ownBlock = some g' ∨ g' = w1'.heap.size) : RoMem w w2 gd gc gk n (.slice (some ⟨g', 0, none⟩) (out.length + 1) cap) (out ++ [⟨b, f, t⟩]) next cr rv F row := by
  have hbut := butOne wr gd b (.bool true)
  have hs1 : w1.heap.size = wr.heap.size := by rw [hw1]; exact size_setCell _ _ _
  have hg' : ∀ g, g < wr.heap.size → v.ownBlock ≠ some g → g' ≠ g := fun g hg hne e => by
    rcases h3 with h3 | h3
    · exact hne (by rw [h3, e])
    · have := hb1.size; omega
  have hb2 : But (fun k => v.ownBlock = some k) w1' w2 := ⟨h2.os, h2.tape, h2.output, h2.size, fun k hk hn => h2.block k hk (fun e => hn e.symm)⟩
  have hd : DoneAt w1 gd n (out ++ [⟨b, f, t⟩]) := by rw [hw1]; exact h.done.put b hb f t
  have hbw : But (fun k => k = gd) wr w1 := by rw [hw1]; exact hbut
  have hb12 : But (fun k => k = gd ∨ v.ownBlock = some k) wr w2 := ((hbw.mono fun k hk => .inl hk).trans (.ofBelow hb1)).trans (hb2.mono fun k hk => .inr hk)
  have blk : ∀ g, g < wr.heap.size → g ≠ gd → v.ownBlock ≠ some g → w2.heap[g]? = wr.heap[g]? := fun g hg h1 h2 => hb12.block g hg (fun e => by rcases e with e | e; exact h1 e; exact h2 e)
  refine ⟨?_, ?_, h.came.of_block (blk gc h.came.lt (fun e => h.ne.1 e.symm) h.vne.2.1) hb12.size, h.cred.of_block (blk gk h.cred.lt (fun e => h.ne.2.1 e.symm) h.vne.2.2) hb12.size, h.row.but hb12 (fun k hk e => ?_), h.ne, ⟨fun e => hg' gd h.done.lt h.vne.1 (Option.some.inj e), fun e => hg' gc h.came.lt h.vne.2.1 (Option.some.inj e), fun e => hg' gk h.cred.lt h.vne.2.2 (Option.some.inj e)⟩, ⟨h.fne.1, h.fne.2.1, h.fne.2.2.1, fun k hk e => hg' k (h.row.foot k hk).2 (h.fne.2.2.2 k hk) (Option.some.inj e)⟩, h.new, ?_⟩
  · unfold OwnS
    rw [List.length_append, cellsS_append]
    exact h1
  · have hlt : gd < w1.heap.size := by rw [hs1]; exact h.done.lt
    exact (hd.of_block (hb1.block gd hlt) hb1.size).of_block (hb2.block gd (Nat.lt_of_lt_of_le hlt hb1.size) h.vne.1) hb2.size
  · rcases e with e | e
    · exact h.fne.1 (by rw [← e]; exact hk)
    · exact h.fne.2.2.2 k hk e
  · refine h.below.trans (hb12.below h.below.size fun k hk => ?_)
    rcases hk with rfl | hk
    · exact h.new.1
    · exact (ownsRow_lt h.own hk).1
end
end Go.Proofs.YtcmgmcngidndcabDoor
