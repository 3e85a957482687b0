/- Own facts, put together: no statement of its own. -/
import Derived.Test.YtnomdlclkpnjpaaGreatDoorR46
import Derived.Test.YtnomdlclkpnjpaaGreatDoorR24
namespace Go.Proofs.YtnomdlclkpnjpaaGreatDoor
open Go.RowKit
structure FoMem (w wr : World) (gt gc gd gl n : Nat) (v : Value) (out : List Sn) (next : Nat) (tag last : Nat → Int) : Prop where
 own : OwnS wr w.heap.size v out
 tags : NumsAt wr gt n tag
 came : CameAt wr gc n next
 done : DoneAt wr gd n out
 last : NumsAt wr gl 8 last
 ne : gt ≠ gc ∧ gt ≠ gd ∧ gt ≠ gl ∧ gc ≠ gd ∧ gc ≠ gl ∧ gd ≠ gl
 vne : v.ownBlock ≠ some gt ∧ v.ownBlock ≠ some gc ∧ v.ownBlock ≠ some gd ∧ v.ownBlock ≠ some gl
 new : w.heap.size ≤ gt ∧ w.heap.size ≤ gc ∧ w.heap.size ≤ gd ∧ w.heap.size ≤ gl
 below : Below w.heap.size w wr
section
variable {w wr wr' : World} {gt gc gd gl n : Nat} {v : Value} {out : List Sn} {next : Nat} {tag last : Nat → Int}
theorem FoMem.later (h : FoMem w wr gt gc gd gl n v out next tag last) (hb : Below wr.heap.size wr wr') : FoMem w wr' gt gc gd gl n v out next tag last :=
 ⟨ownsRow_of_block h.own (fun g _ hg => hb.block g hg), h.tags.of_block (hb.block gt h.tags.lt) hb.size, h.came.of_block (hb.block gc h.came.lt) hb.size, h.done.of_block (hb.block gd h.done.lt) hb.size, h.last.of_block (hb.block gl h.last.lt) hb.size, h.ne, h.vne, h.new, h.below.trans (hb.mono h.below.size)⟩
theorem FoMem.setCame (h : FoMem w wr gt gc gd gl n v out next tag last) (hn : next < n) : FoMem w (wr.setCell ⟨gc, next, none⟩ (.bool true)) gt gc gd gl n v out (next + 1) tag last := by
 have hb := butOne wr gc next (.bool true)
 exact ⟨ownsRow_of_block h.own (fun g hg hlt => hb.block g hlt (fun e => h.vne.2.1 (by rw [← e]; exact hg))), h.tags.but hb h.ne.1, h.came.put hn, h.done.of_block (hb.block gd h.done.lt (fun e => h.ne.2.2.2.1 e.symm)) hb.size, h.last.but hb (fun e => h.ne.2.2.2.2.1 e.symm), h.ne, h.vne, h.new, h.below.trans (hb.below h.below.size fun k hk => by rw [hk]; exact h.new.2.1)⟩
theorem FoMem.setTag (h : FoMem w wr gt gc gd gl n v out next tag last) {k : Nat} (hk : k < n) (x : Int) : FoMem w (wr.setCell ⟨gt, k, none⟩ (.int .i64 x)) gt gc gd gl n v out next (put1 tag k x) last := by
 have hb := butOne wr gt k (.int .i64 x)
 exact ⟨ownsRow_of_block h.own (fun g hg hlt => hb.block g hlt (fun e => h.vne.1 (by rw [← e]; exact hg))), h.tags.put hk x, h.came.of_block (hb.block gc h.came.lt (fun e => h.ne.1 e.symm)) hb.size, h.done.of_block (hb.block gd h.done.lt (fun e => h.ne.2.1 e.symm)) hb.size, h.last.but hb (fun e => h.ne.2.2.1 e.symm), h.ne, h.vne, h.new, h.below.trans (hb.below h.below.size fun k hk => by rw [hk]; exact h.new.1)⟩
theorem FoMem.setLast (h : FoMem w wr gt gc gd gl n v out next tag last) {f : Nat} (hf : f < 8) (x : Int) : FoMem w (wr.setCell ⟨gl, f, none⟩ (.int .i64 x)) gt gc gd gl n v out next tag (put1 last f x) := by
 have hb := butOne wr gl f (.int .i64 x)
 exact ⟨ownsRow_of_block h.own (fun g hg hlt => hb.block g hlt (fun e => h.vne.2.2.2 (by rw [← e]; exact hg))), h.tags.but hb h.ne.2.2.1, h.came.of_block (hb.block gc h.came.lt h.ne.2.2.2.2.1) hb.size, h.done.of_block (hb.block gd h.done.lt h.ne.2.2.2.2.2) hb.size, h.last.put hf x, h.ne, h.vne, h.new, h.below.trans (hb.below h.below.size fun k hk => by rw [hk]; exact h.new.2.2.2)⟩
theorem FoMem.newLast (h : FoMem w wr gt gc gd gl n v out next tag last) (t : TypeId) : FoMem w (wr.alloc (.cells (madeCells #[.int .i64 0] 8) t)) gt gc gd wr.heap.size n v out next tag (fun _ => 0) := by
 have hl := h.later ((Below.refl _ _).alloc (Nat.le_refl _) (.cells (madeCells #[.int .i64 0] 8) t))
 have h1 := h.tags.lt
 have h2 := h.came.lt
 have h3 := h.done.lt
 refine ⟨hl.own, hl.tags, hl.came, hl.done, nums_made wr 8 t, ⟨h.ne.1, h.ne.2.1, by omega, h.ne.2.2.2.1, by omega, by omega⟩, ⟨h.vne.1, h.vne.2.1, h.vne.2.2.1, fun e => ?_⟩, ⟨h.new.1, h.new.2.1, h.new.2.2.1, h.below.size⟩, hl.below⟩
 have := (ownsRow_lt h.own e).2
 omega
theorem FoMem.sent (h : FoMem w wr gt gc gd gl n v out next tag last) (b : Nat) (hb : b < n) {w1 w2 : World} {f t : Int} {g' cap : Nat} (hb1 : Below wr.heap.size wr w1)
  (h1 : w2.ownsRow w.heap.size 71 3 (.slice (some ⟨g', 0, none⟩) (out.length + 1) cap) (out.length + 1) (cellsS out ++ cellsS [⟨b, f, t⟩])) (h2 : w1.grownBy w2 v.ownBlock) (h3 : v.ownBlock = some g' ∨ g' = w1.heap.size) :
  FoMem w (w2.setCell ⟨gd, b, none⟩ (.bool true)) gt gc gd gl n (.slice (some ⟨g', 0, none⟩) (out.length + 1) cap) (out ++ [⟨b, f, t⟩]) next tag last := by
 have hg' : ∀ g, g < wr.heap.size → v.ownBlock ≠ some g → g' ≠ g := fun g hg hne e => by
  rcases h3 with h3 | h3
  · exact hne (by rw [h3, e])
  · have := hb1.size; omega
 have hb2 : But (fun k => v.ownBlock = some k) w1 w2 := ⟨h2.os, h2.tape, h2.output, h2.size, fun k hk hn => h2.block k hk (fun e => hn e.symm)⟩
 have hb12 : But (fun k => v.ownBlock = some k) wr w2 := (But.ofBelow hb1).trans hb2
 have hb3 := butOne w2 gd b (.bool true)
 have hd : DoneAt w2 gd n out := h.done.of_block (hb12.block gd h.done.lt h.vne.2.2.1) hb12.size
 have blk : ∀ g, g < wr.heap.size → g ≠ gd → v.ownBlock ≠ some g → (w2.setCell ⟨gd, b, none⟩ (.bool true)).heap[g]? = wr.heap[g]? := fun g hg e1 e2 => (hb3.block g (Nat.lt_of_lt_of_le hg hb12.size) e1).trans (hb12.block g hg e2)
 have hsz : wr.heap.size ≤ (w2.setCell ⟨gd, b, none⟩ (.bool true)).heap.size := Nat.le_trans hb12.size hb3.size
 refine ⟨?_, h.tags.of_block (blk gt h.tags.lt h.ne.2.1 h.vne.1) hsz, h.came.of_block (blk gc h.came.lt h.ne.2.2.2.1 h.vne.2.1) hsz, hd.put b hb f t, h.last.of_block (blk gl h.last.lt (fun e => h.ne.2.2.2.2.2 e.symm) h.vne.2.2.2) hsz, h.ne, ⟨fun e => hg' gt h.tags.lt h.vne.1 (Option.some.inj e), fun e => hg' gc h.came.lt h.vne.2.1 (Option.some.inj e), fun e => hg' gd h.done.lt h.vne.2.2.1 (Option.some.inj e), fun e => hg' gl h.last.lt h.vne.2.2.2 (Option.some.inj e)⟩, h.new, ?_⟩
 ·
  unfold OwnS
  rw [List.length_append, cellsS_append]
  exact ownsRow_of_block h1 (fun g hg hlt => hb3.block g hlt (fun e => hg' gd h.done.lt h.vne.2.2.1 (by rw [← e]; exact Option.some.inj hg)))
 · exact (h.below.trans (hb12.below h.below.size fun k hk => (ownsRow_lt h.own hk).1)).trans (hb3.below (Nat.le_trans h.below.size hb12.size) fun k hk => by rw [hk]; exact h.new.2.2.1)
end
theorem foMem_new (w : World) (n : Nat) (ti tb : TypeId) : FoMem w ((((w.alloc (.cells (madeCells #[.int .i64 0] n) ti)).alloc (.cells (madeCells #[.bool false] n) tb)).alloc (.cells (madeCells #[.bool false] n) tb)).alloc (.cells (madeCells #[.int .i64 0] 8) ti)) w.heap.size (w.heap.size + 1) (w.heap.size + 2) (w.heap.size + 3) n (.slice none 0 0) [] 0 (fun _ => 0) (fun _ => 0) := by
 obtain ⟨w1, hw1⟩ : ∃ w1, w.alloc (.cells (madeCells #[.int .i64 0] n) ti) = w1 := ⟨_, rfl⟩
 obtain ⟨w2, hw2⟩ : ∃ w2, w1.alloc (.cells (madeCells #[.bool false] n) tb) = w2 := ⟨_, rfl⟩
 obtain ⟨w3, hw3⟩ : ∃ w3, w2.alloc (.cells (madeCells #[.bool false] n) tb) = w3 := ⟨_, rfl⟩
 obtain ⟨w4, hw4⟩ : ∃ w4, w3.alloc (.cells (madeCells #[.int .i64 0] 8) ti) = w4 := ⟨_, rfl⟩
 have s1 : w1.heap.size = w.heap.size + 1 := by rw [← hw1]; simp
 have s2 : w2.heap.size = w.heap.size + 2 := by rw [← hw2]; simp [s1]
 have s3 : w3.heap.size = w.heap.size + 3 := by rw [← hw3]; simp [s2]
 have b1 : Below w.heap.size w w1 := by rw [← hw1]; exact (Below.refl _ _).alloc (Nat.le_refl _) _
 have b2 : Below w1.heap.size w1 w2 := by rw [← hw2]; exact (Below.refl _ _).alloc (Nat.le_refl _) _
 have b3 : Below w2.heap.size w2 w3 := by rw [← hw3]; exact (Below.refl _ _).alloc (Nat.le_refl _) _
 have b4 : Below w3.heap.size w3 w4 := by rw [← hw4]; exact (Below.refl _ _).alloc (Nat.le_refl _) _
 have t1 : NumsAt w1 w.heap.size n (fun _ => 0) := by rw [← hw1]; exact nums_made w n ti
 have t2 : CameAt w2 (w.heap.size + 1) n 0 := by rw [← hw2, ← s1]; exact came_made w1 n tb
 have t3 : DoneAt w3 (w.heap.size + 2) n [] := by rw [← hw3, ← s2]; exact done_made w2 n tb
 have t4 : NumsAt w4 (w.heap.size + 3) 8 (fun _ => 0) := by rw [← hw4, ← s3]; exact nums_made w3 8 ti
 rw [hw1, hw2, hw3, hw4]
 have b24 : Below w1.heap.size w1 w4 := (b2.trans (b3.mono b2.size)).trans (b4.mono (Nat.le_trans b2.size b3.size))
 have b34 : Below w2.heap.size w2 w4 := b3.trans (b4.mono b3.size)
 exact ⟨World.ownsRow_nil _ _ _ _, t1.of_block (b24.block _ t1.lt) b24.size, t2.of_block (b34.block _ t2.lt) b34.size, t3.of_block (b4.block _ t3.lt) b4.size, t4, by omega, ⟨(fun e => by cases e), (fun e => by cases e), (fun e => by cases e), fun e => by cases e⟩, by omega, b1.trans (b24.mono b1.size)⟩
def foLeft (ps : List Pk) (s : St FQ) : Nat := 2 * (ps.length - s.out.length) + if s.next < ps.length ∧ tickOf ps s.next ≤ s.now then 0 else 1
end Go.Proofs.YtnomdlclkpnjpaaGreatDoor
