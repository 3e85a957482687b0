/- Own facts, put together: no statement of its own. -/
import Derived.Test.YtibhkijaafdkoaaGreatDoorK23
import Derived.Test.YtibhkijaafdkoaaGreatDoorK30
import Derived.Test.YtibhkijaafdkoaaGreatDoorK16
import Derived.Test.YtibhkijaafdkoaaGreatDoorK27
import Derived.Test.YtibhkijaafdkoaaGreatDoorK13
import Derived.Test.YtibhkijaafdkoaaGreatDoorK19
import Derived.Test.YtibhkijaafdkoaaGreatDoorK18
import Derived.Test.YtibhkijaafdkoaaGreatDoorK09
import Derived.Deep.AppendLies
import Derived.Deep.RegionHeldLaw
import Derived.Deep.Cut
import Derived.Laws.StructEq
import Derived.BigQuiet
import Derived.Test.YtibhkijaafdkoaaGreatDoorK20
import Derived.Test.YtibhkijaafdkoaaGreatDoorK17
import Derived.Test.YtibhkijaafdkoaaGreatDoorK21
import Derived.Deep.DeepCutAuto
import Derived.Deep.RegionLaw
import Derived.Deep.RegionHeld3
import Derived.Deep.LoopGhost
import Derived.Deep.CutRange
import Derived.Test.YtibhkijaafdkoaaGreatDoorK24
import Derived.Test.YtibhkijaafdkoaaGreatDoorK22
import Derived.Test.YtibhkijaafdkoaaGreatDoorK26
import Derived.Test.YtibhkijaafdkoaaGreatDoorK28
namespace Go.Proofs.YtibhkijaafdkoaaGreatDoor
open Go.RowKit
structure NumsAt (w : World) (g n : Nat) (f : Nat → Int) : Prop where
 cell : ∀ i, i < n → w.cell? ⟨g, i, none⟩ = some (.int .i64 (f i))
 frozen : ∀ i, w.frozen? ⟨g, i, none⟩ = false
 lt : g < w.heap.size
section
variable {w w' : World} {g n : Nat} {f : Nat → Int}
theorem nums_made (w : World) (n : Nat) (t : TypeId) : NumsAt (w.alloc (.cells (madeCells #[.int .i64 0] n) t)) w.heap.size n (fun _ => 0) := by
 refine ⟨fun i hi => ?_, fun i => World.frozen?_alloc_new w _ _ i, by simp⟩
 rw [World.cell?_alloc_at _ _ _ _ rfl]
 exact made_get _ _ _ hi
theorem NumsAt.of_block (h : NumsAt w g n f) (hb : w'.heap[g]? = w.heap[g]?) (hs : w.heap.size ≤ w'.heap.size) : NumsAt w' g n f :=
 ⟨fun i hi => (World.cell?_of_block (a := ⟨g, i, none⟩) hb).trans (h.cell i hi), fun i => (World.frozen?_of_block (a := ⟨g, i, none⟩) hb).trans (h.frozen i), Nat.lt_of_lt_of_le h.lt hs⟩
theorem NumsAt.but {S : Nat → Prop} (h : NumsAt w g n f) (hb : But S w w') (hs : ¬ S g) : NumsAt w' g n f := h.of_block (hb.block g h.lt hs) hb.size
theorem NumsAt.put (h : NumsAt w g n f) {k : Nat} (hk : k < n) (x : Int) : NumsAt (w.setCell ⟨g, k, none⟩ (.int .i64 x)) g n (put1 f k x) := by
 refine ⟨fun i hi => ?_, fun i => by rw [World.frozen?_setCell]; exact h.frozen i, by simp [World.setCell]; exact h.lt⟩
 by_cases e : k = i
 ·
  subst e
  rw [World.cell?_setCell_same' _ _ _ (by rw [h.cell k hk]; rfl), put1_same]
 · rw [World.cell?_setCell_other _ _ _ _ (by intro e'; cases e'; exact e rfl), h.cell i hi, put1_other _ _ (fun e' => e e'.symm)]
end
structure FairCells (w : World) (g : Nat) (pv qv gv : Value) (gm : Nat) (cur : Int) (rv : Value) : Prop where
 c0 : w.cell? ⟨g, 0, none⟩ = some pv
 c1 : w.cell? ⟨g, 1, none⟩ = some qv
 c2 : w.cell? ⟨g, 2, none⟩ = some gv
 c3 : w.cell? ⟨g, 3, none⟩ = some (.map (some gm))
 c4 : w.cell? ⟨g, 4, none⟩ = some (.int .i64 cur)
 c5 : w.cell? ⟨g, 5, none⟩ = some rv
 free : ∀ i, w.frozen? ⟨g, i, none⟩ = false
section
variable {w w' : World} {g gm : Nat} {pv qv gv rv : Value} {cur : Int}
theorem FairCells.lt (h : FairCells w g pv qv gv gm cur rv) : g < w.heap.size := cell_lt h.c0
theorem FairCells.but {S : Nat → Prop} (h : FairCells w g pv qv gv gm cur rv) (hb : But S w w') (hs : ¬ S g) : FairCells w' g pv qv gv gm cur rv := by
 have e : ∀ i, w'.cell? ⟨g, i, none⟩ = w.cell? ⟨g, i, none⟩ := fun i => hb.cell (p := ⟨g, i, none⟩) h.lt hs
 exact ⟨by rw [e]; exact h.c0, by rw [e]; exact h.c1, by rw [e]; exact h.c2, by rw [e]; exact h.c3, by rw [e]; exact h.c4, by rw [e]; exact h.c5, fun i => by rw [hb.frozen (p := ⟨g, i, none⟩) h.lt hs]; exact h.free i⟩
theorem farF (w : World) (g i j : Nat) (v : Value) (h : i ≠ j) : (w.setCell ⟨g, i, none⟩ v).cell? ⟨g, j, none⟩ = w.cell? ⟨g, j, none⟩ :=
 World.cell?_setCell_other _ _ _ _ (fun e => h (by injection e))
theorem FairCells.setV (h : FairCells w g pv qv gv gm cur rv) (x : Int) : FairCells (w.setCell ⟨g, 4, none⟩ (.int .i64 x)) g pv qv gv gm x rv :=
 ⟨by rw [farF _ _ _ _ _ (by omega)]; exact h.c0, by rw [farF _ _ _ _ _ (by omega)]; exact h.c1, by rw [farF _ _ _ _ _ (by omega)]; exact h.c2, by rw [farF _ _ _ _ _ (by omega)]; exact h.c3, World.cell?_setCell_same _ _ _ h.c4, by rw [farF _ _ _ _ _ (by omega)]; exact h.c5, fun i => by rw [World.frozen?_setCell]; exact h.free i⟩
theorem FairCells.setR (h : FairCells w g pv qv gv gm cur rv) (v : Value) : FairCells (w.setCell ⟨g, 5, none⟩ v) g pv qv gv gm cur v :=
 ⟨by rw [farF _ _ _ _ _ (by omega)]; exact h.c0, by rw [farF _ _ _ _ _ (by omega)]; exact h.c1, by rw [farF _ _ _ _ _ (by omega)]; exact h.c2, by rw [farF _ _ _ _ _ (by omega)]; exact h.c3, by rw [farF _ _ _ _ _ (by omega)]; exact h.c4, World.cell?_setCell_same _ _ _ h.c5, fun i => by rw [World.frozen?_setCell]; exact h.free i⟩
end
def fairFoot (g gt gm : Nat) (rv : Value) (k : Nat) : Prop := k = g ∨ k = gt ∨ k = gm ∨ rv.ownBlock = some k
structure FairAt (B g gt gm n : Nat) (pv qv : Value) (w : World) (rv : Value) (q : FQ) : Prop where
 cells : FairCells w g pv qv (.slice (some ⟨gt, 0, none⟩) n n) gm q.v rv
 given : NumsAt w gt n q.tag
 tells : Tells Tryz.prog 3 3 w gm q.last
 row : w.ownsRow B 3 1 rv q.q.length (ints (asInts q.q))
 apart : gt ≠ g ∧ gm ≠ g ∧ gm ≠ gt
 rapart : rv.ownBlock ≠ some g ∧ rv.ownBlock ≠ some gt ∧ rv.ownBlock ≠ some gm
 le : B ≤ g ∧ B ≤ gt ∧ B ≤ gm
section
variable {B g gt gm n : Nat} {pv qv : Value} {w w' : World} {rv : Value} {q : FQ}
theorem FairAt.foot (h : FairAt B g gt gm n pv qv w rv q) : ∀ k, fairFoot g gt gm rv k → B ≤ k ∧ k < w.heap.size := by
 rintro k (rfl | rfl | rfl | hk)
 · exact ⟨h.le.1, h.cells.lt⟩
 · exact ⟨h.le.2.1, h.given.lt⟩
 · exact ⟨h.le.2.2, h.tells.lt⟩
 · exact ownsRow_lt h.row hk
theorem FairAt.but {S : Nat → Prop} (h : FairAt B g gt gm n pv qv w rv q) (hb : But S w w') (hs : ∀ k, fairFoot g gt gm rv k → ¬ S k) : FairAt B g gt gm n pv qv w' rv q :=
 ⟨h.cells.but hb (hs g (.inl rfl)), h.given.but hb (hs gt (.inr (.inl rfl))), h.tells.but hb (hs gm (.inr (.inr (.inl rfl)))), ownsRow_of_block h.row (fun k hv hk => hb.block k hk (hs k (.inr (.inr (.inr hv))))), h.apart, h.rapart, h.le⟩
theorem FairAt.later (h : FairAt B g gt gm n pv qv w rv q) (hb : Below w.heap.size w w') : FairAt B g gt gm n pv qv w' rv q := h.but (S := fun _ => False) (.ofBelow hb) (fun _ _ h => h)
theorem butF (w : World) (g i : Nat) (v : Value) : But (fun k => k = g) w (w.setCell ⟨g, i, none⟩ v) := But.setCell (S := fun k => k = g) (But.refl _ w) (p := ⟨g, i, none⟩) rfl v
theorem FairAt.setTag (h : FairAt B g gt gm n pv qv w rv q) {k : Nat} (hk : k < n) (x : Int) : FairAt B g gt gm n pv qv (w.setCell ⟨gt, k, none⟩ (.int .i64 x)) rv { q with tag := put1 q.tag k x } := by
 have hb := butF w gt k (.int .i64 x)
 exact ⟨h.cells.but hb (fun e => h.apart.1 e.symm), h.given.put hk x, h.tells.but hb h.apart.2.2, ownsRow_of_block h.row (fun k hv hk => hb.block k hk (fun e => h.rapart.2.1 (by rw [← e]; exact hv))), h.apart, h.rapart, h.le⟩
theorem FairAt.setLast (h : FairAt B g gt gm n pv qv w rv q) {l : Nat → Int} (hg : w.grownBy w' (some gm)) (ht : Tells Tryz.prog 3 3 w' gm l) : FairAt B g gt gm n pv qv w' rv { q with last := l } ∧ But (fun k => k = gm) w w' := by
 have hb : But (fun k => k = gm) w w' := ⟨hg.os, hg.tape, hg.output, hg.size, fun k hk hn => hg.block k hk (fun e => hn (Option.some.inj e))⟩
 exact ⟨⟨h.cells.but hb (fun e => h.apart.2.1 e.symm), h.given.but hb (fun e => h.apart.2.2 e.symm), ht, ownsRow_of_block h.row (fun k hv hk => hb.block k hk (fun e => h.rapart.2.2 (by rw [← e]; exact hv))), h.apart, h.rapart, h.le⟩, hb⟩
theorem FairAt.setV (h : FairAt B g gt gm n pv qv w rv q) (x : Int) : FairAt B g gt gm n pv qv (w.setCell ⟨g, 4, none⟩ (.int .i64 x)) rv { q with v := x } := by
 have hb := butF w g 4 (.int .i64 x)
 exact ⟨h.cells.setV x, h.given.but hb h.apart.1, h.tells.but hb h.apart.2.1, ownsRow_of_block h.row (fun k hv hk => hb.block k hk (fun e => h.rapart.1 (by rw [← e]; exact hv))), h.apart, h.rapart, h.le⟩
theorem FairAt.setR (h : FairAt B g gt gm n pv qv w rv q) {w2 : World} {v' : Value} {r' : List Nat} (hbut : But (fun k => rv.ownBlock = some k) w w2) (hown : w2.ownsRow B 3 1 v' r'.length (ints (asInts r'))) (hnew : ∀ k, v'.ownBlock = some k → rv.ownBlock = some k ∨ w.heap.size ≤ k) :
  FairAt B g gt gm n pv qv (w2.setCell ⟨g, 5, none⟩ v') v' { q with q := r' } := by
 have hne : ∀ j, j < w.heap.size → rv.ownBlock ≠ some j → v'.ownBlock ≠ some j := fun j hj hr e => by
  rcases hnew j e with h' | h'
  · exact hr h'
  · omega
 have hg := hne g h.cells.lt h.rapart.1
 have hb := butF w2 g 5 v'
 exact ⟨(h.cells.but hbut (fun e => h.rapart.1 e)).setR v', (h.given.but hbut (fun e => h.rapart.2.1 e)).but hb h.apart.1, (h.tells.but hbut (fun e => h.rapart.2.2 e)).but hb h.apart.2.1, ownsRow_of_block hown (fun k hv hk => hb.block k hk (fun e => hg (by rw [← e]; exact hv))), h.apart, ⟨hg, hne gt h.given.lt h.rapart.2.1, hne gm h.tells.lt h.rapart.2.2⟩, h.le⟩
end
structure HeldW (B : Nat) (W0 : World) (g gt gm n : Nat) (pv qv : Value) (w : World) (D : Nat → Prop) (q : FQ) : Prop where
 env : Below B W0 w
 parts : ∃ rv, FairAt B g gt gm n pv qv w rv q ∧ ∀ k, D k ↔ fairFoot g gt gm rv k
section
variable {B : Nat} {W0 : World} {g gt gm n : Nat} {pv qv : Value} {w w' : World} {D : Nat → Prop} {q : FQ}
theorem HeldW.foot (h : HeldW B W0 g gt gm n pv qv w D q) : ∀ k, D k → B ≤ k ∧ k < w.heap.size := by
 obtain ⟨rv, h1, h2⟩ := h.parts
 exact fun k hk => h1.foot k ((h2 k).1 hk)
theorem HeldW.le (h : HeldW B W0 g gt gm n pv qv w D q) : B ≤ w.heap.size := by
 obtain ⟨rv, h1, h2⟩ := h.parts
 have := h1.cells.lt
 have := h1.le.1
 omega
theorem HeldW.but {S : Nat → Prop} (h : HeldW B W0 g gt gm n pv qv w D q) (hb : But S w w') (hs : ∀ k, D k → ¬ S k) (hB : ∀ k, S k → B ≤ k) : HeldW B W0 g gt gm n pv qv w' D q := by
 obtain ⟨rv, h1, h2⟩ := h.parts
 exact ⟨h.env.trans (hb.below h.le hB), rv, h1.but hb (fun k hk => hs k ((h2 k).2 hk)), h2⟩
theorem HeldW.later (h : HeldW B W0 g gt gm n pv qv w D q) (hb : Below w.heap.size w w') : HeldW B W0 g gt gm n pv qv w' D q := h.but (S := fun _ => False) (.ofBelow hb) (fun _ _ h => h) (fun _ h => h.elim)
theorem HeldW.alloc (h : HeldW B W0 g gt gm n pv qv w D q) (o : Obj) : HeldW B W0 g gt gm n pv qv (w.alloc o) D q := h.later ((Below.refl _ _).alloc (Nat.le_refl _) _)
theorem fairMem (B : Nat) (W0 : World) (g gt gm n : Nat) (pv qv : Value) : QueMem (HeldW B W0 g gt gm n pv qv) B := ⟨fun _ _ _ h => h.foot, fun _ _ _ _ _ h hb hs hB => h.but hb hs hB⟩
theorem HeldW.leaves {rv rv' : Value} {q' : FQ} (h : HeldW B W0 g gt gm n pv qv w D q) (hD : ∀ k, D k ↔ fairFoot g gt gm rv k) (hbut : But D w w') (hat : FairAt B g gt gm n pv qv w' rv' q') (hnew : ∀ k, rv'.ownBlock = some k → rv.ownBlock = some k ∨ w.heap.size ≤ k) : QueLeft (HeldW B W0 g gt gm n pv qv) w w' D q' :=
 ⟨fairFoot g gt gm rv', ⟨h.env.trans (hbut.below h.le fun k hk => (h.foot k hk).1), rv', hat, fun _ => Iff.rfl⟩, hbut, fun k hk => by
  rcases hk with hk | hk | hk | hk
  · exact .inl ((hD k).2 (.inl hk))
  · exact .inl ((hD k).2 (.inr (.inl hk)))
  · exact .inl ((hD k).2 (.inr (.inr (.inl hk))))
  ·
   rcases hnew k hk with h' | h'
   · exact .inl ((hD k).2 (.inr (.inr (.inr h'))))
   · exact .inr h'⟩
end
end Go.Proofs.YtibhkijaafdkoaaGreatDoor

namespace Go.Proofs.YtibhkijaafdkoaaGreatDoor
open Go.RowKit
structure FoMem (w wr : World) (gt gc gd gl n : Nat) (v : Value) (out : List Sn) (next : Nat) (tag last : Nat → Int) : Prop where
 own : OwnS wr w.heap.size v out
 tags : NumsAt wr gt n tag
 came : CameAt wr gc n next
 done : DoneAt wr gd n out
 last : NumsAt wr gl 8 last
 ne : gt ≠ gc ∧ gt ≠ gd ∧ gt ≠ gl ∧ gc ≠ gd ∧ gc ≠ gl ∧ gd ≠ gl
 vne : v.ownBlock ≠ some gt ∧ v.ownBlock ≠ some gc ∧ v.ownBlock ≠ some gd ∧ v.ownBlock ≠ some gl
 new : w.heap.size ≤ gt ∧ w.heap.size ≤ gc ∧ w.heap.size ≤ gd ∧ w.heap.size ≤ gl
 below : Below w.heap.size w wr
section
variable {w wr wr' : World} {gt gc gd gl n : Nat} {v : Value} {out : List Sn} {next : Nat} {tag last : Nat → Int}
theorem FoMem.later (h : FoMem w wr gt gc gd gl n v out next tag last) (hb : Below wr.heap.size wr wr') : FoMem w wr' gt gc gd gl n v out next tag last :=
 ⟨ownsRow_of_block h.own (fun g _ hg => hb.block g hg), h.tags.of_block (hb.block gt h.tags.lt) hb.size, h.came.of_block (hb.block gc h.came.lt) hb.size, h.done.of_block (hb.block gd h.done.lt) hb.size, h.last.of_block (hb.block gl h.last.lt) hb.size, h.ne, h.vne, h.new, h.below.trans (hb.mono h.below.size)⟩
end
end Go.Proofs.YtibhkijaafdkoaaGreatDoor

namespace Go.Proofs.YtibhkijaafdkoaaGreatDoor
structure Rb where
 burst : Int
 rate : Int
 has : Int
 tick : Int
 last : Int
end Go.Proofs.YtibhkijaafdkoaaGreatDoor

namespace Go.Proofs.YtibhkijaafdkoaaGreatDoor
open Go.RowKit
structure RbAt (w : World) (g : Nat) (m : Rb) : Prop where
 c0 : w.cell? ⟨g, 0, none⟩ = some (.int .i64 m.burst)
 c1 : w.cell? ⟨g, 1, none⟩ = some (.int .i64 m.rate)
 c2 : w.cell? ⟨g, 2, none⟩ = some (.int .i64 m.has)
 c3 : w.cell? ⟨g, 3, none⟩ = some (.int .i64 m.tick)
 c4 : w.cell? ⟨g, 4, none⟩ = some (.int .i64 m.last)
 f2 : w.frozen? ⟨g, 2, none⟩ = false
 f3 : w.frozen? ⟨g, 3, none⟩ = false
 f4 : w.frozen? ⟨g, 4, none⟩ = false
theorem RbAt.lt {w : World} {g : Nat} {m : Rb} (h : RbAt w g m) : g < w.heap.size := cell_lt h.c0
theorem RbAt.but {S : Nat → Prop} {w w' : World} {g : Nat} {m : Rb} (h : RbAt w g m) (hb : But S w w') (hs : ¬ S g) : RbAt w' g m :=
 have l := h.lt
 ⟨by rw [hb.cell (p := ⟨g, 0, none⟩) l hs]; exact h.c0, by rw [hb.cell (p := ⟨g, 1, none⟩) l hs]; exact h.c1, by rw [hb.cell (p := ⟨g, 2, none⟩) l hs]; exact h.c2, by rw [hb.cell (p := ⟨g, 3, none⟩) l hs]; exact h.c3, by rw [hb.cell (p := ⟨g, 4, none⟩) l hs]; exact h.c4,
  by rw [hb.frozen (p := ⟨g, 2, none⟩) l hs]; exact h.f2, by rw [hb.frozen (p := ⟨g, 3, none⟩) l hs]; exact h.f3, by rw [hb.frozen (p := ⟨g, 4, none⟩) l hs]; exact h.f4⟩
theorem RbAt.below {w w' : World} {g : Nat} {m : Rb} (h : RbAt w g m) (hb : Below w.heap.size w w') : RbAt w' g m := h.but (S := fun _ => False) (.ofBelow hb) id
end Go.Proofs.YtibhkijaafdkoaaGreatDoor

namespace Go.Proofs.YtibhkijaafdkoaaGreatDoor
open Go.RowKit
structure Seen (w0 wr : World) (g : Nat) (x : Int) (l : Int) (b : Bk) : Prop where
 at_ : BkAt wr g b
 ok : b.Ok
 last : b.last = l
 most : b.most = x * 1000
 below : Below w0.heap.size w0 wr
theorem Seen.later {w0 wr w' : World} {g : Nat} {x l : Int} {b : Bk} (h : Seen w0 wr g x l b) (hb : Below wr.heap.size wr w') : Seen w0 w' g x l b :=
 ⟨h.at_.below hb, h.ok, h.last, h.most, h.below.trans (hb.mono h.below.size)⟩
end Go.Proofs.YtibhkijaafdkoaaGreatDoor

namespace Go.Proofs.YtibhkijaafdkoaaGreatDoor
open Go.RowKit
theorem ownsRow_but {S : Nat → Prop} {w w' : World} {base : Nat} {e : TypeId} {size : Nat} {v : Value} {n : Nat} {xs : List Value} (h : w.ownsRow base e size v n xs) (hb : But S w w') (hs : ∀ k, v.ownBlock = some k → ¬ S k) : w'.ownsRow base e size v n xs := by
 have hlt := World.ownsRow.lt h
 obtain ⟨h1, h2 | ⟨g, cap, cur, rfl, hB, hg, r⟩⟩ := h
 · exact ⟨h1, .inl h2⟩
 · exact ⟨h1, .inr ⟨g, cap, cur, rfl, hB, by rw [hb.block g (hlt g rfl).2 (hs g rfl)]; exact hg, r⟩⟩
end Go.Proofs.YtibhkijaafdkoaaGreatDoor

namespace Go.Proofs.YtibhkijaafdkoaaGreatDoor
open Go.RowKit
def ptrs (hs : List Nat) : List Value := hs.map fun h => .pointer (some ⟨h, 0, none⟩)
structure RsAt (w wr : World) (v : Value) (hs : List Nat) (ms : List Rb) : Prop where
 len : hs.length = ms.length
 own : wr.ownsRow w.heap.size 167 1 v hs.length (ptrs hs)
 rb : ∀ (i : Nat) h m, hs[i]? = some h → ms[i]? = some m → RbAt wr h m
 new : ∀ h, h ∈ hs → w.heap.size ≤ h ∧ v.ownBlock ≠ some h
 one : ∀ (i j : Nat) h, hs[i]? = some h → hs[j]? = some h → i = j
theorem RsAt.but {S : Nat → Prop} {w wr w' : World} {v : Value} {hs : List Nat} {ms : List Rb} (h : RsAt w wr v hs ms) (hb : But S wr w') (hv : ∀ k, v.ownBlock = some k → ¬ S k) (hh : ∀ q, q ∈ hs → ¬ S q) : RsAt w w' v hs ms :=
 ⟨h.len, ownsRow_but h.own hb hv, fun i q m hi hm => (h.rb i q m hi hm).but hb (hh q (List.mem_of_getElem? hi)), h.new, h.one⟩
theorem RsAt.below {w wr w' : World} {v : Value} {hs : List Nat} {ms : List Rb} (h : RsAt w wr v hs ms) (hb : Below wr.heap.size wr w') : RsAt w w' v hs ms :=
 h.but (S := fun _ => False) (.ofBelow hb) (fun _ _ => id) (fun _ _ => id)
end Go.Proofs.YtibhkijaafdkoaaGreatDoor

namespace Go.Proofs.YtibhkijaafdkoaaGreatDoor
open Go.RowKit
structure LocAt (w : World) (C : Nat) (x y z : Int) : Prop where
 c0 : w.cell? ⟨C, 0, none⟩ = some (.int .i64 x)
 c1 : w.cell? ⟨C, 1, none⟩ = some (.int .i64 y)
 c2 : w.cell? ⟨C, 2, none⟩ = some (.int .i64 z)
 f2 : w.frozen? ⟨C, 2, none⟩ = false
theorem LocAt.but {S : Nat → Prop} {w w' : World} {C : Nat} {x y z : Int} (h : LocAt w C x y z) (hb : But S w w') (hs : ¬ S C) : LocAt w' C x y z :=
 have l := cell_lt h.c0
 ⟨by rw [hb.cell (p := ⟨C, 0, none⟩) l hs]; exact h.c0, by rw [hb.cell (p := ⟨C, 1, none⟩) l hs]; exact h.c1, by rw [hb.cell (p := ⟨C, 2, none⟩) l hs]; exact h.c2, by rw [hb.frozen (p := ⟨C, 2, none⟩) l hs]; exact h.f2⟩
theorem LocAt.below {w w' : World} {C : Nat} {x y z : Int} (h : LocAt w C x y z) (hb : Below w.heap.size w w') : LocAt w' C x y z := h.but (S := fun _ => False) (.ofBelow hb) id
end Go.Proofs.YtibhkijaafdkoaaGreatDoor

namespace Go.Proofs.YtibhkijaafdkoaaGreatDoor
open Go.RowKit
theorem Errs9.four {w : World} {ad : Nat → Addr} (h : Errs9 w ad) : Errs4 w ad := ⟨h.c1, h.c2, h.c3, h.c4⟩
end Go.Proofs.YtibhkijaafdkoaaGreatDoor

namespace Go.Proofs.YtibhkijaafdkoaaGreatDoor
open Go.RowKit
structure Ac where
 kind : ByteArray
 tick : Int
 size : Int
def LiesA (w : World) (a : Option Addr) (q : List Ac) : Prop :=
 q = [] ∨ ∃ b off, a = some ⟨b, off, none⟩ ∧ b < w.heap.size ∧ ∀ (i : Nat) p, q[i]? = some p → w.cell? ⟨b, off + i * 3, none⟩ = some (.string p.kind) ∧ w.cell? ⟨b, off + i * 3 + 1, none⟩ = some (.int .i64 p.tick) ∧ w.cell? ⟨b, off + i * 3 + 2, none⟩ = some (.int .i64 p.size)
theorem LiesA.below {w w' : World} {a : Option Addr} {q : List Ac} (h : LiesA w a q) (hb : Below w.heap.size w w') : LiesA w' a q := by
 rcases h with rfl | ⟨b, off, rfl, hlt, hc⟩
 · exact .inl rfl
 ·
  refine .inr ⟨b, off, rfl, Nat.lt_of_lt_of_le hlt hb.size, fun i p hi => ?_⟩
  have := hc i p hi
  exact ⟨cell_later hb this.1, cell_later hb this.2.1, cell_later hb this.2.2⟩
end Go.Proofs.YtibhkijaafdkoaaGreatDoor

namespace Go.Proofs.YtibhkijaafdkoaaGreatDoor
open Go.RowKit
theorem never_one {ls : List (Int × Int)} {ps : List Pk} {j j' : Nat} {q q' : Pk} {s s' : Sh} (h1 : ps[j]? = some q) (h2 : shape ls (ps.take j) = some s) (h3 : shStep s q = none) (h1' : ps[j']? = some q') (h2' : shape ls (ps.take j') = some s') (h3' : shStep s' q' = none) : j = j' := by
 have key : ∀ (a b : Nat) (p : Pk) (u v : Sh), a < b → ps[a]? = some p → shape ls (ps.take a) = some u → shStep u p = none → shape ls (ps.take b) = some v → False := fun a b p u v hab e1 e2 e3 e4 => by
  have := shape_stuck (ls := ls) (ps := ps.take b) (j := a) (p := p) (s := u) (by rw [List.getElem?_take_of_lt hab]; exact e1) (by rw [List.take_take, Nat.min_eq_left (by omega)]; exact e2) e3
  rw [this] at e4; cases e4
 rcases Nat.lt_trichotomy j j' with h | h | h
 · exact (key j j' q s s' h h1 h2 h3 h2').elim
 · exact h
 · exact (key j' j q' s' s h h1' h2' h3' h2).elim
end Go.Proofs.YtibhkijaafdkoaaGreatDoor

namespace Go.Proofs.YtibhkijaafdkoaaGreatDoor
section
variable {cs : Nat → List (Int × Int)} {ps : List Pk}
theorem NeverAt.one (ho : OkPks ps) {i j : Nat} (h : NeverAt cs ps i) (k : NeverAt cs ps j) (hf : flowOf ps i = flowOf ps j) : i = j := by
 obtain ⟨p, s, h1, h2, h3, h4⟩ := h
 obtain ⟨q, t, k1, k2, k3, k4⟩ := k
 have hi := lt_of_get h1
 have hj := lt_of_get k1
 have ai := num_at ho hi (Nat.le_refl _)
 have aj := num_at ho hj (Nat.le_refl _)
 rw [← hf] at k2 k3 aj
 have hown := own_num ho (flowOf ps i) ps.length (Nat.le_refl _)
 have gi := (hown.2 _ _ ai).2.2.2
 have gj := (hown.2 _ _ aj).2.2.2
 have e := never_one (gi.trans h1) h3 h4 (gj.trans k1) k3 k4
 rw [e, aj] at ai
 exact (Option.some.inj ai).symm
theorem never_num (ho : OkPks ps) {f : Nat} (hc : cs f ≠ []) {r i : Nat} {p : Pk} {s : Sh} (hr : (numTo ps f ps.length)[r]? = some i) (h1 : (ownTo ps f ps.length)[r]? = some p) (h2 : shape (cs f) ((ownTo ps f ps.length).take r) = some s) (h3 : shStep s p = none) : NeverAt cs ps i ∧ flowOf ps i = f := by
 obtain ⟨g1, g2, g3, g4⟩ := (own_num ho f ps.length (Nat.le_refl _)).2 r i hr
 exact ⟨⟨p, s, g4.symm.trans h1, by rw [g2]; exact hc, by rw [g2, g3]; exact h2, h3⟩, g2⟩
theorem never_not (ho : OkPks ps) {f : Nat} {out : List Pk} (hs : shapedFl cs ps f = some out) {j : Nat} (hj : flowOf ps j = f) : ¬ NeverAt cs ps j := by
 rintro ⟨p, s, h1, h2, h3, h4⟩
 rw [hj] at h2 h3
 unfold shapedFl at hs
 rw [if_neg h2] at hs
 have hjl := lt_of_get h1
 have aj := num_at ho hjl (Nat.le_refl _)
 rw [hj] at aj
 have gj := ((own_num ho f ps.length (Nat.le_refl _)).2 _ _ aj).2.2.2
 rw [shape_stuck (gj.trans h1) h3 h4] at hs
 cases hs
def FlowsDone (cs : Nat → List (Int × Int)) (ps : List Pk) (f : Nat) (z : Int) (a : Nat → Int) : Prop :=
 (z = -1 ∧ ∀ g, g < f → ∃ out, shapedFl cs ps g = some out ∧ ∀ (r i : Nat), (numTo ps g ps.length)[r]? = some i → a i = tickOf out r) ∨
  (∃ i : Nat, z = i ∧ NeverAt cs ps i ∧ flowOf ps i < f ∧ ∀ j, NeverAt cs ps j → flowOf ps j < f → i ≤ j)
theorem flowsDone_none (a : Nat → Int) : FlowsDone cs ps 0 (-1) a := .inl ⟨rfl, fun _ h => absurd h (Nat.not_lt_zero _)⟩
theorem FlowsDone.range {f : Nat} {z : Int} {a : Nat → Int} (h : FlowsDone cs ps f z a) : z = -1 ∨ ∃ i : Nat, z = i ∧ i < ps.length := by
 rcases h with ⟨h, -⟩ | ⟨i, h, ⟨p, s, h1, -⟩, -⟩
 · exact .inl h
 · exact .inr ⟨i, h, lt_of_get h1⟩
theorem FlowsDone.shaped (ho : OkPks ps) {f : Nat} {z : Int} {a a' : Nat → Int} {out : List Pk} (h : FlowsDone cs ps f z a) (hs : shapedFl cs ps f = some out) (h1 : ∀ (r i : Nat), (numTo ps f ps.length)[r]? = some i → a' i = tickOf out r) (h2 : ∀ i, i ∉ numTo ps f ps.length → a' i = a i) : FlowsDone cs ps (f + 1) z a' := by
 rcases h with ⟨rfl, h⟩ | ⟨i, rfl, hi, hf, hall⟩
 ·
  refine .inl ⟨rfl, fun g hg => ?_⟩
  rcases Nat.lt_or_ge g f with h' | h'
  ·
   obtain ⟨o, e1, e2⟩ := h g h'
   refine ⟨o, e1, fun r i hr => ?_⟩
   rw [h2 i ?_]
   · exact e2 r i hr
   ·
    intro hm
    have m1 := num_mem.1 (List.mem_of_getElem? hr)
    have m2 := num_mem.1 hm
    omega
  ·
   obtain rfl : g = f := by omega
   exact ⟨out, hs, h1⟩
 ·
  refine .inr ⟨i, rfl, hi, by omega, fun j hj hjf => ?_⟩
  rcases Nat.lt_or_ge (flowOf ps j) f with h' | h'
  · exact hall j hj h'
  · exact absurd hj (never_not ho hs (by omega))
theorem FlowsDone.stuck (ho : OkPks ps) {f : Nat} {z : Int} {a a' : Nat → Int} {n : Nat} (h : FlowsDone cs ps f z a) (hn : NeverAt cs ps n) (hf : flowOf ps n = f) : FlowsDone cs ps (f + 1) (if z < 0 ∨ (n : Int) < z then (n : Int) else z) a' := by
 have self : ∀ j, NeverAt cs ps j → flowOf ps j < f + 1 → flowOf ps j < f ∨ j = n := fun j hj hjf => by
  rcases Nat.lt_or_ge (flowOf ps j) f with h' | h'
  · exact .inl h'
  · exact .inr (hj.one ho hn (by omega))
 rcases h with ⟨rfl, h⟩ | ⟨i, rfl, hi, hif, hall⟩
 ·
  rw [if_pos (.inl (by omega))]
  refine .inr ⟨n, rfl, hn, by omega, fun j hj hjf => ?_⟩
  rcases self j hj hjf with h' | h'
  ·
   obtain ⟨out, e1, -⟩ := h _ h'
   exact absurd hj (never_not ho e1 rfl)
  · omega
 ·
  by_cases hlt : n < i
  ·
   rw [if_pos (.inr (by omega))]
   refine .inr ⟨n, rfl, hn, by omega, fun j hj hjf => ?_⟩
   rcases self j hj hjf with h' | h'
   ·
    have := hall j hj h'
    omega
   · omega
  ·
   rw [if_neg (by omega)]
   refine .inr ⟨i, rfl, hi, by omega, fun j hj hjf => ?_⟩
   rcases self j hj hjf with h' | h'
   · exact hall j hj h'
   · omega
end
end Go.Proofs.YtibhkijaafdkoaaGreatDoor

namespace Go.Proofs.YtibhkijaafdkoaaGreatDoor
open Go.RowKit
structure FillAt (w W wr : World) (D n : Nat) (a : Nat → Int) : Prop where
 but : But (fun b => b = D) W wr
 at_ : NumsAt wr D n a
 below : Below w.heap.size w W
 new : w.heap.size ≤ D
section
variable {w W wr wr' : World} {D n : Nat} {a : Nat → Int}
theorem FillAt.later (h : FillAt w W wr D n a) (hb : Below wr.heap.size wr wr') : FillAt w W wr' D n a := ⟨h.but.trans (.ofBelow hb), h.at_.of_block (hb.block D h.at_.lt) hb.size, h.below, h.new⟩
end
end Go.Proofs.YtibhkijaafdkoaaGreatDoor

namespace Go.Proofs.YtibhkijaafdkoaaGreatDoor
open Go.RowKit
def AddTo (S : List (Int × Int) → List (Int × Int) → Int → List (Int × Int) → Prop) (cs : List (List (Int × Int))) : Nat → List (Int × Int) → Prop
 | 0, _ => False
 | 1, L => L = curveFl cs 0
 | k + 2, L => ∃ M, AddTo S cs (k + 1) M ∧ curveFl cs (k + 1) ≠ [] ∧ S M (curveFl cs (k + 1)) 0 L
theorem addTo_next {S : List (Int × Int) → List (Int × Int) → Int → List (Int × Int) → Prop} {cs : List (List (Int × Int))} {k : Nat} {M L : List (Int × Int)} (h : AddTo S cs k M) (h1 : curveFl cs k ≠ []) (h2 : S M (curveFl cs k) 0 L) : AddTo S cs (k + 1) L := by
 cases k with
 | zero => exact h.elim
 | succ k => exact ⟨M, h, h1, h2⟩
def CurveAll (S : List (Int × Int) → List (Int × Int) → Int → List (Int × Int) → Prop) (cs : List (List (Int × Int))) (L : List (Int × Int)) : Prop := curveFl cs 0 ≠ [] ∧ ∃ k, 1 ≤ k ∧ k ≤ 8 ∧ AddTo S cs k L ∧ (k = 8 ∨ curveFl cs k = [])
def CurveNone (S : List (Int × Int) → List (Int × Int) → Int → List (Int × Int) → Prop) (cs : List (List (Int × Int))) : Prop := curveFl cs 0 = [] ∨ (curveFl cs 0 ≠ [] ∧ ∃ k M code L, 1 ≤ k ∧ k < 8 ∧ AddTo S cs k M ∧ curveFl cs k ≠ [] ∧ S M (curveFl cs k) code L ∧ code ≠ 0)
structure SumWay (S : List (Int × Int) → List (Int × Int) → Int → List (Int × Int) → Prop) : Prop where
 ok : ∀ la lb L, okCurve la → okCurve lb → S la lb 0 L → okCurve L
 num : ∀ la lb c L, S la lb c L → 0 ≤ c ∧ c ≤ 9
 one : ∀ la lb c L c' L', okCurve la → okCurve lb → S la lb c L → S la lb c' L' → c = c' ∧ L = L'
theorem addTo_ok {S : List (Int × Int) → List (Int × Int) → Int → List (Int × Int) → Prop} (hS : SumWay S) {cs : List (List (Int × Int))} (hc : CurvesOk (curveFl cs)) (h0 : curveFl cs 0 ≠ []) : ∀ k L, k ≤ 8 → AddTo S cs k L → okCurve L
 | 0, L, _, h => h.elim
 | 1, L, _, h => by
  have h : L = curveFl cs 0 := h
  rcases hc 0 (by decide) with e | e
  · exact absurd e h0
  · rw [h]; exact e
 | k + 2, L, hk, ⟨M, h1, h2, h3⟩ => by
  rcases hc (k + 1) (by omega) with e | e
  · exact absurd e h2
  · exact hS.ok M _ L (addTo_ok hS hc h0 (k + 1) M (by omega) h1) e h3
theorem addTo_some {S : List (Int × Int) → List (Int × Int) → Int → List (Int × Int) → Prop} {cs : List (List (Int × Int))} : ∀ k L, AddTo S cs k L → ∀ j, 1 ≤ j → j < k → curveFl cs j ≠ []
 | 0, L, h, _, _, _ => h.elim
 | 1, L, _, j, h1, h2 => by omega
 | k + 2, L, ⟨M, h1, h2, h3⟩, j, g1, g2 => by
  by_cases e : j = k + 1
  · rw [e]; exact h2
  · exact addTo_some (k + 1) M h1 j g1 (by omega)
end Go.Proofs.YtibhkijaafdkoaaGreatDoor

namespace Go.Proofs.YtibhkijaafdkoaaGreatDoor
open Go.RowKit
def numBy (Dd Db : Int → List (Int × Int) → Option Int → Prop) (k : Nat) (per : Int) (L : List (Int × Int)) (o : Option Int) : Prop := (k = 1 ∧ Dd per L o) ∨ (k ≠ 1 ∧ Db per L o)
def BoundIs (S : List (Int × Int) → List (Int × Int) → Int → List (Int × Int) → Prop) (Dd Db : Int → List (Int × Int) → Option Int → Prop) (cs : List (List (Int × Int))) (k : Nat) (per : Int) (o : Option Int) : Prop := (CurveNone S cs ∧ o = none) ∨ ∃ L, CurveAll S cs L ∧ numBy Dd Db k per L o
def NumEnd (o : Option Int) (w : World) (e : Ending) (w' : World) : Prop := Below w.heap.size w w' ∧ ((o = none ∧ ∃ E, e = .returned (.tuple #[.int .i64 0, E]) ∧ ErrIs w' E 4 (-1)) ∨ ∃ n, o = some n ∧ e = .returned (.tuple #[.int .i64 n, .nilIface]))
structure BoundWalks (S : List (Int × Int) → List (Int × Int) → Int → List (Int × Int) → Prop) (Dd Db : Int → List (Int × Int) → Option Int → Prop) : Prop where
 way : SumWay S
 sumOf : ∀ (a1 a2 : Option Addr) (cap1 cap2 : Nat) (la lb : List (Int × Int)) (w : World), Lies w a1 la → Lies w a2 lb → okCurve la → okCurve lb → Calls Tryz.prog 42 #[.slice a1 la.length cap1, .slice a2 lb.length cap2] w fun e w' => ∃ a cap code L, e = .returned (.tuple #[.slice a L.length cap, .int .i64 code]) ∧ S la lb code L ∧ Lies w' a L ∧ L.length ≤ cap ∧ cap ≤ maxLen ∧ Below w.heap.size w w'
 delay1 : ∀ per L o o', okCurve L → 1 ≤ per → per ≤ 1000 → Dd per L o → Dd per L o' → o = o'
 busy1 : ∀ per L o o', okCurve L → 1 ≤ per → per ≤ 1000 → Db per L o → Db per L o' → o = o'
 delay : ∀ (a : Option Addr) (cap : Nat) (L : List (Int × Int)) (per : Int) (w : World) (ad : Nat → Addr), Errs9 w ad → Lies w a L → L.length ≤ cap → cap ≤ maxLen → okCurve L → 1 ≤ per → per ≤ 1000 → Calls Tryz.prog 17 #[.slice a L.length cap, .int .i64 per] w fun e w' => ∃ o, Dd per L o ∧ NumEnd o w e w'
 busy : ∀ (a : Option Addr) (cap : Nat) (L : List (Int × Int)) (per : Int) (w : World) (ad : Nat → Addr), Errs9 w ad → Lies w a L → L.length ≤ cap → cap ≤ maxLen → okCurve L → 1 ≤ per → per ≤ 1000 → Calls Tryz.prog 18 #[.slice a L.length cap, .int .i64 per] w fun e w' => ∃ o, Db per L o ∧ NumEnd o w e w'
 bad : ∀ (ca : Option Addr) (ccap : Nat) (cs : List (List (Int × Int))) (kb : ByteArray) (per : Int) (na : Option Addr) (ncap : Nat) (ns : List Int) (w : World) (ad : Nat → Addr) (c p : Int), Errs9 w ad → GateLies w ca ccap cs na ncap ns → GateIs cs (kindOf kb.toList) per ns c p → 0 < c →
  Calls Tryz.prog 11 #[.agg #[.slice ca cs.length ccap, .string kb, .int .i64 per, .slice na ns.length ncap]] w fun e w' => ∃ E, e = .returned (.tuple #[.int .i64 0, E]) ∧ ErrIs w' E c p ∧ Below w.heap.size w w'
 good : ∀ (ca : Option Addr) (ccap : Nat) (cs : List (List (Int × Int))) (kb : ByteArray) (per : Int) (na : Option Addr) (ncap : Nat) (ns : List Int) (w : World) (ad : Nat → Addr), Errs9 w ad → GateLies w ca ccap cs na ncap ns → GateOk cs (kindOf kb.toList) per ns →
  Calls Tryz.prog 11 #[.agg #[.slice ca cs.length ccap, .string kb, .int .i64 per, .slice na ns.length ncap]] w fun e w' => ∃ o, BoundIs S Dd Db cs (kindOf kb.toList) per o ∧ NumEnd o w e w'
section
end
end Go.Proofs.YtibhkijaafdkoaaGreatDoor
