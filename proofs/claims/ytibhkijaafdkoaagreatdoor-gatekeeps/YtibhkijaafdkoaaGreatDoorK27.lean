/- Own facts, put together: no statement of its own. -/
import Derived.Test.YtibhkijaafdkoaaGreatDoorK24
import Derived.Test.YtibhkijaafdkoaaGreatDoorK26
import Derived.Test.YtibhkijaafdkoaaGreatDoorK16
import Derived.Test.YtibhkijaafdkoaaGreatDoorK23
import Derived.Test.YtibhkijaafdkoaaGreatDoorK15
namespace Go.Proofs.YtibhkijaafdkoaaGreatDoor
open Go.RowKit
structure CameAt (w : World) (g n next : Nat) : Prop where
 cell : ∀ i, i < n → w.cell? ⟨g, i, none⟩ = some (.bool (decide (i < next)))
 frozen : ∀ i, w.frozen? ⟨g, i, none⟩ = false
 lt : g < w.heap.size
structure CredAt (w : World) (g : Nat) (cr : Nat → Int) : Prop where
 cell : ∀ f, f < 8 → w.cell? ⟨g, f, none⟩ = some (.int .i64 (cr f))
 frozen : ∀ i, w.frozen? ⟨g, i, none⟩ = false
 lt : g < w.heap.size
theorem CameAt.of_block {w w' : World} {g n k : Nat} (h : CameAt w g n k) (hb : w'.heap[g]? = w.heap[g]?) (hs : w.heap.size ≤ w'.heap.size) : CameAt w' g n k :=
 ⟨fun i hi => (World.cell?_of_block (a := ⟨g, i, none⟩) hb).trans (h.cell i hi), fun i => (World.frozen?_of_block (a := ⟨g, i, none⟩) hb).trans (h.frozen i), Nat.lt_of_lt_of_le h.lt hs⟩
theorem CredAt.of_block {w w' : World} {g : Nat} {cr : Nat → Int} (h : CredAt w g cr) (hb : w'.heap[g]? = w.heap[g]?) (hs : w.heap.size ≤ w'.heap.size) : CredAt w' g cr :=
 ⟨fun i hi => (World.cell?_of_block (a := ⟨g, i, none⟩) hb).trans (h.cell i hi), fun i => (World.frozen?_of_block (a := ⟨g, i, none⟩) hb).trans (h.frozen i), Nat.lt_of_lt_of_le h.lt hs⟩
structure RoMem (w wr : World) (gd gc gk n : Nat) (v : Value) (out : List Sn) (next : Nat) (cr : Nat → Int) (rv : Value) (F : Nat → Prop) (row : List Nat) : Prop where
 own : OwnS wr w.heap.size v out
 done : DoneAt wr gd n out
 came : CameAt wr gc n next
 cred : CredAt wr gk cr
 row : Slides wr w.heap.size rv F row
 ne : gd ≠ gc ∧ gd ≠ gk ∧ gc ≠ gk
 vne : v.ownBlock ≠ some gd ∧ v.ownBlock ≠ some gc ∧ v.ownBlock ≠ some gk
 fne : ¬ F gd ∧ ¬ F gc ∧ ¬ F gk ∧ ∀ k, F k → v.ownBlock ≠ some k
 new : w.heap.size ≤ gd ∧ w.heap.size ≤ gc ∧ w.heap.size ≤ gk
 below : Below w.heap.size w wr
section
variable {w wr wr' : World} {gd gc gk n : Nat} {v : Value} {out : List Sn} {next : Nat} {cr : Nat → Int} {rv : Value} {F : Nat → Prop} {row : List Nat}
theorem RoMem.later (h : RoMem w wr gd gc gk n v out next cr rv F row) (hb : Below wr.heap.size wr wr') : RoMem w wr' gd gc gk n v out next cr rv F row :=
 ⟨ownsRow_of_block h.own (fun g _ hg => hb.block g hg), h.done.of_block (hb.block gd h.done.lt) hb.size, h.came.of_block (hb.block gc h.came.lt) hb.size, h.cred.of_block (hb.block gk h.cred.lt) hb.size, h.row.but (S := fun _ => False) (.ofBelow hb) (fun _ _ h => h), h.ne, h.vne, h.fne, h.new, h.below.trans (hb.mono h.below.size)⟩
theorem RoMem.alloc (h : RoMem w wr gd gc gk n v out next cr rv F row) (o : Obj) : RoMem w (wr.alloc o) gd gc gk n v out next cr rv F row := h.later ((Below.refl _ _).alloc (Nat.le_refl _) _)
end
end Go.Proofs.YtibhkijaafdkoaaGreatDoor

namespace Go.Proofs.YtibhkijaafdkoaaGreatDoor
open Go.RowKit
def srvInt : Option Nat → Int
 | some f => f
 | none => -1
structure TurnCells (w : World) (g : Nat) (pv qv : Value) (vq : Nat → Value) (cr : Nat → Int) (rv : Value) (sv : Int) (n : Nat) : Prop where
 c0 : w.cell? ⟨g, 0, none⟩ = some pv
 c1 : w.cell? ⟨g, 1, none⟩ = some qv
 cq : ∀ f, f < 8 → w.cell? ⟨g, 2 + f, none⟩ = some (vq f)
 cc : ∀ f, f < 8 → w.cell? ⟨g, 10 + f, none⟩ = some (.int .i64 (cr f))
 cr_ : w.cell? ⟨g, 18, none⟩ = some rv
 cs : w.cell? ⟨g, 19, none⟩ = some (.int .i64 sv)
 cn : w.cell? ⟨g, 20, none⟩ = some (.int .i64 (n : Int))
 free : ∀ i, w.frozen? ⟨g, i, none⟩ = false
section
variable {w w' : World} {g : Nat} {pv qv : Value} {vq : Nat → Value} {cr : Nat → Int} {rv : Value} {sv : Int} {n : Nat}
theorem TurnCells.lt (h : TurnCells w g pv qv vq cr rv sv n) : g < w.heap.size := cell_lt h.c0
theorem TurnCells.but {S : Nat → Prop} (h : TurnCells w g pv qv vq cr rv sv n) (hb : But S w w') (hs : ¬ S g) : TurnCells w' g pv qv vq cr rv sv n := by
 have e : ∀ i, w'.cell? ⟨g, i, none⟩ = w.cell? ⟨g, i, none⟩ := fun i => hb.cell (p := ⟨g, i, none⟩) h.lt hs
 exact ⟨by rw [e]; exact h.c0, by rw [e]; exact h.c1, fun f hf => by rw [e]; exact h.cq f hf, fun f hf => by rw [e]; exact h.cc f hf, by rw [e]; exact h.cr_, by rw [e]; exact h.cs, by rw [e]; exact h.cn, fun i => by rw [hb.frozen (p := ⟨g, i, none⟩) h.lt hs]; exact h.free i⟩
theorem far (w : World) (g i j : Nat) (v : Value) (h : i ≠ j) : (w.setCell ⟨g, i, none⟩ v).cell? ⟨g, j, none⟩ = w.cell? ⟨g, j, none⟩ :=
 World.cell?_setCell_other _ _ _ _ (fun e => h (by injection e))
theorem TurnCells.setQ (h : TurnCells w g pv qv vq cr rv sv n) {f : Nat} (hf : f < 8) (v : Value) : TurnCells (w.setCell ⟨g, 2 + f, none⟩ v) g pv qv (put1 vq f v) cr rv sv n := by
 refine ⟨by rw [far _ _ _ _ _ (by omega)]; exact h.c0, by rw [far _ _ _ _ _ (by omega)]; exact h.c1, fun j hj => ?_, fun j hj => by rw [far _ _ _ _ _ (by omega)]; exact h.cc j hj, by rw [far _ _ _ _ _ (by omega)]; exact h.cr_, by rw [far _ _ _ _ _ (by omega)]; exact h.cs, by rw [far _ _ _ _ _ (by omega)]; exact h.cn, fun i => by rw [World.frozen?_setCell]; exact h.free i⟩
 by_cases e : j = f
 ·
  subst e
  rw [put1_same]
  exact World.cell?_setCell_same _ _ _ (h.cq j hj)
 ·
  rw [put1_other _ _ e, far _ _ _ _ _ (by omega)]
  exact h.cq j hj
theorem TurnCells.setC (h : TurnCells w g pv qv vq cr rv sv n) {f : Nat} (hf : f < 8) (x : Int) : TurnCells (w.setCell ⟨g, 10 + f, none⟩ (.int .i64 x)) g pv qv vq (put1 cr f x) rv sv n := by
 refine ⟨by rw [far _ _ _ _ _ (by omega)]; exact h.c0, by rw [far _ _ _ _ _ (by omega)]; exact h.c1, fun j hj => by rw [far _ _ _ _ _ (by omega)]; exact h.cq j hj, fun j hj => ?_, by rw [far _ _ _ _ _ (by omega)]; exact h.cr_, by rw [far _ _ _ _ _ (by omega)]; exact h.cs, by rw [far _ _ _ _ _ (by omega)]; exact h.cn, fun i => by rw [World.frozen?_setCell]; exact h.free i⟩
 by_cases e : j = f
 ·
  subst e
  rw [put1_same]
  exact World.cell?_setCell_same _ _ _ (h.cc j hj)
 ·
  rw [put1_other _ _ e, far _ _ _ _ _ (by omega)]
  exact h.cc j hj
theorem TurnCells.setR (h : TurnCells w g pv qv vq cr rv sv n) (v : Value) : TurnCells (w.setCell ⟨g, 18, none⟩ v) g pv qv vq cr v sv n :=
 ⟨by rw [far _ _ _ _ _ (by omega)]; exact h.c0, by rw [far _ _ _ _ _ (by omega)]; exact h.c1, fun j hj => by rw [far _ _ _ _ _ (by omega)]; exact h.cq j hj, fun j hj => by rw [far _ _ _ _ _ (by omega)]; exact h.cc j hj, World.cell?_setCell_same _ _ _ h.cr_, by rw [far _ _ _ _ _ (by omega)]; exact h.cs, by rw [far _ _ _ _ _ (by omega)]; exact h.cn, fun i => by rw [World.frozen?_setCell]; exact h.free i⟩
theorem TurnCells.setS (h : TurnCells w g pv qv vq cr rv sv n) (x : Int) : TurnCells (w.setCell ⟨g, 19, none⟩ (.int .i64 x)) g pv qv vq cr rv x n :=
 ⟨by rw [far _ _ _ _ _ (by omega)]; exact h.c0, by rw [far _ _ _ _ _ (by omega)]; exact h.c1, fun j hj => by rw [far _ _ _ _ _ (by omega)]; exact h.cq j hj, fun j hj => by rw [far _ _ _ _ _ (by omega)]; exact h.cc j hj, by rw [far _ _ _ _ _ (by omega)]; exact h.cr_, World.cell?_setCell_same _ _ _ h.cs, by rw [far _ _ _ _ _ (by omega)]; exact h.cn, fun i => by rw [World.frozen?_setCell]; exact h.free i⟩
theorem TurnCells.setN (h : TurnCells w g pv qv vq cr rv sv n) (x : Nat) : TurnCells (w.setCell ⟨g, 20, none⟩ (.int .i64 (x : Int))) g pv qv vq cr rv sv x :=
 ⟨by rw [far _ _ _ _ _ (by omega)]; exact h.c0, by rw [far _ _ _ _ _ (by omega)]; exact h.c1, fun j hj => by rw [far _ _ _ _ _ (by omega)]; exact h.cq j hj, fun j hj => by rw [far _ _ _ _ _ (by omega)]; exact h.cc j hj, by rw [far _ _ _ _ _ (by omega)]; exact h.cr_, by rw [far _ _ _ _ _ (by omega)]; exact h.cs, World.cell?_setCell_same _ _ _ h.cn, fun i => by rw [World.frozen?_setCell]; exact h.free i⟩
end
def turnFoot (g : Nat) (F : Nat → Nat → Prop) (rv : Value) (k : Nat) : Prop := k = g ∨ (∃ f, f < 8 ∧ F f k) ∨ rv.ownBlock = some k
structure TurnsAt (B g : Nat) (pv qv : Value) (w : World) (vq : Nat → Value) (F : Nat → Nat → Prop) (rv : Value) (d : Drr) (n : Nat) : Prop where
 cells : TurnCells w g pv qv vq d.cr rv (srvInt d.srv) n
 queue : ∀ f, f < 8 → Slides w B (vq f) (F f) (d.qs f)
 row : w.ownsRow B 3 1 rv d.row.length (ints (asInts d.row))
 apart : ∀ f, f < 8 → ¬ F f g ∧ (∀ k, F f k → rv.ownBlock ≠ some k) ∧ ∀ f' k, f' < 8 → F f k → F f' k → f = f'
 rowg : rv.ownBlock ≠ some g
 le : B ≤ g
section
variable {B g : Nat} {pv qv : Value} {w w' : World} {vq : Nat → Value} {F : Nat → Nat → Prop} {rv : Value} {d : Drr} {n : Nat}
theorem TurnsAt.foot (h : TurnsAt B g pv qv w vq F rv d n) : ∀ k, turnFoot g F rv k → B ≤ k ∧ k < w.heap.size := by
 rintro k (rfl | ⟨f, hf, hk⟩ | hk)
 · exact ⟨h.le, h.cells.lt⟩
 · exact (h.queue f hf).foot k hk
 · exact ownsRow_lt h.row hk
theorem TurnsAt.but {S : Nat → Prop} (h : TurnsAt B g pv qv w vq F rv d n) (hb : But S w w') (hs : ∀ k, turnFoot g F rv k → ¬ S k) : TurnsAt B g pv qv w' vq F rv d n :=
 ⟨h.cells.but hb (hs g (.inl rfl)), fun f hf => (h.queue f hf).but hb (fun k hk => hs k (.inr (.inl ⟨f, hf, hk⟩))), ownsRow_of_block h.row (fun k hv hk => hb.block k hk (hs k (.inr (.inr hv)))), h.apart, h.rowg, h.le⟩
theorem TurnsAt.later (h : TurnsAt B g pv qv w vq F rv d n) (hb : Below w.heap.size w w') : TurnsAt B g pv qv w' vq F rv d n := h.but (S := fun _ => False) (.ofBelow hb) (fun _ _ h => h)
theorem butG (w : World) (g i : Nat) (v : Value) : But (fun k => k = g) w (w.setCell ⟨g, i, none⟩ v) := But.setCell (S := fun k => k = g) (But.refl _ w) (p := ⟨g, i, none⟩) rfl v
theorem TurnsAt.apartG (h : TurnsAt B g pv qv w vq F rv d n) (i : Nat) (v : Value) : (∀ f, f < 8 → Slides (w.setCell ⟨g, i, none⟩ v) B (vq f) (F f) (d.qs f)) ∧ (w.setCell ⟨g, i, none⟩ v).ownsRow B 3 1 rv d.row.length (ints (asInts d.row)) :=
 ⟨fun f hf => (h.queue f hf).but (butG w g i v) (fun k hk e => (h.apart f hf).1 (by rw [← e]; exact hk)), ownsRow_of_block h.row (fun k hv hk => (butG w g i v).block k hk (fun e => h.rowg (by rw [← e]; exact hv)))⟩
theorem TurnsAt.setC (h : TurnsAt B g pv qv w vq F rv d n) {f : Nat} (hf : f < 8) (x : Int) : TurnsAt B g pv qv (w.setCell ⟨g, 10 + f, none⟩ (.int .i64 x)) vq F rv { d with cr := put1 d.cr f x } n :=
 ⟨h.cells.setC hf x, (h.apartG _ _).1, (h.apartG _ _).2, h.apart, h.rowg, h.le⟩
theorem TurnsAt.setS (h : TurnsAt B g pv qv w vq F rv d n) {x : Int} (s : Option Nat) (hs : srvInt s = x) : TurnsAt B g pv qv (w.setCell ⟨g, 19, none⟩ (.int .i64 x)) vq F rv { d with srv := s } n :=
 ⟨by rw [← hs]; exact h.cells.setS _, (h.apartG _ _).1, (h.apartG _ _).2, h.apart, h.rowg, h.le⟩
theorem TurnsAt.setN (h : TurnsAt B g pv qv w vq F rv d n) {x : Int} (m : Nat) (hx : (m : Int) = x) : TurnsAt B g pv qv (w.setCell ⟨g, 20, none⟩ (.int .i64 x)) vq F rv d m :=
 ⟨by rw [← hx]; exact h.cells.setN m, (h.apartG _ _).1, (h.apartG _ _).2, h.apart, h.rowg, h.le⟩
theorem TurnsAt.setR (h : TurnsAt B g pv qv w vq F rv d n) {w2 : World} {v' : Value} {r' : List Nat} (hbut : But (fun k => rv.ownBlock = some k) w w2) (hown : w2.ownsRow B 3 1 v' r'.length (ints (asInts r'))) (hnew : ∀ k, v'.ownBlock = some k → rv.ownBlock = some k ∨ w.heap.size ≤ k) :
  TurnsAt B g pv qv (w2.setCell ⟨g, 18, none⟩ v') vq F v' { d with row := r' } n := by
 have hg : v'.ownBlock ≠ some g := fun e => by
  rcases hnew g e with h' | h'
  · exact h.rowg h'
  · have := h.cells.lt; omega
 refine ⟨(h.cells.but hbut (fun e => h.rowg e)).setR v', fun f hf => ?_, ?_, fun f hf => ⟨(h.apart f hf).1, fun k hk e => ?_, (h.apart f hf).2.2⟩, hg, h.le⟩
 · exact ((h.queue f hf).but hbut (fun k hk e => (h.apart f hf).2.1 k hk e)).but (butG w2 g 18 v') (fun k hk e => (h.apart f hf).1 (by rw [← e]; exact hk))
 · exact ownsRow_of_block hown (fun k hv hk => (butG w2 g 18 v').block k hk (fun e => hg (by rw [← e]; exact hv)))
 ·
  rcases hnew k e with h' | h'
  · exact (h.apart f hf).2.1 k hk h'
  · have := ((h.queue f hf).foot k hk).2; omega
theorem TurnsAt.setQ (h : TurnsAt B g pv qv w vq F rv d n) {f : Nat} (hf : f < 8) {w2 : World} {v' : Value} {F' : Nat → Prop} {q' : List Nat} (hbut : But (F f) w w2) (hsl : Slides w2 B v' F' q') (hnew : ∀ k, F' k → F f k ∨ w.heap.size ≤ k) :
  TurnsAt B g pv qv (w2.setCell ⟨g, 2 + f, none⟩ v') (put1 vq f v') (put1 F f F') rv { d with qs := put1 d.qs f q' } n := by
 have hFg : ¬ F' g := fun e => by
  rcases hnew g e with h' | h'
  · exact (h.apart f hf).1 h'
  · have := h.cells.lt; omega
 have hG := butG w2 g (2 + f) v'
 refine ⟨(h.cells.but hbut (h.apart f hf).1).setQ hf v', fun j hj => ?_, ?_, fun j hj => ?_, h.rowg, h.le⟩
 ·
  by_cases e : j = f
  ·
   subst e
   show Slides _ B (put1 vq j v' j) (put1 F j F' j) (put1 d.qs j q' j)
   rw [put1_same, put1_same, put1_same]
   exact hsl.but hG (fun k hk e => hFg (by rw [← e]; exact hk))
  ·
   show Slides _ B (put1 vq f v' j) (put1 F f F' j) (put1 d.qs f q' j)
   rw [put1_other _ _ e, put1_other _ _ e, put1_other _ _ e]
   exact ((h.queue j hj).but hbut (fun k hk hk' => e ((h.apart j hj).2.2 f k hf hk hk'))).but hG (fun k hk e' => (h.apart j hj).1 (by rw [← e']; exact hk))
 · refine ownsRow_of_block (ownsRow_of_block h.row (fun k hv hk => hbut.block k hk (fun hF => (h.apart f hf).2.1 k hF hv))) (fun k hv hk => hG.block k hk (fun e => h.rowg (by rw [← e]; exact hv)))
 ·
  have key : ∀ i, i < 8 → ∀ k, put1 F f F' i k → (i = f ∧ F' k) ∨ (i ≠ f ∧ F i k) := fun i _ k hk => by
   by_cases e : i = f
   · subst e; rw [put1_same] at hk; exact .inl ⟨rfl, hk⟩
   · rw [put1_other _ _ e] at hk; exact .inr ⟨e, hk⟩
  have hold : ∀ k, F' k → ∀ i, i < 8 → i ≠ f → F i k → False := fun k hk i hi hne hik => by
   rcases hnew k hk with h' | h'
   · exact hne ((h.apart i hi).2.2 f k hf hik h')
   · have := ((h.queue i hi).foot k hik).2; omega
  refine ⟨fun hk => ?_, fun k hk e => ?_, fun j' k hj' hk hk' => ?_⟩
  ·
   rcases key j hj g hk with ⟨-, hk⟩ | ⟨-, hk⟩
   · exact hFg hk
   · exact (h.apart j hj).1 hk
  ·
   rcases key j hj k hk with ⟨-, hk⟩ | ⟨-, hk⟩
   ·
    rcases hnew k hk with h' | h'
    · exact (h.apart f hf).2.1 k h' e
    · have := (ownsRow_lt h.row e).2; omega
   · exact (h.apart j hj).2.1 k hk e
  ·
   rcases key j hj k hk with ⟨e1, hk⟩ | ⟨e1, hk⟩
   ·
    rcases key j' hj' k hk' with ⟨e2, hk'⟩ | ⟨e2, hk'⟩
    · rw [e1, e2]
    · exact (hold k hk j' hj' e2 hk').elim
   ·
    rcases key j' hj' k hk' with ⟨e2, hk'⟩ | ⟨e2, hk'⟩
    · exact (hold k hk' j hj e1 hk).elim
    · exact (h.apart j hj).2.2 j' k hj' hk hk'
end
structure HeldT (B : Nat) (W0 : World) (g : Nat) (pv qv : Value) (w : World) (D : Nat → Prop) (q : TQ) : Prop where
 env : Below B W0 w
 parts : ∃ vq F rv, TurnsAt B g pv qv w vq F rv q.d q.n ∧ ∀ k, D k ↔ turnFoot g F rv k
section
variable {B : Nat} {W0 : World} {g : Nat} {pv qv : Value} {w w' : World} {D : Nat → Prop} {q : TQ}
theorem HeldT.foot (h : HeldT B W0 g pv qv w D q) : ∀ k, D k → B ≤ k ∧ k < w.heap.size := by
 obtain ⟨vq, F, rv, h1, h2⟩ := h.parts
 exact fun k hk => h1.foot k ((h2 k).1 hk)
theorem HeldT.le (h : HeldT B W0 g pv qv w D q) : B ≤ w.heap.size := by
 obtain ⟨vq, F, rv, h1, h2⟩ := h.parts
 have := h1.cells.lt
 have := h1.le
 omega
theorem HeldT.but {S : Nat → Prop} (h : HeldT B W0 g pv qv w D q) (hb : But S w w') (hs : ∀ k, D k → ¬ S k) (hB : ∀ k, S k → B ≤ k) : HeldT B W0 g pv qv w' D q := by
 obtain ⟨vq, F, rv, h1, h2⟩ := h.parts
 exact ⟨h.env.trans (hb.below h.le hB), vq, F, rv, h1.but hb (fun k hk => hs k ((h2 k).2 hk)), h2⟩
theorem HeldT.later (h : HeldT B W0 g pv qv w D q) (hb : Below w.heap.size w w') : HeldT B W0 g pv qv w' D q := h.but (S := fun _ => False) (.ofBelow hb) (fun _ _ h => h) (fun _ h => h.elim)
theorem HeldT.alloc (h : HeldT B W0 g pv qv w D q) (o : Obj) : HeldT B W0 g pv qv (w.alloc o) D q := h.later ((Below.refl _ _).alloc (Nat.le_refl _) _)
theorem turnsMem (B : Nat) (W0 : World) (g : Nat) (pv qv : Value) : QueMem (HeldT B W0 g pv qv) B := ⟨fun _ _ _ h => h.foot, fun _ _ _ _ _ h hb hs hB => h.but hb hs hB⟩
theorem HeldT.same (h : HeldT B W0 g pv qv w D q) (hb : Below w.heap.size w w') : QueLeft (HeldT B W0 g pv qv) w w' D q := ⟨D, h.later hb, .ofBelow hb, fun _ hk => .inl hk⟩
theorem HeldT.leaves {vq' : Nat → Value} {F F' : Nat → Nat → Prop} {rv rv' : Value} {q' : TQ} (h : HeldT B W0 g pv qv w D q) (hD : ∀ k, D k ↔ turnFoot g F rv k) (hbut : But D w w') (hat : TurnsAt B g pv qv w' vq' F' rv' q'.d q'.n) (hnew : ∀ k, turnFoot g F' rv' k → turnFoot g F rv k ∨ w.heap.size ≤ k) : QueLeft (HeldT B W0 g pv qv) w w' D q' :=
 ⟨turnFoot g F' rv', ⟨h.env.trans (hbut.below h.le fun k hk => (h.foot k hk).1), vq', F', rv', hat, fun _ => Iff.rfl⟩, hbut, fun k hk => by
  rcases hnew k hk with h' | h'
  · exact .inl ((hD k).2 h')
  · exact .inr h'⟩
end
end Go.Proofs.YtibhkijaafdkoaaGreatDoor

namespace Go.Proofs.YtibhkijaafdkoaaGreatDoor
open Go.RowKit
theorem own_open {w : World} {B : Nat} {v : Value} {zs : List Int} (h : w.ownsRow B 3 1 v zs.length (ints zs)) : ∃ ao cap, v = .slice ao zs.length cap ∧ zs.length ≤ cap ∧ cap ≤ maxLen := by
 obtain ⟨h1, ⟨rfl, h0⟩ | ⟨g, cap, cur, rfl, hB, hg, hn, hm, hc, ht⟩⟩ := h
 · exact ⟨none, 0, by rw [h0], by omega, by simp [maxLen]⟩
 · exact ⟨_, cap, rfl, hn, hm⟩
theorem own_some {w : World} {B : Nat} {v : Value} {zs : List Int} (h : w.ownsRow B 3 1 v zs.length (ints zs)) (h0 : 0 < zs.length) : ∃ g cap, v = .slice (some ⟨g, 0, none⟩) zs.length cap ∧ zs.length ≤ cap ∧ cap ≤ maxLen ∧ ∀ (i : Nat) x, zs[i]? = some x → w.cell? ⟨g, i, none⟩ = some (.int .i64 x) := by
 have hh := h
 obtain ⟨h1, ⟨rfl, h0'⟩ | ⟨g, cap, cur, rfl, hB, hg, hn, hm, hc, ht⟩⟩ := h
 · omega
 ·
  refine ⟨g, cap, rfl, hn, hm, fun i x hx => ?_⟩
  have hi : i < zs.length := by
   rcases Nat.lt_or_ge i zs.length with h' | h'
   · exact h'
   · simp [List.getElem?_eq_none h'] at hx
  rw [hh.cellAt i (by omega)]
  exact ints_get hx
def LeastTaken (B : Nat) (w : World) (r cap : Nat) (q : List Nat) (i : Nat) (e : Ending) (w' : World) : Prop :=
 e = .returned (.tuple #[.int .i64 (q.getD i 0 : Nat), .slice (some ⟨r, 0, none⟩) (q.length - 1) cap]) ∧ w'.ownsRow B 3 1 (.slice (some ⟨r, 0, none⟩) (q.length - 1) cap) (q.length - 1) (ints (asInts (q.eraseIdx i))) ∧ But (fun j => j = r) w w'
set_option maxRecDepth 100000 in
set_option maxHeartbeats 4000000 in
theorem takeLeastA (B : Nat) (f : Nat) (x1 x2 : Value) (key : Nat → Int) (n r cap : Nat) (q : List Nat) (w : World) (hn : q.length ≤ 1000) (h0 : 0 < q.length) (hq : ∀ k, k ∈ q → k < n)
  (h2 : w.ownsRow B 3 1 (.slice (some ⟨r, 0, none⟩) q.length cap) q.length (ints (asInts q))) (hlc : q.length ≤ cap) (hcm : cap ≤ maxLen)
  (hf : ∀ args W, Sem.run Tryz.prog (callFunc f args) W = .ok (.enter f args) W)
  (hM : ∀ m k, k < n → Calls Tryz.prog f #[.int .i64 ((k : Nat) : Int), x1, x2] (w.drewN m) fun e w' => e = .returned (.int .i64 (key k)) ∧ ∃ m', w' = (w.drewN m).drewN m') :
  Calls Tryz.prog 159 #[.slice (some ⟨r, 0, none⟩) q.length cap, .func (.func f) #[] #[x1, x2]] w fun e w' => LeastTaken B w r cap q (pickAt key q) e w' := by
 have HM : Hid (∀ m k, k < n → Calls Tryz.prog f #[.int .i64 ((k : Nat) : Int), x1, x2] (w.drewN m) fun e w' => e = .returned (.int .i64 (key k)) ∧ ∃ m', w' = (w.drewN m).drewN m') := hM
 have hcell := (fun (i : Nat) x (hx : (asInts q)[i]? = some x) => (h2.cellAt i (by have := lt_of_get hx; rw [asInts_length] at this; omega)).trans (ints_get hx) : ∀ (i : Nat) x, (asInts q)[i]? = some x → w.cell? ⟨r, i, none⟩ = some (.int .i64 x))
 have H2 : Hid (w.ownsRow B 3 1 (.slice (some ⟨r, 0, none⟩) (asInts q).length cap) (asInts q).length (ints (asInts q)) ∧ cap ≤ maxLen ∧ (asInts q).length ≤ cap) := by rw [asInts_length]; exact ⟨h2, hcm, hlc⟩
 have HC : Hid (∀ i, i < q.length → ∃ k, q[i]? = some k ∧ q.getD i 0 = k ∧ k < n ∧ w.cell? ⟨r, i, none⟩ = some (.int .i64 ((k : Nat) : Int))) := fun i hi => by
  obtain ⟨k, hk, hmem⟩ := get_some q i hi
  exact ⟨k, hk, by simp [List.getD, hk], hq k hmem, hcell i _ (asInts_get hk)⟩
 unfold maxLen at hcm
 clear h2 hq hM hcell
 obtain ⟨l, hl⟩ : ∃ l, q.length = l := ⟨_, rfl⟩
 have HL : Hid (q.length = l) := hl
 rw [hl] at hn h0 hlc HC ⊢
 clear hl
 go_enter Tryz.func159, Tryz.ntmps159
 go_wp2_with fail
 go_loopw [6, 11] (fun fi i wr => ∃ k : Nat, k ≤ l ∧ i = .int .i64 k ∧ fi = .int .i64 (firstLeast key q k) ∧ ∃ m, wr = w.drewN m) (fun _ i _ => l - (intOf i).toNat)
 case atStart => exact ⟨0, Nat.zero_le _, rfl, rfl, 0, rfl⟩
 case round =>
  obtain ⟨k, hk, rfl, rfl, m, hm⟩ := hrel
  have HW : Hid (wr = w.drewN m) := hm
  by_cases hkl : k < l
  ·
   have hfl : firstLeast key q k < l := by rw [← HL.out]; exact firstLeast_lt key (by rw [HL.out]; exact h0) (by rw [HL.out]; exact hk)
   obtain ⟨fl, hfe⟩ : ∃ fl, firstLeast key q k = fl := ⟨_, rfl⟩
   obtain ⟨a, ha, had, han, ca⟩ := HC.out k hkl
   rw [hfe] at hfl ⊢
   obtain ⟨b, hb, hbd, hbn, cb⟩ := HC.out fl hfl
   have HE : Hid (firstLeast key q (k + 1) = if key a < key b then k else fl) := by
    show firstLeast key q (k + 1) = _
    simp only [firstLeast, had, hfe, hbd]
   have da : wr.cell? ⟨r, k, none⟩ = some (.int .i64 (a : Int)) := by rw [hm]; exact ca
   have db : wr.cell? ⟨r, fl, none⟩ = some (.int .i64 (b : Int)) := by rw [hm]; exact cb
   have HMa : Hid (∀ j, Calls Tryz.prog f #[.int .i64 ((a : Nat) : Int), x1, x2] (wr.drewN j) fun e w' => e = .returned (.int .i64 (key a)) ∧ ∃ m', w' = (wr.drewN j).drewN m') := fun j => by
    have := HM.out (m + j) a han
    rw [hm, World.drewN_drewN]
    exact this
   have HMb : Hid (∀ j, Calls Tryz.prog f #[.int .i64 ((b : Nat) : Int), x1, x2] (wr.drewN j) fun e w' => e = .returned (.int .i64 (key b)) ∧ ∃ m', w' = (wr.drewN j).drewN m') := fun j => by
    have := HM.out (m + j) b hbn
    rw [hm, World.drewN_drewN]
    exact this
   clear hfe ha had hb hbd ca cb hm
   by_cases hlt : key a < key b
   ·
    have HE' : Hid (firstLeast key q (k + 1) = k) := HE.out.trans (if_pos hlt)
    go_wp2_with fail
    go_quiet (first
     | exact Calls.quiet_of (HMa.out _)
     | exact Calls.quiet_of (HMb.out _))
    go_wp2_with fail
    go_roundw
    case rel => exact ⟨k + 1, by omega, by go_num, by rw [HE'.out], m + nq, by rw [HW.out, World.drewN_drewN]⟩
    case measure => simp [intOf]; omega
   ·
    have HE' : Hid (firstLeast key q (k + 1) = fl) := HE.out.trans (if_neg hlt)
    go_wp2_with fail
    go_quiet (first
     | exact Calls.quiet_of (HMa.out _)
     | exact Calls.quiet_of (HMb.out _))
    go_wp2_with fail
    go_roundw
    case rel => exact ⟨k + 1, by omega, by go_num, by rw [HE'.out], m + nq, by rw [HW.out, World.drewN_drewN]⟩
    case measure => simp [intOf]; omega
  ·
   obtain rfl : k = l := by omega
   have hfl : firstLeast key q k < k := by rw [← HL.out]; exact firstLeast_lt key (by rw [HL.out]; exact h0) (Nat.le_refl _)
   obtain ⟨fl, hfe⟩ : ∃ fl, firstLeast key q k = fl := ⟨_, rfl⟩
   rw [hfe] at hfl ⊢
   obtain ⟨b, hb, hbd, hbn, cb⟩ := HC.out fl hfl
   have db : wr.cell? ⟨r, fl, none⟩ = some (.int .i64 (b : Int)) := by rw [hm]; exact cb
   have HPick : Hid (pickAt key q = fl ∧ q.getD fl 0 = b) := ⟨by unfold pickAt; rw [HL.out]; exact hfe, hbd⟩
   have HBw : Hid (But (fun j => j = r) w wr) := by
    show But _ _ _
    rw [hm]
    exact .ofBelow (below_drewN (Below.refl _ _) _)
   have HDel : Hid (Calls Tryz.prog 165 #[.slice (some ⟨r, 0, none⟩) k cap, .int .i64 (fl : Int), .int .i64 ((fl : Int) + 1)] wr fun e w' => e = .returned (.slice (some ⟨r, 0, none⟩) (k - 1) cap) ∧ w'.ownsRow B 3 1 (.slice (some ⟨r, 0, none⟩) (k - 1) cap) (k - 1) (ints (asInts (q.eraseIdx fl))) ∧ But (fun j => j = r) wr w') := by
    have hown : wr.ownsRow B 3 1 (.slice (some ⟨r, 0, none⟩) (asInts q).length cap) (asInts q).length (ints (asInts q)) := by rw [hm]; exact H2.out.1
    have hd := delete_one B r cap fl (asInts q) wr hown (by rw [asInts_length, HL.out]; exact hfl) H2.out.2.2 H2.out.2.1
    rw [asInts_length, HL.out, asInts_erase] at hd
    exact hd
   clear hfe hb hbd cb hm
   go_wp2_with fail
   refine HDel.out.mono ?_
   rintro e w2 ⟨rfl, hown2, hbut2⟩
   have HO : Hid (w2.ownsRow B 3 1 (.slice (some ⟨r, 0, none⟩) (k - 1) cap) (k - 1) (ints (asInts (q.eraseIdx fl))) ∧ But (fun j => j = r) wr w2) := ⟨hown2, hbut2⟩
   clear hown2 hbut2
   go_wp2_with fail
   go_ret2
   rw [HPick.out.1]
   unfold LeastTaken
   rw [HL.out, HPick.out.2]
   exact ⟨rfl, HO.out.1, HBw.out.trans HO.out.2⟩
set_option maxRecDepth 100000 in
set_option maxHeartbeats 4000000 in
theorem takeLeastB (B : Nat) (f : Nat) (x1 : Value) (key : Nat → Int) (n r cap : Nat) (q : List Nat) (w : World) (hn : q.length ≤ 1000) (h0 : 0 < q.length) (hq : ∀ k, k ∈ q → k < n)
  (h2 : w.ownsRow B 3 1 (.slice (some ⟨r, 0, none⟩) q.length cap) q.length (ints (asInts q))) (hlc : q.length ≤ cap) (hcm : cap ≤ maxLen)
  (hf : ∀ args W, Sem.run Tryz.prog (callFunc f args) W = .ok (.enter f args) W)
  (hM : ∀ m k, k < n → Calls Tryz.prog f #[x1, .int .i64 ((k : Nat) : Int)] (w.drewN m) fun e w' => e = .returned (.int .i64 (key k)) ∧ ∃ m', w' = (w.drewN m).drewN m') :
  Calls Tryz.prog 159 #[.slice (some ⟨r, 0, none⟩) q.length cap, .func (.func f) #[x1] #[]] w fun e w' => LeastTaken B w r cap q (pickAt key q) e w' := by
 have HM : Hid (∀ m k, k < n → Calls Tryz.prog f #[x1, .int .i64 ((k : Nat) : Int)] (w.drewN m) fun e w' => e = .returned (.int .i64 (key k)) ∧ ∃ m', w' = (w.drewN m).drewN m') := hM
 have hcell := (fun (i : Nat) x (hx : (asInts q)[i]? = some x) => (h2.cellAt i (by have := lt_of_get hx; rw [asInts_length] at this; omega)).trans (ints_get hx) : ∀ (i : Nat) x, (asInts q)[i]? = some x → w.cell? ⟨r, i, none⟩ = some (.int .i64 x))
 have H2 : Hid (w.ownsRow B 3 1 (.slice (some ⟨r, 0, none⟩) (asInts q).length cap) (asInts q).length (ints (asInts q)) ∧ cap ≤ maxLen ∧ (asInts q).length ≤ cap) := by rw [asInts_length]; exact ⟨h2, hcm, hlc⟩
 have HC : Hid (∀ i, i < q.length → ∃ k, q[i]? = some k ∧ q.getD i 0 = k ∧ k < n ∧ w.cell? ⟨r, i, none⟩ = some (.int .i64 ((k : Nat) : Int))) := fun i hi => by
  obtain ⟨k, hk, hmem⟩ := get_some q i hi
  exact ⟨k, hk, by simp [List.getD, hk], hq k hmem, hcell i _ (asInts_get hk)⟩
 unfold maxLen at hcm
 clear h2 hq hM hcell
 obtain ⟨l, hl⟩ : ∃ l, q.length = l := ⟨_, rfl⟩
 have HL : Hid (q.length = l) := hl
 rw [hl] at hn h0 hlc HC ⊢
 clear hl
 go_enter Tryz.func159, Tryz.ntmps159
 go_wp2_with fail
 go_loopw [6, 11] (fun fi i wr => ∃ k : Nat, k ≤ l ∧ i = .int .i64 k ∧ fi = .int .i64 (firstLeast key q k) ∧ ∃ m, wr = w.drewN m) (fun _ i _ => l - (intOf i).toNat)
 case atStart => exact ⟨0, Nat.zero_le _, rfl, rfl, 0, rfl⟩
 case round =>
  obtain ⟨k, hk, rfl, rfl, m, hm⟩ := hrel
  have HW : Hid (wr = w.drewN m) := hm
  by_cases hkl : k < l
  ·
   have hfl : firstLeast key q k < l := by rw [← HL.out]; exact firstLeast_lt key (by rw [HL.out]; exact h0) (by rw [HL.out]; exact hk)
   obtain ⟨fl, hfe⟩ : ∃ fl, firstLeast key q k = fl := ⟨_, rfl⟩
   obtain ⟨a, ha, had, han, ca⟩ := HC.out k hkl
   rw [hfe] at hfl ⊢
   obtain ⟨b, hb, hbd, hbn, cb⟩ := HC.out fl hfl
   have HE : Hid (firstLeast key q (k + 1) = if key a < key b then k else fl) := by
    show firstLeast key q (k + 1) = _
    simp only [firstLeast, had, hfe, hbd]
   have da : wr.cell? ⟨r, k, none⟩ = some (.int .i64 (a : Int)) := by rw [hm]; exact ca
   have db : wr.cell? ⟨r, fl, none⟩ = some (.int .i64 (b : Int)) := by rw [hm]; exact cb
   have HMa : Hid (∀ j, Calls Tryz.prog f #[x1, .int .i64 ((a : Nat) : Int)] (wr.drewN j) fun e w' => e = .returned (.int .i64 (key a)) ∧ ∃ m', w' = (wr.drewN j).drewN m') := fun j => by
    have := HM.out (m + j) a han
    rw [hm, World.drewN_drewN]
    exact this
   have HMb : Hid (∀ j, Calls Tryz.prog f #[x1, .int .i64 ((b : Nat) : Int)] (wr.drewN j) fun e w' => e = .returned (.int .i64 (key b)) ∧ ∃ m', w' = (wr.drewN j).drewN m') := fun j => by
    have := HM.out (m + j) b hbn
    rw [hm, World.drewN_drewN]
    exact this
   clear hfe ha had hb hbd ca cb hm
   by_cases hlt : key a < key b
   ·
    have HE' : Hid (firstLeast key q (k + 1) = k) := HE.out.trans (if_pos hlt)
    go_wp2_with fail
    go_quiet (first
     | exact Calls.quiet_of (HMa.out _)
     | exact Calls.quiet_of (HMb.out _))
    go_wp2_with fail
    go_roundw
    case rel => exact ⟨k + 1, by omega, by go_num, by rw [HE'.out], m + nq, by rw [HW.out, World.drewN_drewN]⟩
    case measure => simp [intOf]; omega
   ·
    have HE' : Hid (firstLeast key q (k + 1) = fl) := HE.out.trans (if_neg hlt)
    go_wp2_with fail
    go_quiet (first
     | exact Calls.quiet_of (HMa.out _)
     | exact Calls.quiet_of (HMb.out _))
    go_wp2_with fail
    go_roundw
    case rel => exact ⟨k + 1, by omega, by go_num, by rw [HE'.out], m + nq, by rw [HW.out, World.drewN_drewN]⟩
    case measure => simp [intOf]; omega
  ·
   obtain rfl : k = l := by omega
   have hfl : firstLeast key q k < k := by rw [← HL.out]; exact firstLeast_lt key (by rw [HL.out]; exact h0) (Nat.le_refl _)
   obtain ⟨fl, hfe⟩ : ∃ fl, firstLeast key q k = fl := ⟨_, rfl⟩
   rw [hfe] at hfl ⊢
   obtain ⟨b, hb, hbd, hbn, cb⟩ := HC.out fl hfl
   have db : wr.cell? ⟨r, fl, none⟩ = some (.int .i64 (b : Int)) := by rw [hm]; exact cb
   have HPick : Hid (pickAt key q = fl ∧ q.getD fl 0 = b) := ⟨by unfold pickAt; rw [HL.out]; exact hfe, hbd⟩
   have HBw : Hid (But (fun j => j = r) w wr) := by
    show But _ _ _
    rw [hm]
    exact .ofBelow (below_drewN (Below.refl _ _) _)
   have HDel : Hid (Calls Tryz.prog 165 #[.slice (some ⟨r, 0, none⟩) k cap, .int .i64 (fl : Int), .int .i64 ((fl : Int) + 1)] wr fun e w' => e = .returned (.slice (some ⟨r, 0, none⟩) (k - 1) cap) ∧ w'.ownsRow B 3 1 (.slice (some ⟨r, 0, none⟩) (k - 1) cap) (k - 1) (ints (asInts (q.eraseIdx fl))) ∧ But (fun j => j = r) wr w') := by
    have hown : wr.ownsRow B 3 1 (.slice (some ⟨r, 0, none⟩) (asInts q).length cap) (asInts q).length (ints (asInts q)) := by rw [hm]; exact H2.out.1
    have hd := delete_one B r cap fl (asInts q) wr hown (by rw [asInts_length, HL.out]; exact hfl) H2.out.2.2 H2.out.2.1
    rw [asInts_length, HL.out, asInts_erase] at hd
    exact hd
   clear hfe hb hbd cb hm
   go_wp2_with fail
   refine HDel.out.mono ?_
   rintro e w2 ⟨rfl, hown2, hbut2⟩
   have HO : Hid (w2.ownsRow B 3 1 (.slice (some ⟨r, 0, none⟩) (k - 1) cap) (k - 1) (ints (asInts (q.eraseIdx fl))) ∧ But (fun j => j = r) wr w2) := ⟨hown2, hbut2⟩
   clear hown2 hbut2
   go_wp2_with fail
   go_ret2
   rw [HPick.out.1]
   unfold LeastTaken
   rw [HL.out, HPick.out.2]
   exact ⟨rfl, HO.out.1, HBw.out.trans HO.out.2⟩
end Go.Proofs.YtibhkijaafdkoaaGreatDoor
