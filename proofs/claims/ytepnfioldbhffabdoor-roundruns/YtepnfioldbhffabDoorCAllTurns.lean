/- Own facts, put together: no statement of its own. -/
import Derived.Deep.RegionLaw
import Derived.BigRegion
import Derived.Deep.AppendLies
import Derived.Test.YtepnfioldbhffabDoorCAllRankQs
import Derived.Test.YtepnfioldbhffabDoorCSlide
import Derived.Test.YtepnfioldbhffabDoorCAllRounds
import Derived.Test.YtepnfioldbhffabDoorCAllNums
import Derived.Test.YtepnfioldbhffabDoorCAllLinks
import Derived.Test.YtepnfioldbhffabDoorCRankRun

/- The queue that serves flows round by round, in memory. -/
namespace Go.Proofs.YtepnfioldbhffabDoor
open Go.RowKit

/-- The number of the flow that is served; -1: none. -/
def srvInt : Option Nat → Int
  | some f => f
  | none => -1
/-- The cells of the variable that the queue's methods share. -/
structure TurnCells (w : World) (g : Nat) (pv qv : Value) (vq : Nat → Value) (cr : Nat → Int) (rv : Value) (sv : Int) (n : Nat) : Prop where
  c0 : w.cell? ⟨g, 0, none⟩ = some pv
  c1 : w.cell? ⟨g, 1, none⟩ = some qv
  cq : ∀ f, f < 8 → w.cell? ⟨g, 2 + f, none⟩ = some (vq f)
  cc : ∀ f, f < 8 → w.cell? ⟨g, 10 + f, none⟩ = some (.int .i64 (cr f))
  cr_ : w.cell? ⟨g, 18, none⟩ = some rv
  cs : w.cell? ⟨g, 19, none⟩ = some (.int .i64 sv)
  cn : w.cell? ⟨g, 20, none⟩ = some (.int .i64 (n : Int))
  free : ∀ i, w.frozen? ⟨g, i, none⟩ = false
section
variable {w w' : World} {g : Nat} {pv qv : Value} {vq : Nat → Value} {cr : Nat → Int} {rv : Value} {sv : Int} {n : Nat}
theorem TurnCells.lt (h : TurnCells w g pv qv vq cr rv sv n) : g < w.heap.size := cell_lt h.c0
theorem TurnCells.but {S : Nat → Prop} (h : TurnCells w g pv qv vq cr rv sv n) (hb : But S w w') (hs : ¬ S g) : TurnCells w' g pv qv vq cr rv sv n := by
  have e : ∀ i, w'.cell? ⟨g, i, none⟩ = w.cell? ⟨g, i, none⟩ := fun i => hb.cell (p := ⟨g, i, none⟩) h.lt hs
  exact ⟨by rw [e]; exact h.c0, by rw [e]; exact h.c1, fun f hf => by rw [e]; exact h.cq f hf, fun f hf => by rw [e]; exact h.cc f hf, by rw [e]; exact h.cr_, by rw [e]; exact h.cs, by rw [e]; exact h.cn, fun i => by rw [hb.frozen (p := ⟨g, i, none⟩) h.lt hs]; exact h.free i⟩
theorem far (w : World) (g i j : Nat) (v : Value) (h : i ≠ j) : (w.setCell ⟨g, i, none⟩ v).cell? ⟨g, j, none⟩ = w.cell? ⟨g, j, none⟩ :=
  World.cell?_setCell_other _ _ _ _ (fun e => h (by injection e))
theorem TurnCells.setQ (h : TurnCells w g pv qv vq cr rv sv n) {f : Nat} (hf : f < 8) (v : Value) : TurnCells (w.setCell ⟨g, 2 + f, none⟩ v) g pv qv (put1 vq f v) cr rv sv n := by
  refine ⟨by rw [far _ _ _ _ _ (by omega)]; exact h.c0, by rw [far _ _ _ _ _ (by omega)]; exact h.c1, fun j hj => ?_, fun j hj => by rw [far _ _ _ _ _ (by omega)]; exact h.cc j hj, by rw [far _ _ _ _ _ (by omega)]; exact h.cr_, by rw [far _ _ _ _ _ (by omega)]; exact h.cs, by rw [far _ _ _ _ _ (by omega)]; exact h.cn, fun i => by rw [World.frozen?_setCell]; exact h.free i⟩
  by_cases e : j = f
  · subst e
    rw [put1_same]
    exact World.cell?_setCell_same _ _ _ (h.cq j hj)
  · rw [put1_other _ _ e, far _ _ _ _ _ (by omega)]
    exact h.cq j hj
theorem TurnCells.setC (h : TurnCells w g pv qv vq cr rv sv n) {f : Nat} (hf : f < 8) (x : Int) : TurnCells (w.setCell ⟨g, 10 + f, none⟩ (.int .i64 x)) g pv qv vq (put1 cr f x) rv sv n := by
  refine ⟨by rw [far _ _ _ _ _ (by omega)]; exact h.c0, by rw [far _ _ _ _ _ (by omega)]; exact h.c1, fun j hj => by rw [far _ _ _ _ _ (by omega)]; exact h.cq j hj, fun j hj => ?_, by rw [far _ _ _ _ _ (by omega)]; exact h.cr_, by rw [far _ _ _ _ _ (by omega)]; exact h.cs, by rw [far _ _ _ _ _ (by omega)]; exact h.cn, fun i => by rw [World.frozen?_setCell]; exact h.free i⟩
  by_cases e : j = f
  · subst e
    rw [put1_same]
    exact World.cell?_setCell_same _ _ _ (h.cc j hj)
  · rw [put1_other _ _ e, far _ _ _ _ _ (by omega)]
    exact h.cc j hj
theorem TurnCells.setR (h : TurnCells w g pv qv vq cr rv sv n) (v : Value) : TurnCells (w.setCell ⟨g, 18, none⟩ v) g pv qv vq cr v sv n :=
  ⟨by rw [far _ _ _ _ _ (by omega)]; exact h.c0, by rw [far _ _ _ _ _ (by omega)]; exact h.c1, fun j hj => by rw [far _ _ _ _ _ (by omega)]; exact h.cq j hj, fun j hj => by rw [far _ _ _ _ _ (by omega)]; exact h.cc j hj, World.cell?_setCell_same _ _ _ h.cr_, by rw [far _ _ _ _ _ (by omega)]; exact h.cs, by rw [far _ _ _ _ _ (by omega)]; exact h.cn, fun i => by rw [World.frozen?_setCell]; exact h.free i⟩
theorem TurnCells.setS (h : TurnCells w g pv qv vq cr rv sv n) (x : Int) : TurnCells (w.setCell ⟨g, 19, none⟩ (.int .i64 x)) g pv qv vq cr rv x n :=
  ⟨by rw [far _ _ _ _ _ (by omega)]; exact h.c0, by rw [far _ _ _ _ _ (by omega)]; exact h.c1, fun j hj => by rw [far _ _ _ _ _ (by omega)]; exact h.cq j hj, fun j hj => by rw [far _ _ _ _ _ (by omega)]; exact h.cc j hj, by rw [far _ _ _ _ _ (by omega)]; exact h.cr_, World.cell?_setCell_same _ _ _ h.cs, by rw [far _ _ _ _ _ (by omega)]; exact h.cn, fun i => by rw [World.frozen?_setCell]; exact h.free i⟩
theorem TurnCells.setN (h : TurnCells w g pv qv vq cr rv sv n) (x : Nat) : TurnCells (w.setCell ⟨g, 20, none⟩ (.int .i64 (x : Int))) g pv qv vq cr rv sv x :=
  ⟨by rw [far _ _ _ _ _ (by omega)]; exact h.c0, by rw [far _ _ _ _ _ (by omega)]; exact h.c1, fun j hj => by rw [far _ _ _ _ _ (by omega)]; exact h.cq j hj, fun j hj => by rw [far _ _ _ _ _ (by omega)]; exact h.cc j hj, by rw [far _ _ _ _ _ (by omega)]; exact h.cr_, by rw [far _ _ _ _ _ (by omega)]; exact h.cs, World.cell?_setCell_same _ _ _ h.cn, fun i => by rw [World.frozen?_setCell]; exact h.free i⟩
end

/-- The blocks that are the queue's own. -/
def turnFoot (g : Nat) (F : Nat → Nat → Prop) (rv : Value) (k : Nat) : Prop := k = g ∨ (∃ f, f < 8 ∧ F f k) ∨ rv.ownBlock = some k
/-- The queue in memory, part by part. -/
structure TurnsAt (B g : Nat) (pv qv : Value) (w : World) (vq : Nat → Value) (F : Nat → Nat → Prop) (rv : Value) (d : Drr) (n : Nat) : Prop where
  cells : TurnCells w g pv qv vq d.cr rv (srvInt d.srv) n
  queue : ∀ f, f < 8 → Slides w B (vq f) (F f) (d.qs f)
  row : w.ownsRow B 3 1 rv d.row.length (ints (asInts d.row))
  apart : ∀ f, f < 8 → ¬ F f g ∧ (∀ k, F f k → rv.ownBlock ≠ some k) ∧ ∀ f' k, f' < 8 → F f k → F f' k → f = f'
  rowg : rv.ownBlock ≠ some g
  le : B ≤ g
section
variable {B g : Nat} {pv qv : Value} {w w' : World} {vq : Nat → Value} {F : Nat → Nat → Prop} {rv : Value} {d : Drr} {n : Nat}
theorem TurnsAt.foot (h : TurnsAt B g pv qv w vq F rv d n) : ∀ k, turnFoot g F rv k → B ≤ k ∧ k < w.heap.size := by
  rintro k (rfl | ⟨f, hf, hk⟩ | hk)
  · exact ⟨h.le, h.cells.lt⟩
  · exact (h.queue f hf).foot k hk
  · exact ownsRow_lt h.row hk
theorem TurnsAt.but {S : Nat → Prop} (h : TurnsAt B g pv qv w vq F rv d n) (hb : But S w w') (hs : ∀ k, turnFoot g F rv k → ¬ S k) : TurnsAt B g pv qv w' vq F rv d n :=
  ⟨h.cells.but hb (hs g (.inl rfl)), fun f hf => (h.queue f hf).but hb (fun k hk => hs k (.inr (.inl ⟨f, hf, hk⟩))), ownsRow_of_block h.row (fun k hv hk => hb.block k hk (hs k (.inr (.inr hv)))), h.apart, h.rowg, h.le⟩
theorem TurnsAt.later (h : TurnsAt B g pv qv w vq F rv d n) (hb : Below w.heap.size w w') : TurnsAt B g pv qv w' vq F rv d n := h.but (S := fun _ => False) (.ofBelow hb) (fun _ _ h => h)
theorem butG (w : World) (g i : Nat) (v : Value) : But (fun k => k = g) w (w.setCell ⟨g, i, none⟩ v) := But.setCell (S := fun k => k = g) (But.refl _ w) (p := ⟨g, i, none⟩) rfl v
theorem TurnsAt.apartG (h : TurnsAt B g pv qv w vq F rv d n) (i : Nat) (v : Value) : (∀ f, f < 8 → Slides (w.setCell ⟨g, i, none⟩ v) B (vq f) (F f) (d.qs f)) ∧ (w.setCell ⟨g, i, none⟩ v).ownsRow B 3 1 rv d.row.length (ints (asInts d.row)) :=
  ⟨fun f hf => (h.queue f hf).but (butG w g i v) (fun k hk e => (h.apart f hf).1 (by rw [← e]; exact hk)), ownsRow_of_block h.row (fun k hv hk => (butG w g i v).block k hk (fun e => h.rowg (by rw [← e]; exact hv)))⟩
/-- A credit takes another value. -/
theorem TurnsAt.setC (h : TurnsAt B g pv qv w vq F rv d n) {f : Nat} (hf : f < 8) (x : Int) : TurnsAt B g pv qv (w.setCell ⟨g, 10 + f, none⟩ (.int .i64 x)) vq F rv { d with cr := put1 d.cr f x } n :=
  ⟨h.cells.setC hf x, (h.apartG _ _).1, (h.apartG _ _).2, h.apart, h.rowg, h.le⟩
theorem TurnsAt.setS (h : TurnsAt B g pv qv w vq F rv d n) {x : Int} (s : Option Nat) (hs : srvInt s = x) : TurnsAt B g pv qv (w.setCell ⟨g, 19, none⟩ (.int .i64 x)) vq F rv { d with srv := s } n :=
  ⟨by rw [← hs]; exact h.cells.setS _, (h.apartG _ _).1, (h.apartG _ _).2, h.apart, h.rowg, h.le⟩
theorem TurnsAt.setN (h : TurnsAt B g pv qv w vq F rv d n) {x : Int} (m : Nat) (hx : (m : Int) = x) : TurnsAt B g pv qv (w.setCell ⟨g, 20, none⟩ (.int .i64 x)) vq F rv d m :=
  ⟨by rw [← hx]; exact h.cells.setN m, (h.apartG _ _).1, (h.apartG _ _).2, h.apart, h.rowg, h.le⟩
/-- The row is another one, in its old block or in a new one (w1: the world as it was before the row's own block was written). -/
theorem TurnsAt.setR (h : TurnsAt B g pv qv w vq F rv d n) {w2 : World} {v' : Value} {r' : List Nat} (hbut : But (fun k => rv.ownBlock = some k) w w2) (hown : w2.ownsRow B 3 1 v' r'.length (ints (asInts r'))) (hnew : ∀ k, v'.ownBlock = some k → rv.ownBlock = some k ∨ w.heap.size ≤ k) :
    TurnsAt B g pv qv (w2.setCell ⟨g, 18, none⟩ v') vq F v' { d with row := r' } n := by
  have hg : v'.ownBlock ≠ some g := fun e => by
    rcases hnew g e with h' | h'
    · exact h.rowg h'
    · have := h.cells.lt; omega
  refine ⟨(h.cells.but hbut (fun e => h.rowg e)).setR v', fun f hf => ?_, ?_, fun f hf => ⟨(h.apart f hf).1, fun k hk e => ?_, (h.apart f hf).2.2⟩, hg, h.le⟩
  · exact ((h.queue f hf).but hbut (fun k hk e => (h.apart f hf).2.1 k hk e)).but (butG w2 g 18 v') (fun k hk e => (h.apart f hf).1 (by rw [← e]; exact hk))
  · exact ownsRow_of_block hown (fun k hv hk => (butG w2 g 18 v').block k hk (fun e => hg (by rw [← e]; exact hv)))
  · rcases hnew k e with h' | h'
    · exact (h.apart f hf).2.1 k hk h'
    · have := ((h.queue f hf).foot k hk).2; omega
/-- A flow's queue is another one. -/
theorem TurnsAt.setQ (h : TurnsAt B g pv qv w vq F rv d n) {f : Nat} (hf : f < 8) {w2 : World} {v' : Value} {F' : Nat → Prop} {q' : List Nat} (hbut : But (F f) w w2) (hsl : Slides w2 B v' F' q') (hnew : ∀ k, F' k → F f k ∨ w.heap.size ≤ k) :
    TurnsAt B g pv qv (w2.setCell ⟨g, 2 + f, none⟩ v') (put1 vq f v') (put1 F f F') rv { d with qs := put1 d.qs f q' } n := by
  have hFg : ¬ F' g := fun e => by
    rcases hnew g e with h' | h'
    · exact (h.apart f hf).1 h'
    · have := h.cells.lt; omega
  have hG := butG w2 g (2 + f) v'
  refine ⟨(h.cells.but hbut (h.apart f hf).1).setQ hf v', fun j hj => ?_, ?_, fun j hj => ?_, h.rowg, h.le⟩
  · by_cases e : j = f
    · subst e
      show Slides _ B (put1 vq j v' j) (put1 F j F' j) (put1 d.qs j q' j)
      rw [put1_same, put1_same, put1_same]
      exact hsl.but hG (fun k hk e => hFg (by rw [← e]; exact hk))
    · show Slides _ B (put1 vq f v' j) (put1 F f F' j) (put1 d.qs f q' j)
      rw [put1_other _ _ e, put1_other _ _ e, put1_other _ _ e]
      exact ((h.queue j hj).but hbut (fun k hk hk' => e ((h.apart j hj).2.2 f k hf hk hk'))).but hG (fun k hk e' => (h.apart j hj).1 (by rw [← e']; exact hk))
  · refine ownsRow_of_block (ownsRow_of_block h.row (fun k hv hk => hbut.block k hk (fun hF => (h.apart f hf).2.1 k hF hv))) (fun k hv hk => hG.block k hk (fun e => h.rowg (by rw [← e]; exact hv)))
  · have key : ∀ i, i < 8 → ∀ k, put1 F f F' i k → (i = f ∧ F' k) ∨ (i ≠ f ∧ F i k) := fun i _ k hk => by
      by_cases e : i = f
      · subst e; rw [put1_same] at hk; exact .inl ⟨rfl, hk⟩
      · rw [put1_other _ _ e] at hk; exact .inr ⟨e, hk⟩
    have hold : ∀ k, F' k → ∀ i, i < 8 → i ≠ f → F i k → False := fun k hk i hi hne hik => by
      rcases hnew k hk with h' | h'
      · exact hne ((h.apart i hi).2.2 f k hf hik h')
      · have := ((h.queue i hi).foot k hik).2; omega
    refine ⟨fun hk => ?_, fun k hk e => ?_, fun j' k hj' hk hk' => ?_⟩
    · rcases key j hj g hk with ⟨-, hk⟩ | ⟨-, hk⟩
      · exact hFg hk
      · exact (h.apart j hj).1 hk
    · rcases key j hj k hk with ⟨-, hk⟩ | ⟨-, hk⟩
      · rcases hnew k hk with h' | h'
        · exact (h.apart f hf).2.1 k h' e
        · have := (ownsRow_lt h.row e).2; omega
      · exact (h.apart j hj).2.1 k hk e
    · rcases key j hj k hk with ⟨e1, hk⟩ | ⟨e1, hk⟩
      · rcases key j' hj' k hk' with ⟨e2, hk'⟩ | ⟨e2, hk'⟩
        · rw [e1, e2]
        · exact (hold k hk j' hj' e2 hk').elim
      · rcases key j' hj' k hk' with ⟨e2, hk'⟩ | ⟨e2, hk'⟩
        · exact (hold k hk' j hj e1 hk).elim
        · exact (h.apart j hj).2.2 j' k hj' hk hk'
end

/-- The queue in memory: what lies below B is as it was in W0. -/
structure HeldT (B : Nat) (W0 : World) (g : Nat) (pv qv : Value) (w : World) (D : Nat → Prop) (q : TQ) : Prop where
  env : Below B W0 w
  parts : ∃ vq F rv, TurnsAt B g pv qv w vq F rv q.d q.n ∧ ∀ k, D k ↔ turnFoot g F rv k
section
variable {B : Nat} {W0 : World} {g : Nat} {pv qv : Value} {w w' : World} {D : Nat → Prop} {q : TQ}
theorem HeldT.foot (h : HeldT B W0 g pv qv w D q) : ∀ k, D k → B ≤ k ∧ k < w.heap.size := by
  obtain ⟨vq, F, rv, h1, h2⟩ := h.parts
  exact fun k hk => h1.foot k ((h2 k).1 hk)
theorem HeldT.le (h : HeldT B W0 g pv qv w D q) : B ≤ w.heap.size := by
  obtain ⟨vq, F, rv, h1, h2⟩ := h.parts
  have := h1.cells.lt
  have := h1.le
  omega
theorem HeldT.but {S : Nat → Prop} (h : HeldT B W0 g pv qv w D q) (hb : But S w w') (hs : ∀ k, D k → ¬ S k) (hB : ∀ k, S k → B ≤ k) : HeldT B W0 g pv qv w' D q := by
  obtain ⟨vq, F, rv, h1, h2⟩ := h.parts
  exact ⟨h.env.trans (hb.below h.le hB), vq, F, rv, h1.but hb (fun k hk => hs k ((h2 k).2 hk)), h2⟩
theorem HeldT.later (h : HeldT B W0 g pv qv w D q) (hb : Below w.heap.size w w') : HeldT B W0 g pv qv w' D q := h.but (S := fun _ => False) (.ofBelow hb) (fun _ _ h => h) (fun _ h => h.elim)
theorem HeldT.alloc (h : HeldT B W0 g pv qv w D q) (o : Obj) : HeldT B W0 g pv qv (w.alloc o) D q := h.later ((Below.refl _ _).alloc (Nat.le_refl _) _)
theorem turnsMem (B : Nat) (W0 : World) (g : Nat) (pv qv : Value) : QueMem (HeldT B W0 g pv qv) B := ⟨fun _ _ _ h => h.foot, fun _ _ _ _ _ h hb hs hB => h.but hb hs hB⟩
theorem HeldT.same (h : HeldT B W0 g pv qv w D q) (hb : Below w.heap.size w w') : QueLeft (HeldT B W0 g pv qv) w w' D q := ⟨D, h.later hb, .ofBelow hb, fun _ hk => .inl hk⟩
/-- What a call leaves, part by part. -/
theorem HeldT.leaves {vq' : Nat → Value} {F F' : Nat → Nat → Prop} {rv rv' : Value} {q' : TQ} (h : HeldT B W0 g pv qv w D q) (hD : ∀ k, D k ↔ turnFoot g F rv k) (hbut : But D w w') (hat : TurnsAt B g pv qv w' vq' F' rv' q'.d q'.n) (hnew : ∀ k, turnFoot g F' rv' k → turnFoot g F rv k ∨ w.heap.size ≤ k) : QueLeft (HeldT B W0 g pv qv) w w' D q' :=
  ⟨turnFoot g F' rv', ⟨h.env.trans (hbut.below h.le fun k hk => (h.foot k hk).1), vq', F', rv', hat, fun _ => Iff.rfl⟩, hbut, fun k hk => by
    rcases hnew k hk with h' | h'
    · exact .inl ((hD k).2 h')
    · exact .inr h'⟩
theorem QueLeft.then {w1 : World} {q' q'' : TQ} (h : QueLeft (HeldT B W0 g pv qv) w w1 D q') (k : ∀ D', HeldT B W0 g pv qv w1 D' q' → QueLeft (HeldT B W0 g pv qv) w1 w' D' q'') : QueLeft (HeldT B W0 g pv qv) w w' D q'' := by
  obtain ⟨D1, h1, h2, h3⟩ := h
  obtain ⟨D2, k1, k2, k3⟩ := k D1 h1
  refine ⟨D2, k1, ?_, fun j hj => ?_⟩
  · refine ⟨k2.os.trans h2.os, k2.tape.trans h2.tape, k2.output.trans h2.output, Nat.le_trans h2.size k2.size, fun j hj hn => ?_⟩
    rw [k2.block j (Nat.lt_of_lt_of_le hj h2.size) (fun hD => ?_)]
    · exact h2.block j hj hn
    · rcases h3 j hD with h' | h'
      · exact hn h'
      · omega
  · rcases k3 j hj with h' | h'
    · exact h3 j h'
    · have := h2.size; exact .inr (by omega)
end
end Go.Proofs.YtepnfioldbhffabDoor

/- Walks: the queue that serves flows round by round: what rests, whether the first one can be sent. -/
namespace Go.Proofs.YtepnfioldbhffabDoor
open Go.RowKit

set_option maxHeartbeats 1000000 in
theorem turnsRest (B : Nat) (W0 : World) (g : Nat) (pv qv : Value) (D : Nat → Prop) (q : TQ) (w : World) (h : HeldT B W0 g pv qv w D q) :
    Calls Tryd.prog 90 #[.pointer (some ⟨g, 0, none⟩)] w fun e w' => e = .returned (.int .i64 (q.n : Int)) ∧ w' = w := by
  obtain ⟨vq, F, rv, h1, h2⟩ := h.parts
  have c20 := h1.cells.cn
  clear h1 h2 h
  go_enter Tryd.func90, Tryd.ntmps90
  go_wp2
  go_ret
  exact ⟨rfl, rfl⟩

set_option maxRecDepth 100000 in
set_option maxHeartbeats 2000000 in
/-- Can the first packet of the flow that is served be sent? -/
theorem turnsCan (B g : Nat) (pa : Option Addr) (pcap : Nat) (qv : Value) (ps : List Pk) (vq : Nat → Value) (F : Nat → Nat → Prop) (rv : Value) (d : Drr) (n : Nat) (w : World) (h : TurnsAt B g (.slice pa ps.length pcap) qv w vq F rv d n) (hl : LiesP w pa ps) (hlen : ps.length ≤ 300) (f k : Nat) (r : List Nat) (p : Pk) (hs : d.srv = some f) (hf : f < 8) (hk : d.qs f = k :: r) (hp : ps[k]? = some p) (b : Bool) (hb : decide (p.size ≤ d.cr f) = b) :
    Calls Tryd.prog 105 #[.pointer (some ⟨g, 0, none⟩)] w fun e w' => e = .returned (.bool b) ∧ ∃ m, w' = w.drewN m := by
  have hkl := lt_of_get hp
  obtain ⟨pb, off, rfl, hlt, hc⟩ := hl.place (by omega)
  have cp := (hc k p hp).2.1
  have hsl := h.queue f hf
  rw [hk] at hsl
  obtain ⟨qb, qo, cap, hv, hcap, hmx, ck, -, -, -⟩ := hsl.first
  have c0 := h.cells.c0
  have cs := h.cells.cs
  have cq := h.cells.cq f hf
  have cc := h.cells.cc f hf
  rw [hv] at cq
  rw [hs] at cs
  have cs' : w.cell? ⟨g, 19, none⟩ = some (.int .i64 (f : Int)) := cs
  obtain ⟨x, hx⟩ : ∃ x, d.cr f = x := ⟨_, rfl⟩
  obtain ⟨y, hy⟩ : ∃ y, p.size = y := ⟨_, rfl⟩
  rw [hx] at cc hb
  rw [hy] at cp hb
  obtain ⟨m, hm⟩ : ∃ m, r.length + 1 = m := ⟨_, rfl⟩
  rw [hm] at cq hcap
  have hm0 : 0 < m := by omega
  have hml : m ≤ maxLen := Nat.le_trans hcap hmx
  unfold maxLen at hmx hml
  have hmm : decide ((m : Int) ≤ 0) = false := by simp; omega
  clear h hl hc hsl hv hs cs hk hp hx hy hm
  go_enter Tryd.func105, Tryd.ntmps105
  go_wp2_with fail
  go_quiet (fail)
  obtain ⟨V, hV⟩ : ∃ V, w.drewN nq = V := ⟨_, rfl⟩
  have HV : Hid (w.drewN nq = V) := hV
  have d0 : V.cell? ⟨g, 0, none⟩ = some (.slice (some ⟨pb, off, none⟩) ps.length pcap) := by rw [← hV]; exact c0
  have ds : V.cell? ⟨g, 19, none⟩ = some (.int .i64 (f : Int)) := by rw [← hV]; exact cs'
  have dc : V.cell? ⟨g, 10 + f, none⟩ = some (.int .i64 x) := by rw [← hV]; exact cc
  have dp : V.cell? ⟨pb, off + k * 3 + 1, none⟩ = some (.int .i64 y) := by rw [← hV]; exact cp
  rw [hV]
  clear hV c0 cs' cc cp cq ck
  go_wp2_with fail
  go_quiet (fail)
  go_wp2_with fail
  go_ret
  exact ⟨rfl, _, by rw [← HV.out, World.drewN_drewN]⟩
end Go.Proofs.YtepnfioldbhffabDoor

/- Walks: the queue that serves flows round by round: one comes. -/
namespace Go.Proofs.YtepnfioldbhffabDoor
open Go.RowKit

/-- append of one number to a row that slides, in a region that draws its order. -/
theorem step_append_slide {P : Program} {w : World} {ops : Array Oper} {o : Oper} {a : Act} {K : Act → World → Prop} {Q : Exit → Act → World → Prop} {E : Prop} (hgd : o.guard = none) (s x : Operand) (t : TypeId)
    (ho : o.op = .call { callee := .builtin .append, args := #[s, x], argTypes := #[t, t] })
    (e : TypeId) (i : TypeInfo) (z : Value) (bytes : Nat) (ht : P.underlying t = some (.slice e)) (hi : P.info? e = some i) (hz : i.zero = some z) (hsize : i.size = 1) (hby : i.bytes = bytes) (hzs : z.cells.size = 1)
    (B : Nat) (v : Value) (F : Nat → Prop) (k : Nat) (xs : List Nat) (hs : a.eval s = v) (h : Slides w B v F xs) (hBw : B ≤ w.heap.size) (ad : Addr) (c : Nat) (hx : a.eval x = .slice (some ad) 1 c) (hk : w.cell? ad = some (.int .i64 (k : Int))) (h63 : xs.length + 1 ≤ maxLen) (hbytes : (xs.length + 1) * bytes ≤ 140737488355328)
    (hK : ∀ ao cap w', SlidesOn w w' B F ao (xs.length + 1) cap (xs ++ [k]) → K (a.put o.dst (.slice ao (xs.length + 1) cap)) w') :
    if Region.wanted o (yielded ops a.tmps) = true then Oper.wp P o a w K Q else E := by
  have hw : Region.wanted o (yielded ops a.tmps) = true := by simp [Region.wanted, hgd]
  rw [if_pos hw]
  obtain ⟨ao, cap, w', hrun, g1⟩ := run_append_slide (P := P) w t o.type e i z bytes ht hi hz hsize hby hzs B v F k xs h hBw ad c hk h63 hbytes
  unfold Oper.wp
  simp [execOp, ho, resolve, invoke, builtin, hs, hx, hrun, Result.andThen]
  exact hK ao cap w' g1

theorem foot_setQ {g f N k : Nat} {F : Nat → Nat → Prop} {F' : Nat → Prop} {rv : Value} (hf : f < 8) (h : ∀ k, F' k → F f k ∨ N ≤ k) (hk : turnFoot g (put1 F f F') rv k) : turnFoot g F rv k ∨ N ≤ k := by
  rcases hk with rfl | ⟨j, hj, hk⟩ | hk
  · exact .inl (.inl rfl)
  · by_cases e : j = f
    · subst e
      rw [put1_same] at hk
      rcases h k hk with h' | h'
      · exact .inl (.inr (.inl ⟨j, hj, h'⟩))
      · exact .inr h'
    · rw [put1_other _ _ e] at hk
      exact .inl (.inr (.inl ⟨j, hj, hk⟩))
  · exact .inl (.inr (.inr hk))
theorem foot_setR {g N k : Nat} {F : Nat → Nat → Prop} {rv v' : Value} (h : ∀ k, v'.ownBlock = some k → rv.ownBlock = some k ∨ N ≤ k) (hk : turnFoot g F v' k) : turnFoot g F rv k ∨ N ≤ k := by
  rcases hk with rfl | hk | hk
  · exact .inl (.inl rfl)
  · exact .inl (.inr (.inl hk))
  · rcases h k hk with h' | h'
    · exact .inl (.inr (.inr h'))
    · exact .inr h'
theorem row_few {ps : List Pk} {ns : List Int} {M : Int} {q : TQ} (h : TQOk ps ns M q) : q.d.row.length ≤ 8 := by
  have h8 : ∀ f, f ∈ q.d.line → f < 8 := fun f hf => by
    rcases Nat.lt_or_ge f 8 with h' | h'
    · exact h'
    · exact absurd (h.few f h') ((h.state.active f).1 hf)
  have h1 := sum_le (fun _ => 1) 1 8 q.d.line h.state.nodup h8 (fun _ => Nat.le_refl _)
  have h2 : (q.d.line.map fun _ => 1).sum = q.d.line.length := by
    generalize q.d.line = l
    induction l with
    | nil => rfl
    | cons a r ih => simp only [List.map_cons, List.sum_cons, List.length_cons, ih]; omega
  have h3 : q.d.row.length ≤ q.d.line.length := by
    unfold Drr.line
    cases q.d.srv <;> simp
  omega
/-- What a call of the queue leaves, in its own parts. -/
structure ComeEnd (B g : Nat) (pv qv : Value) (w w' : World) (F : Nat → Nat → Prop) (rv : Value) (d : Drr) (n : Nat) : Prop where
  at_ : ∃ vq' F' rv', TurnsAt B g pv qv w' vq' F' rv' d n ∧ ∀ k, turnFoot g F' rv' k → turnFoot g F rv k ∨ w.heap.size ≤ k
  but : But (turnFoot g F rv) w w'
theorem ComeEnd.left {B : Nat} {W0 : World} {g : Nat} {pv qv : Value} {w w' : World} {D : Nat → Prop} {q q' : TQ} {F : Nat → Nat → Prop} {rv : Value} (h : HeldT B W0 g pv qv w D q) (hD : ∀ k, D k ↔ turnFoot g F rv k) (he : ComeEnd B g pv qv w w' F rv q'.d q'.n) : QueLeft (HeldT B W0 g pv qv) w w' D q' := by
  obtain ⟨vq', F', rv', h1, h2⟩ := he.at_
  exact h.leaves hD (he.but.mono fun k hk => (hD k).2 hk) h1 h2

set_option maxRecDepth 100000 in
set_option maxHeartbeats 4000000 in
/-- One comes to a queue that is not empty. -/
theorem turnsCome_more (B g : Nat) (pa : Option Addr) (pcap : Nat) (qv : Value) (ps : List Pk) (vq : Nat → Value) (F : Nat → Nat → Prop) (rv : Value) (d : Drr) (n : Nat) (w : World) (h : TurnsAt B g (.slice pa ps.length pcap) qv w vq F rv d n) (hl : LiesP w pa ps) (hlen : ps.length ≤ 300) (k f : Nat) (p : Pk) (hp : ps[k]? = some p) (hpf : p.flow = (f : Int)) (hf : f < 8) (hq : d.qs f ≠ []) (hq3 : (d.qs f).length ≤ 300) (hn : n ≤ 1000) (hB : B ≤ w.heap.size) :
    Calls Tryd.prog 88 #[.pointer (some ⟨g, 0, none⟩), .int .i64 (k : Int)] w fun e w' => e = .returned (.tuple #[]) ∧ ComeEnd B g (.slice pa ps.length pcap) qv w w' F rv { d with qs := put1 d.qs f (d.qs f ++ [k]) } (n + 1) := by
  obtain ⟨i0, hi, hz0, hz1, hz2⟩ := info_parts Tryd.infoInt
  have hkl := lt_of_get hp
  obtain ⟨pb, off, rfl, hlt, hc⟩ := hl.place (by omega)
  have cp := (hc k p hp).1
  rw [hpf] at cp
  have hfi : (f : Int) < 8 := by omega
  have HW : Hid (TurnsAt B g (.slice (some ⟨pb, off, none⟩) ps.length pcap) qv w vq F rv d n) := h
  have HBW : Hid (B ≤ w.heap.size) := hB
  have HBut : Hid (But (turnFoot g F rv) w w) := But.refl _ _
  have HSz : Hid (w.heap.size ≤ w.heap.size) := Nat.le_refl _
  have c0 := h.cells.c0
  have hm0 : 0 < (d.qs f).length := List.length_pos_iff.2 hq
  obtain ⟨ao, cap, hv, hcap, hmx⟩ := (HW.out.queue f hf).form
  have cq := HW.out.cells.cq f hf
  rw [hv] at cq
  have HVq : Hid (vq f = .slice ao (d.qs f).length cap) := hv
  obtain ⟨xs, hxs⟩ : ∃ xs, d.qs f = xs := ⟨_, rfl⟩
  rw [hxs] at cq hcap hq3 HVq
  have HXs0 : Hid (d.qs f = xs) := hxs
  have hb0 : Below w.heap.size w (w.drew.alloc (.cells #[.int .i64 (k : Int)] 3)) := (Below.refl _ _).drew.alloc (Nat.le_refl _) _
  have HTa : Hid (TurnsAt B g (.slice (some ⟨pb, off, none⟩) ps.length pcap) qv (w.drew.alloc (.cells #[.int .i64 (k : Int)] 3)) vq F rv d n) := HW.out.later hb0
  have HS : Hid (Slides (w.drew.alloc (.cells #[.int .i64 (k : Int)] 3)) B (.slice ao xs.length cap) (F f) xs) := by
    have h1 := HTa.out.queue f hf
    have e : (d : Drr).qs f = xs := hxs
    rwa [HVq.out, e] at h1
  have HK : Hid ((w.drew.alloc (.cells #[.int .i64 (k : Int)] 3)).cell? ⟨w.heap.size, 0, none⟩ = some (.int .i64 (k : Int))) := (cell_of_row _ _ 0 _ _ _ (heap_alloc_new w.drew _)).trans rfl
  have HBs : Hid (B ≤ (w.drew.alloc (.cells #[.int .i64 (k : Int)] 3)).heap.size) := Nat.le_trans HBW.out hb0.size
  obtain ⟨m, hm⟩ : ∃ m, xs.length = m := ⟨_, rfl⟩
  have HM : Hid (xs.length = m) := hm
  rw [hm] at cq hcap hq3 HVq
  rw [HXs0.out, hm] at hm0
  have hmd : ((m : Int) == 0) = false := by simp; omega
  have hml : m ≤ maxLen := Nat.le_trans hcap hmx
  unfold maxLen at hmx hml
  have HXs : Hid (d.qs f = xs) := hxs
  have cqa : (w.alloc (.cells #[.int .i64 (k : Int)] 3)).cell? ⟨g, 2 + f, none⟩ = some (.slice ao m cap) := cell_later ((Below.refl _ _).alloc (Nat.le_refl _) _) cq
  clear hv hxs hm hb0
  clear h hl hc hp hpf hq hB
  go_enter Tryd.func88, Tryd.ntmps88
  go_wp2_with fail
  go_region_law
    (first
      | (refine step_append_slide rfl _ _ 32 rfl 3 i0 (.int .i64 0) 8 Tryd.underlying32 hi hz0 hz1 hz2 rfl B (.slice ao m cap) (F f) k xs rfl (by have := HS.out; rwa [HM.out] at this) HBs.out ⟨w.heap.size, 0, none⟩ 1 rfl HK.out (by rw [HM.out]; unfold maxLen; omega) (by rw [HM.out]; omega) ?_
         intro ao' cap' w2 hon
         rw [HM.out] at hon ⊢
         obtain ⟨F', g1, g2, g3⟩ := hon
         have HO : Hid (Slides w2 B (.slice ao' (m + 1) cap') F' (xs ++ [k]) ∧ (∀ k, F' k → F f k ∨ w.heap.size + 1 ≤ k) ∧ But (F f) (w.drew.alloc (.cells #[.int .i64 (k : Int)] 3)) w2) := ⟨g1, (by simpa using g2), g3⟩
         have y1 : w2.cell? ⟨g, 2 + f, none⟩ = some (.slice ao m cap) := by
           have := (HTa.out.cells.but g3 (HTa.out.apart f hf).1).cq f hf
           rwa [HVq.out] at this
         have y2 : w2.frozen? ⟨g, 2 + f, none⟩ = false := (HTa.out.cells.but g3 (HTa.out.apart f hf).1).free _
         clear g1 g2 g3)
      | fail)
  all_goals
    have HT2 : Hid (TurnsAt B g (.slice (some ⟨pb, off, none⟩) ps.length pcap) qv (w2.setCell ⟨g, 2 + f, none⟩ (.slice ao' (m + 1) cap')) (put1 vq f (.slice ao' (m + 1) cap')) (put1 F f F') rv { d with qs := put1 d.qs f (xs ++ [k]) } n) := HTa.out.setQ hf HO.out.2.2 HO.out.1 (by simpa using HO.out.2.1)
    have z1 := HT2.out.cells.cn
    have z2 := HT2.out.cells.free 20
    clear y1 y2
    go_wp2_with fail
    go_end0
    refine ⟨rfl, ⟨_, _, _, (by rw [HXs.out]; exact HT2.out.setN (n + 1) (by omega)), fun j hj => ?_⟩, ?_⟩
    · rcases foot_setQ hf (fun j hj => HO.out.2.1 j hj) hj with h' | h'
      · exact .inl h'
      · exact .inr (by have := HSz.out; omega)
    · exact (HBut.out.trans (((But.ofBelow ((Below.refl _ _).drew.alloc (Nat.le_refl _) _)).trans (HO.out.2.2.mono fun j hj => .inr (.inl ⟨f, hf, hj⟩))).trans ((butG _ _ _ _).mono fun j hj => .inl hj))).trans ((butG _ _ _ _).mono fun j hj => .inl hj)

set_option maxRecDepth 100000 in
set_option maxHeartbeats 4000000 in
/-- One comes to an empty queue: its flow comes to the row's end. -/
theorem turnsCome_first (B g : Nat) (pa : Option Addr) (pcap : Nat) (qv : Value) (ps : List Pk) (vq : Nat → Value) (F : Nat → Nat → Prop) (rv : Value) (d : Drr) (n : Nat) (w : World) (h : TurnsAt B g (.slice pa ps.length pcap) qv w vq F rv d n) (hl : LiesP w pa ps) (hlen : ps.length ≤ 300) (k f : Nat) (p : Pk) (hp : ps[k]? = some p) (hpf : p.flow = (f : Int)) (hf : f < 8) (hq : d.qs f = []) (hrl : d.row.length ≤ 8) (hn : n ≤ 1000) (hB : B ≤ w.heap.size) :
    Calls Tryd.prog 88 #[.pointer (some ⟨g, 0, none⟩), .int .i64 (k : Int)] w fun e w' => e = .returned (.tuple #[]) ∧ ComeEnd B g (.slice pa ps.length pcap) qv w w' F rv { d with qs := put1 d.qs f (d.qs f ++ [k]), row := d.row ++ [f] } (n + 1) := by
  obtain ⟨i0, hi, hz0, hz1, hz2⟩ := info_parts Tryd.infoInt
  have hkl := lt_of_get hp
  obtain ⟨pb, off, rfl, hlt, hc⟩ := hl.place (by omega)
  have cp := (hc k p hp).1
  rw [hpf] at cp
  have hfi : (f : Int) < 8 := by omega
  have hq3 : (d.qs f).length ≤ 300 := by rw [hq]; simp
  have HW0 : Hid (TurnsAt B g (.slice (some ⟨pb, off, none⟩) ps.length pcap) qv w vq F rv d n) := h
  have c0 := h.cells.c0
  have c18 := h.cells.cr_
  have cq0 := h.cells.cq f hf
  obtain ⟨ao0, cap0, hv0, hcap0, hmx0⟩ := (h.queue f hf).form
  rw [hv0, hq] at cq0
  have cq0' : w.cell? ⟨g, 2 + f, none⟩ = some (.slice ao0 0 cap0) := cq0
  have hba : Below w.heap.size w (w.alloc (.cells #[.int .i64 (f : Int)] 3)) := (Below.refl _ _).alloc (Nat.le_refl _) _
  have HTw : Hid (TurnsAt B g (.slice (some ⟨pb, off, none⟩) ps.length pcap) qv (w.alloc (.cells #[.int .i64 (f : Int)] 3)) vq F rv d n) := h.later hba
  have HNew : Hid (∀ j u, (ints [(f : Int)])[j]? = some u → (w.alloc (.cells #[.int .i64 (f : Int)] 3)).cell? (Addr.add ⟨w.heap.size, 0, none⟩ j) = some u) := World.news_of_block (cs := #[.int .i64 (f : Int)]) (t := 3) (heap_alloc_new w _)
  have HBs0 : Hid (B ≤ (w.alloc (.cells #[.int .i64 (f : Int)] 3)).heap.size ∧ (w.alloc (.cells #[.int .i64 (f : Int)] 3)).heap.size = w.heap.size + 1) := ⟨Nat.le_trans hB hba.size, by simp⟩
  obtain ⟨rl, hrle⟩ : ∃ rl, d.row.length = rl := ⟨_, rfl⟩
  have HRl : Hid (d.row.length = rl) := hrle
  rw [hrle] at hrl
  have HB0 : Hid (B ≤ w.heap.size) := hB
  have HQ : Hid (d.qs f = []) := hq
  unfold maxLen at hmx0
  clear h hl hc hp hpf hB hq cq0 hv0 hba hrle
  go_enter Tryd.func88, Tryd.ntmps88
  go_wp2_with (at_builtin; go_must (refine wpList_append_lies _ rfl _ _ 32 rfl B 3 i0 (.int .i64 0) 1 8 Tryd.underlying32 hi hz0 hz1 hz2 rfl (by decide) rv rl (ints (asInts d.row)) rfl (by have := HTw.out.row; rwa [HRl.out] at this) ⟨w.heap.size, 0, none⟩ 1 1 (ints [(f : Int)]) rfl rfl HNew.out (ints_one _) (by decide) (by unfold maxLen; omega) (by omega) HBs0.out.1 _ rfl ?_; intro g5 cap5 w5 ho5 hg5 hat5 hlt5; have hbut : But (fun k => rv.ownBlock = some k) (w.alloc (.cells #[.int .i64 (f : Int)] 3)) w5 := ⟨hg5.os, hg5.tape, hg5.output, hg5.size, fun k hk hn => hg5.block k hk (fun e => hn e.symm)⟩; have HT5 := HTw.out.cells.but hbut (fun e => HTw.out.rowg e); have y1 := HT5.cr_; have y2 := HT5.free 18; have H5 : Hid (w5.ownsRow B 3 1 (.slice (some ⟨g5, 0, none⟩) (rl + 1) cap5) (rl + 1) (ints (asInts d.row) ++ ints [(f : Int)]) ∧ But (fun k => rv.ownBlock = some k) (w.alloc (.cells #[.int .i64 (f : Int)] 3)) w5 ∧ (rv.ownBlock = some g5 ∨ g5 = (w.alloc (.cells #[.int .i64 (f : Int)] 3)).heap.size)) := ⟨ho5, hbut, hat5⟩; clear ho5 hg5 hat5 hlt5 hbut HT5))
  have HNw : Hid (∀ k, (Value.slice (some ⟨g5, 0, none⟩) (rl + 1) cap5).ownBlock = some k → rv.ownBlock = some k ∨ (w.alloc (.cells #[.int .i64 (f : Int)] 3)).heap.size ≤ k) := fun j hj => by
    have e : g5 = j := Option.some.inj hj
    rcases H5.out.2.2 with h' | h'
    · exact .inl (by rw [← e]; exact h')
    · exact .inr (by rw [← e, h']; exact Nat.le_refl _)
  have HWt : Hid (TurnsAt B g (.slice (some ⟨pb, off, none⟩) ps.length pcap) qv (w5.setCell ⟨g, 18, none⟩ (.slice (some ⟨g5, 0, none⟩) (rl + 1) cap5)) vq F (.slice (some ⟨g5, 0, none⟩) (rl + 1) cap5) { d with row := d.row ++ [f] } n) := HTw.out.setR H5.out.2.1 (by rw [List.length_append, asInts_snoc, HRl.out]; exact H5.out.1) HNw.out
  have HBt : Hid (But (turnFoot g F rv) w (w5.setCell ⟨g, 18, none⟩ (.slice (some ⟨g5, 0, none⟩) (rl + 1) cap5))) := ((But.ofBelow ((Below.refl _ _).alloc (Nat.le_refl _) _)).trans (H5.out.2.1.mono fun j hj => .inr (.inr hj))).trans ((butG _ _ _ _).mono fun j hj => .inl hj)
  obtain ⟨V, hV⟩ : ∃ V, w5.setCell ⟨g, 18, none⟩ (.slice (some ⟨g5, 0, none⟩) (rl + 1) cap5) = V := ⟨_, rfl⟩
  rw [hV] at HWt HBt ⊢
  have HW : Hid (TurnsAt B g (.slice (some ⟨pb, off, none⟩) ps.length pcap) qv V vq F (.slice (some ⟨g5, 0, none⟩) (rl + 1) cap5) { d with row := d.row ++ [f] } n) := HWt.out
  have HBut : Hid (But (turnFoot g F (.slice (some ⟨g5, 0, none⟩) (rl + 1) cap5)) V V) := But.refl _ _
  have HSz : Hid (w.heap.size ≤ V.heap.size) := HBt.out.size
  have HBW : Hid (B ≤ V.heap.size) := Nat.le_trans HB0.out HSz.out
  clear hV y1 y2 c18 cq0'
  obtain ⟨ao, cap, hv, hcap, hmx⟩ := (HW.out.queue f hf).form
  simp only at hv hcap
  have cq := HW.out.cells.cq f hf
  rw [hv] at cq
  have HVq : Hid (vq f = .slice ao (d.qs f).length cap) := hv
  obtain ⟨xs, hxs⟩ : ∃ xs, d.qs f = xs := ⟨_, rfl⟩
  rw [hxs] at cq hcap hq3 HVq
  have hb0 : Below V.heap.size V (V.drew.alloc (.cells #[.int .i64 (k : Int)] 3)) := (Below.refl _ _).drew.alloc (Nat.le_refl _) _
  have HTa : Hid (TurnsAt B g (.slice (some ⟨pb, off, none⟩) ps.length pcap) qv (V.drew.alloc (.cells #[.int .i64 (k : Int)] 3)) vq F (.slice (some ⟨g5, 0, none⟩) (rl + 1) cap5) { d with row := d.row ++ [f] } n) := HW.out.later hb0
  have HS : Hid (Slides (V.drew.alloc (.cells #[.int .i64 (k : Int)] 3)) B (.slice ao xs.length cap) (F f) xs) := by
    have h1 := HTa.out.queue f hf
    have e : ({ d with row := d.row ++ [f] } : Drr).qs f = xs := hxs
    rwa [HVq.out, e] at h1
  have HK : Hid ((V.drew.alloc (.cells #[.int .i64 (k : Int)] 3)).cell? ⟨V.heap.size, 0, none⟩ = some (.int .i64 (k : Int))) := (cell_of_row _ _ 0 _ _ _ (heap_alloc_new V.drew _)).trans rfl
  have HBs : Hid (B ≤ (V.drew.alloc (.cells #[.int .i64 (k : Int)] 3)).heap.size) := Nat.le_trans HBW.out hb0.size
  obtain ⟨m, hm⟩ : ∃ m, xs.length = m := ⟨_, rfl⟩
  have HM : Hid (xs.length = m) := hm
  rw [hm] at cq hcap hq3 HVq
  have hml : m ≤ maxLen := Nat.le_trans hcap hmx
  unfold maxLen at hmx hml
  have HXs : Hid (d.qs f = xs) := hxs
  have cqa : (V.alloc (.cells #[.int .i64 (k : Int)] 3)).cell? ⟨g, 2 + f, none⟩ = some (.slice ao m cap) := cell_later ((Below.refl _ _).alloc (Nat.le_refl _) _) cq
  clear hv hxs hm hb0
  go_region_law
    (first
      | (refine step_append_slide rfl _ _ 32 rfl 3 i0 (.int .i64 0) 8 Tryd.underlying32 hi hz0 hz1 hz2 rfl B (.slice ao m cap) (F f) k xs rfl (by have := HS.out; rwa [HM.out] at this) HBs.out ⟨V.heap.size, 0, none⟩ 1 rfl HK.out (by rw [HM.out]; unfold maxLen; omega) (by rw [HM.out]; omega) ?_
         intro ao' cap' w2 hon
         rw [HM.out] at hon ⊢
         obtain ⟨F', g1, g2, g3⟩ := hon
         have HO : Hid (Slides w2 B (.slice ao' (m + 1) cap') F' (xs ++ [k]) ∧ (∀ k, F' k → F f k ∨ V.heap.size + 1 ≤ k) ∧ But (F f) (V.drew.alloc (.cells #[.int .i64 (k : Int)] 3)) w2) := ⟨g1, (by simpa using g2), g3⟩
         have y1 : w2.cell? ⟨g, 2 + f, none⟩ = some (.slice ao m cap) := by
           have := (HTa.out.cells.but g3 (HTa.out.apart f hf).1).cq f hf
           rwa [HVq.out] at this
         have y2 : w2.frozen? ⟨g, 2 + f, none⟩ = false := (HTa.out.cells.but g3 (HTa.out.apart f hf).1).free _
         clear g1 g2 g3)
      | fail)
  all_goals
    have HT2 : Hid (TurnsAt B g (.slice (some ⟨pb, off, none⟩) ps.length pcap) qv (w2.setCell ⟨g, 2 + f, none⟩ (.slice ao' (m + 1) cap')) (put1 vq f (.slice ao' (m + 1) cap')) (put1 F f F') (.slice (some ⟨g5, 0, none⟩) (rl + 1) cap5) { { d with row := d.row ++ [f] } with qs := put1 d.qs f (xs ++ [k]) } n) := HTa.out.setQ hf HO.out.2.2 HO.out.1 (by simpa using HO.out.2.1)
    have z1 := HT2.out.cells.cn
    have z2 := HT2.out.cells.free 20
    clear y1 y2
    go_wp2_with fail
    go_end0
    refine ⟨rfl, ⟨_, _, _, (by rw [HXs.out]; exact HT2.out.setN (n + 1) (by omega)), fun j hj => ?_⟩, ?_⟩
    · rcases foot_setQ hf (fun j hj => HO.out.2.1 j hj) hj with h' | h'
      · exact (by
        rcases foot_setR HNw.out h' with h'' | h''
        · exact .inl h''
        · exact .inr (by have := HBs0.out.2; omega))
      · exact .inr (by have := HSz.out; omega)
    · exact (HBt.out.trans (((But.ofBelow ((Below.refl _ _).drew.alloc (Nat.le_refl _) _)).trans (HO.out.2.2.mono fun j hj => .inr (.inl ⟨f, hf, hj⟩))).trans ((butG _ _ _ _).mono fun j hj => .inl hj))).trans ((butG _ _ _ _).mono fun j hj => .inl hj)
end Go.Proofs.YtepnfioldbhffabDoor

/- Walks: the queue that serves flows round by round: the next flow is served; a packet is taken. -/
namespace Go.Proofs.YtepnfioldbhffabDoor
open Go.RowKit

theorem put1_put1 {α : Type} (f : Nat → α) (k : Nat) (x y : α) : put1 (put1 f k x) k y = put1 f k y := by
  funext i
  unfold put1
  split <;> rfl

set_option maxRecDepth 100000 in
set_option maxHeartbeats 4000000 in
/-- The first of the row is served. -/
theorem turnsServe (B g : Nat) (pv : Value) (qa : Option Addr) (qcap : Nat) (ns : List Int) (vq : Nat → Value) (F : Nat → Nat → Prop) (rv : Value) (d : Drr) (n : Nat) (w : World) (h : TurnsAt B g pv (.slice qa ns.length qcap) w vq F rv d n) (hl : LiesN w qa ns) (hns : NumsOk 1 3000 ns) (f : Nat) (r : List Nat) (hr : d.row = f :: r) (hf : f < 8) (hc0 : 0 ≤ d.cr f) (hc1 : d.cr f ≤ 1000000) (hrl : d.row.length ≤ 8) (hB : B ≤ w.heap.size) (hqB : ∀ ad, qa = some ad → ad.block < B) :
    Calls Tryd.prog 104 #[.pointer (some ⟨g, 0, none⟩)] w fun e w' => e = .returned (.tuple #[]) ∧ ComeEnd B g pv (.slice qa ns.length qcap) w w' F rv (d.turn (quOf ns) f r) n := by
  obtain ⟨qb, off, rfl, hlt, hcN⟩ := hl.place (by rw [hns.len]; omega)
  obtain ⟨x, hx, -⟩ := get_some ns f (by rw [hns.len]; exact hf)
  have hxr := hns.each f x hx
  have HQ : Hid (quOf ns f = x) := quOf_get hx
  have cx := hcN f x hx
  have hown := h.row
  rw [hr] at hown hrl
  rw [← asInts_length] at hown
  obtain ⟨rb, cap, hrv, hlc, hcm, hcell⟩ := own_some hown (by rw [asInts_length]; simp)
  subst hrv
  have crf : w.cell? ⟨rb, 0, none⟩ = some (.int .i64 (f : Int)) := hcell 0 _ rfl
  have c18 := h.cells.cr_
  have c19 := h.cells.cs
  have f19 := h.cells.free 19
  have HT1 : Hid (TurnsAt B g pv (.slice (some ⟨qb, off, none⟩) ns.length qcap) (w.setCell ⟨g, 19, none⟩ (.int .i64 (f : Int))) vq F (.slice (some ⟨rb, 0, none⟩) (asInts (f :: r)).length cap) { d with srv := some f } n) := h.setS (some f) rfl
  have hlen2 : (asInts (f :: r)).length = r.length + 1 := by rw [asInts_length]; rfl
  have HDel : Hid (Calls Tryd.prog 103 #[.slice (some ⟨rb, 0, none⟩) (r.length + 1) cap, .int .i64 0, .int .i64 1] (w.setCell ⟨g, 19, none⟩ (.int .i64 (f : Int))) fun e w' => e = .returned (.slice (some ⟨rb, 0, none⟩) r.length cap) ∧ w'.ownsRow B 3 1 (.slice (some ⟨rb, 0, none⟩) r.length cap) r.length (ints (asInts r)) ∧ But (fun k => k = rb) (w.setCell ⟨g, 19, none⟩ (.int .i64 (f : Int))) w') := by
    have h1 := HT1.out.row
    have e : ({ d with srv := some f } : Drr).row = f :: r := hr
    rw [e] at h1
    have hd := delete_one B rb cap 0 (asInts (f :: r)) (w.setCell ⟨g, 19, none⟩ (.int .i64 (f : Int))) (by rw [hlen2] at h1 ⊢; exact h1) (by rw [hlen2]; omega) hlc hcm
    rw [hlen2] at hd
    exact hd
  rw [hlen2] at c18 hlc
  rw [hlen2] at HT1
  obtain ⟨m, hm⟩ : ∃ m, r.length = m := ⟨_, rfl⟩
  have HM : Hid (r.length = m) := hm
  obtain ⟨c, hcr⟩ : ∃ c, d.cr f = c := ⟨_, rfl⟩
  have HCr : Hid (d.cr f = c) := hcr
  rw [hcr] at hc0 hc1
  rw [hm] at HDel HT1 c18 hlc
  have h8 := hns.len
  rw [h8] at HT1
  have hm8 : m ≤ 8 := by rw [← hm]; simp at hrl; omega
  have HFr : Hid (∀ W, Below B w W → W.cell? ⟨qb, off + f, none⟩ = some (.int .i64 x)) := fun W hb => by
    rw [hb.cell (p := ⟨qb, off + f, none⟩) (show qb < B from hqB ⟨qb, off, none⟩ rfl)]; exact cx
  unfold maxLen at hcm
  have HBB : Hid (B ≤ w.heap.size) := hB
  have HLen : Hid ((asInts (f :: r)).length = m + 1) := by rw [← hm]; exact hlen2
  have HFoot : Hid (∀ k, turnFoot g F (.slice (some ⟨rb, 0, none⟩) (m + 1) cap) k → B ≤ k) := fun k hk => (h.foot k hk).1
  clear h hl hcN hown hcell hx hr hm hcr hns hqB cx
  go_enter Tryd.func104, Tryd.ntmps104
  go_wp2_with fail
  refine HDel.out.mono ?_
  rintro e w2 ⟨rfl, hown2, hbut2⟩
  have HO : Hid (w2.ownsRow B 3 1 (.slice (some ⟨rb, 0, none⟩) m cap) m (ints (asInts r)) ∧ But (fun k => k = rb) (w.setCell ⟨g, 19, none⟩ (.int .i64 (f : Int))) w2) := ⟨hown2, hbut2⟩
  have hc2 := HT1.out.cells.but hbut2 (fun e => HT1.out.rowg (by rw [e]; rfl))
  have y1 := hc2.cr_
  have y2 := hc2.free 18
  clear hown2 hbut2 hc2
  go_wp2_with fail
  have HT2 : Hid (TurnsAt B g pv (.slice (some ⟨qb, off, none⟩) 8 qcap) (w2.setCell ⟨g, 18, none⟩ (.slice (some ⟨rb, 0, none⟩) m cap)) vq F (.slice (some ⟨rb, 0, none⟩) m cap) { d with srv := some f, row := r } n) := HT1.out.setR (HO.out.2.mono fun k hk => by rw [hk]; rfl) (by rw [HM.out]; exact HO.out.1) (fun k hk => .inl hk)
  have HBt : Hid (But (turnFoot g F (.slice (some ⟨rb, 0, none⟩) (m + 1) cap)) w (w2.setCell ⟨g, 18, none⟩ (.slice (some ⟨rb, 0, none⟩) m cap))) := (((butG _ _ _ _).mono fun j hj => .inl hj).trans (HO.out.2.mono fun j hj => .inr (.inr (by rw [hj]; rfl)))).trans ((butG _ _ _ _).mono fun j hj => .inl hj)
  have HBel : Hid (Below B w (w2.setCell ⟨g, 18, none⟩ (.slice (some ⟨rb, 0, none⟩) m cap))) := HBt.out.below HBB.out (fun k hk => HFoot.out k hk)
  obtain ⟨V, hV⟩ : ∃ V, w2.setCell ⟨g, 18, none⟩ (.slice (some ⟨rb, 0, none⟩) m cap) = V := ⟨_, rfl⟩
  rw [hV] at HT2 HBt HBel ⊢
  have v1 : V.cell? ⟨g, 1, none⟩ = some (.slice (some ⟨qb, off, none⟩) 8 qcap) := HT2.out.cells.c1
  have v2 : V.cell? ⟨g, 10 + f, none⟩ = some (.int .i64 c) := by rw [← HCr.out]; exact HT2.out.cells.cc f hf
  have v3 : V.cell? ⟨g, 19, none⟩ = some (.int .i64 (f : Int)) := HT2.out.cells.cs
  have v4 := HFr.out V HBel.out
  have v5 := HT2.out.cells.free (10 + f)
  have hfi : (f : Int) < 8 := by omega
  have hwr : IntKind.i64.wrap (c + x) = c + x := IntWalk.i64_in _ (by omega)
  clear hV y1 y2 c18 c19 f19 crf
  go_region
  all_goals
    go_wp2_with fail
    go_end0
    have e : d.turn (quOf ns) f r = { d with srv := some f, row := r, cr := put1 d.cr f (c + x) } := by unfold Drr.turn; rw [HCr.out, HQ.out]
    rw [e, h8, HLen.out]
    refine ⟨rfl, ⟨_, _, _, (HT2.out.setC hf (c + x)).later (Below.refl _ _).drew, fun j hj => ?_⟩, ?_⟩
    · exact foot_setR (fun k hk => .inl hk) hj
    · exact (HBt.out.trans ((butG _ _ _ _).mono fun j hj => .inl hj)).drew
end Go.Proofs.YtepnfioldbhffabDoor

/- Walks: the queue that serves flows round by round: a packet is taken. -/
namespace Go.Proofs.YtepnfioldbhffabDoor
open Go.RowKit

set_option maxRecDepth 100000 in
set_option maxHeartbeats 4000000 in
theorem turnsTake_more (B g k pb off pcap L : Nat) (qv : Value) (vq : Nat → Value) (F : Nat → Nat → Prop) (rv : Value) (d : Drr) (n : Nat) (w : World) (h : TurnsAt B g (.slice (some ⟨pb, off, none⟩) L pcap) qv w vq F rv d (n + 1)) (y : Int) (hcp : ∀ W, Below B w W → W.cell? ⟨pb, off + k * 3 + 1, none⟩ = some (.int .i64 y)) (hy0 : 0 ≤ y) (hkl : k < L) (f : Nat) (r : List Nat) (hs : d.srv = some f) (hf : f < 8) (hc0 : 0 ≤ d.cr f) (hc1 : d.cr f ≤ 1000000) (hy : y ≤ d.cr f) (hn : n ≤ 1000) (hr3 : r.length ≤ 300) (hB : B ≤ w.heap.size) (qb qo cap : Nat) (hv : vq f = .slice (some ⟨qb, qo, none⟩) (r.length + 1) cap) (hmx : cap ≤ maxLen) (ck : w.cell? ⟨qb, qo, none⟩ = some (.int .i64 (k : Int))) (h1 : 1 < cap) (hsl : Slides w B (.slice (some ⟨qb, qo + 1, none⟩) r.length (cap - 1)) (F f) r) (hr : r ≠ []) :
    Calls Tryd.prog 106 #[.pointer (some ⟨g, 0, none⟩)] w fun e w' => e = .returned (.int .i64 (k : Int)) ∧ ComeEnd B g (.slice (some ⟨pb, off, none⟩) L pcap) qv w w' F rv { d with qs := put1 d.qs f r, cr := put1 d.cr f (d.cr f - y) } n := by
  have HT : Hid (TurnsAt B g (.slice (some ⟨pb, off, none⟩) L pcap) qv w vq F rv d (n + 1)) := h
  have cs : w.cell? ⟨g, 19, none⟩ = some (.int .i64 (f : Int)) := by have := h.cells.cs; rw [hs] at this; exact this
  have cq := h.cells.cq f hf
  rw [hv] at cq
  have fq := h.cells.free (2 + f)
  obtain ⟨m, hm⟩ : ∃ m, r.length = m := ⟨_, rfl⟩
  have HM : Hid (r.length = m) := hm
  obtain ⟨c, hcr⟩ : ∃ c, d.cr f = c := ⟨_, rfl⟩
  have HCr : Hid (d.cr f = c) := hcr
  rw [hcr] at hc0 hc1 hy
  rw [hm] at cq hr3 hsl
  have HFoot : Hid (∀ k, turnFoot g F rv k → B ≤ k) := fun k hk => (h.foot k hk).1
  have HBB : Hid (B ≤ w.heap.size) := hB
  have HCp : Hid (∀ W, Below B w W → W.cell? ⟨pb, off + k * 3 + 1, none⟩ = some (.int .i64 y)) := hcp
  have hfi : (f : Int) < 8 := by omega
  have hki : (k : Int) < (L : Int) := by omega
  have hm0 : 0 < m := by rw [← hm]; exact List.length_pos_iff.2 hr
  have hmd : ((m : Int) == 0) = false := by simp; omega
  unfold maxLen at hmx
  have HT1 : Hid (TurnsAt B g (.slice (some ⟨pb, off, none⟩) L pcap) qv (w.setCell ⟨g, 2 + f, none⟩ (.slice (some ⟨qb, qo + 1, none⟩) m (cap - 1))).drew (put1 vq f (.slice (some ⟨qb, qo + 1, none⟩) m (cap - 1))) (put1 F f (F f)) rv { d with qs := put1 d.qs f r } (n + 1)) := (h.setQ hf (But.refl _ _) hsl (fun _ hk => .inl hk)).later (Below.refl _ _).drew
  have HBt : Hid (But (turnFoot g F rv) w (w.setCell ⟨g, 2 + f, none⟩ (.slice (some ⟨qb, qo + 1, none⟩) m (cap - 1))).drew) := ((butG _ _ _ _).mono fun j hj => .inl hj).drew
  clear h hs hv hm hcr hB hcp
  go_enter Tryd.func106, Tryd.ntmps106
  go_wp2_with fail
  go_region
  obtain ⟨V, hV⟩ : ∃ V, (w.setCell ⟨g, 2 + f, none⟩ (.slice (some ⟨qb, qo + 1, none⟩) m (cap - 1))).drew = V := ⟨_, rfl⟩
  rw [hV] at HT1 HBt ⊢
  have HBel : Hid (Below B w V) := HBt.out.below HBB.out (fun k hk => HFoot.out k hk)
  have v0 := HT1.out.cells.c0
  have v2 : V.cell? ⟨g, 10 + f, none⟩ = some (.int .i64 c) := by rw [← HCr.out]; exact HT1.out.cells.cc f hf
  have v4 := HCp.out V HBel.out
  have v5 := HT1.out.cells.free (10 + f)
  have hwr : IntKind.i64.wrap (c - y) = c - y := IntWalk.i64_in _ (by omega)
  have HT2 : Hid (TurnsAt B g (.slice (some ⟨pb, off, none⟩) L pcap) qv (V.setCell ⟨g, 10 + f, none⟩ (.int .i64 (c - y))).drew (put1 vq f (.slice (some ⟨qb, qo + 1, none⟩) m (cap - 1))) (put1 F f (F f)) rv { d with qs := put1 d.qs f r, cr := put1 d.cr f (c - y) } (n + 1)) := (HT1.out.setC hf (c - y)).later (Below.refl _ _).drew
  have HBt2 : Hid (But (turnFoot g F rv) w (V.setCell ⟨g, 10 + f, none⟩ (.int .i64 (c - y))).drew) := (HBt.out.trans ((butG _ _ _ _).mono fun j hj => .inl hj)).drew
  clear hV cs cq fq ck
  go_wp2_with fail
  go_region
  obtain ⟨U, hU⟩ : ∃ U, (V.setCell ⟨g, 10 + f, none⟩ (.int .i64 (c - y))).drew = U := ⟨_, rfl⟩
  rw [hU] at HT2 HBt2 ⊢
  have u1 : U.cell? ⟨g, 20, none⟩ = some (.int .i64 (((n + 1 : Nat)) : Int)) := HT2.out.cells.cn
  have u2 := HT2.out.cells.free 20
  have HT3 : Hid (TurnsAt B g (.slice (some ⟨pb, off, none⟩) L pcap) qv (U.setCell ⟨g, 20, none⟩ (.int .i64 (n : Int))) (put1 vq f (.slice (some ⟨qb, qo + 1, none⟩) m (cap - 1))) (put1 F f (F f)) rv { d with qs := put1 d.qs f r, cr := put1 d.cr f (c - y) } n) := HT2.out.setN n rfl
  have u3 : (U.setCell ⟨g, 20, none⟩ (.int .i64 (n : Int))).cell? ⟨g, 2 + f, none⟩ = some (.slice (some ⟨qb, qo + 1, none⟩) m (cap - 1)) := by have := HT3.out.cells.cq f hf; rwa [put1_same] at this
  have hn1 : (((n + 1 : Nat)) : Int) - 1 = (n : Int) := by omega
  rw [show (((n + 1 : Nat)) : Int) = (n : Int) + 1 by omega] at u1
  clear hU v0 v2 v4 v5
  go_wp2_with fail
  go_ret
  rw [HCr.out]
  refine ⟨rfl, ⟨_, _, _, HT3.out, fun j hj => foot_setQ hf (fun _ hk => .inl hk) hj⟩, ?_⟩
  exact HBt2.out.trans ((butG _ _ _ _).mono fun j hj => .inl hj)

set_option maxRecDepth 100000 in
set_option maxHeartbeats 4000000 in
theorem turnsTake_last (B g k pb off pcap L : Nat) (qv : Value) (vq : Nat → Value) (F : Nat → Nat → Prop) (rv : Value) (d : Drr) (n : Nat) (w : World) (h : TurnsAt B g (.slice (some ⟨pb, off, none⟩) L pcap) qv w vq F rv d (n + 1)) (y : Int) (hcp : ∀ W, Below B w W → W.cell? ⟨pb, off + k * 3 + 1, none⟩ = some (.int .i64 y)) (hy0 : 0 ≤ y) (hkl : k < L) (f : Nat) (hs : d.srv = some f) (hf : f < 8) (hc0 : 0 ≤ d.cr f) (hc1 : d.cr f ≤ 1000000) (hy : y ≤ d.cr f) (hn : n ≤ 1000) (hr3 : ([] : List Nat).length ≤ 300) (hB : B ≤ w.heap.size) (qb qo cap : Nat) (hv : vq f = .slice (some ⟨qb, qo, none⟩) (([] : List Nat).length + 1) cap) (hmx : cap ≤ maxLen) (ck : w.cell? ⟨qb, qo, none⟩ = some (.int .i64 (k : Int))) (h1 : 1 < cap) (hsl : Slides w B (.slice (some ⟨qb, qo + 1, none⟩) ([] : List Nat).length (cap - 1)) (F f) []) :
    Calls Tryd.prog 106 #[.pointer (some ⟨g, 0, none⟩)] w fun e w' => e = .returned (.int .i64 (k : Int)) ∧ ComeEnd B g (.slice (some ⟨pb, off, none⟩) L pcap) qv w w' F rv { d with qs := put1 d.qs f [], cr := put1 d.cr f 0, srv := none } n := by
  have HT : Hid (TurnsAt B g (.slice (some ⟨pb, off, none⟩) L pcap) qv w vq F rv d (n + 1)) := h
  have cs : w.cell? ⟨g, 19, none⟩ = some (.int .i64 (f : Int)) := by have := h.cells.cs; rw [hs] at this; exact this
  have cq := h.cells.cq f hf
  rw [hv] at cq
  have fq := h.cells.free (2 + f)
  obtain ⟨m, hm⟩ : ∃ m, ([] : List Nat).length = m := ⟨_, rfl⟩
  have HM : Hid (([] : List Nat).length = m) := hm
  obtain ⟨c, hcr⟩ : ∃ c, d.cr f = c := ⟨_, rfl⟩
  have HCr : Hid (d.cr f = c) := hcr
  rw [hcr] at hc0 hc1 hy
  rw [hm] at cq hr3 hsl
  have HFoot : Hid (∀ k, turnFoot g F rv k → B ≤ k) := fun k hk => (h.foot k hk).1
  have HBB : Hid (B ≤ w.heap.size) := hB
  have HCp : Hid (∀ W, Below B w W → W.cell? ⟨pb, off + k * 3 + 1, none⟩ = some (.int .i64 y)) := hcp
  have hfi : (f : Int) < 8 := by omega
  have hki : (k : Int) < (L : Int) := by omega
  have hm0 : m = 0 := by rw [← hm]; rfl
  subst hm0
  unfold maxLen at hmx
  have HT1 : Hid (TurnsAt B g (.slice (some ⟨pb, off, none⟩) L pcap) qv (w.setCell ⟨g, 2 + f, none⟩ (.slice (some ⟨qb, qo + 1, none⟩) 0 (cap - 1))).drew (put1 vq f (.slice (some ⟨qb, qo + 1, none⟩) 0 (cap - 1))) (put1 F f (F f)) rv { d with qs := put1 d.qs f [] } (n + 1)) := (h.setQ hf (But.refl _ _) hsl (fun _ hk => .inl hk)).later (Below.refl _ _).drew
  have HBt : Hid (But (turnFoot g F rv) w (w.setCell ⟨g, 2 + f, none⟩ (.slice (some ⟨qb, qo + 1, none⟩) 0 (cap - 1))).drew) := ((butG _ _ _ _).mono fun j hj => .inl hj).drew
  have HEnd : Hid (({ d with qs := put1 d.qs f [], cr := put1 d.cr f 0, srv := none } : Drr) = { d with qs := put1 d.qs f [], cr := put1 (put1 d.cr f (c - y)) f 0, srv := none }) := by
    show _ = _
    rw [put1_put1]
  clear h hs hv hm hcr hB hcp
  go_enter Tryd.func106, Tryd.ntmps106
  go_wp2_with fail
  go_region
  obtain ⟨V, hV⟩ : ∃ V, (w.setCell ⟨g, 2 + f, none⟩ (.slice (some ⟨qb, qo + 1, none⟩) 0 (cap - 1))).drew = V := ⟨_, rfl⟩
  rw [hV] at HT1 HBt ⊢
  have HBel : Hid (Below B w V) := HBt.out.below HBB.out (fun k hk => HFoot.out k hk)
  have v0 := HT1.out.cells.c0
  have v2 : V.cell? ⟨g, 10 + f, none⟩ = some (.int .i64 c) := by rw [← HCr.out]; exact HT1.out.cells.cc f hf
  have v4 := HCp.out V HBel.out
  have v5 := HT1.out.cells.free (10 + f)
  have hwr : IntKind.i64.wrap (c - y) = c - y := IntWalk.i64_in _ (by omega)
  have HT2 : Hid (TurnsAt B g (.slice (some ⟨pb, off, none⟩) L pcap) qv (V.setCell ⟨g, 10 + f, none⟩ (.int .i64 (c - y))).drew (put1 vq f (.slice (some ⟨qb, qo + 1, none⟩) 0 (cap - 1))) (put1 F f (F f)) rv { d with qs := put1 d.qs f [], cr := put1 d.cr f (c - y) } (n + 1)) := (HT1.out.setC hf (c - y)).later (Below.refl _ _).drew
  have HBt2 : Hid (But (turnFoot g F rv) w (V.setCell ⟨g, 10 + f, none⟩ (.int .i64 (c - y))).drew) := (HBt.out.trans ((butG _ _ _ _).mono fun j hj => .inl hj)).drew
  clear hV cs cq fq ck
  go_wp2_with fail
  go_region
  obtain ⟨U, hU⟩ : ∃ U, (V.setCell ⟨g, 10 + f, none⟩ (.int .i64 (c - y))).drew = U := ⟨_, rfl⟩
  rw [hU] at HT2 HBt2 ⊢
  have u1 : U.cell? ⟨g, 20, none⟩ = some (.int .i64 (((n + 1 : Nat)) : Int)) := HT2.out.cells.cn
  have u2 := HT2.out.cells.free 20
  have HT3 : Hid (TurnsAt B g (.slice (some ⟨pb, off, none⟩) L pcap) qv (U.setCell ⟨g, 20, none⟩ (.int .i64 (n : Int))) (put1 vq f (.slice (some ⟨qb, qo + 1, none⟩) 0 (cap - 1))) (put1 F f (F f)) rv { d with qs := put1 d.qs f [], cr := put1 d.cr f (c - y) } n) := HT2.out.setN n rfl
  have u3 : (U.setCell ⟨g, 20, none⟩ (.int .i64 (n : Int))).cell? ⟨g, 2 + f, none⟩ = some (.slice (some ⟨qb, qo + 1, none⟩) 0 (cap - 1)) := by have := HT3.out.cells.cq f hf; rwa [put1_same] at this
  have HT4 : Hid (TurnsAt B g (.slice (some ⟨pb, off, none⟩) L pcap) qv ((U.setCell ⟨g, 20, none⟩ (.int .i64 (n : Int))).setCell ⟨g, 10 + f, none⟩ (.int .i64 0)) (put1 vq f (.slice (some ⟨qb, qo + 1, none⟩) 0 (cap - 1))) (put1 F f (F f)) rv { d with qs := put1 d.qs f [], cr := put1 (put1 d.cr f (c - y)) f 0 } n) := HT3.out.setC hf 0
  have u4 := HT3.out.cells.cc f hf
  have u5 := HT3.out.cells.free (10 + f)
  have u6 := HT4.out.cells.cs
  have u7 := HT4.out.cells.free 19
  have hn1 : (((n + 1 : Nat)) : Int) - 1 = (n : Int) := by omega
  rw [show (((n + 1 : Nat)) : Int) = (n : Int) + 1 by omega] at u1
  clear hU v0 v2 v4 v5
  go_wp2_with fail
  go_ret
  rw [HEnd.out]
  refine ⟨rfl, ⟨_, _, _, HT4.out.setS none rfl, fun j hj => foot_setQ hf (fun _ hk => .inl hk) hj⟩, ?_⟩
  exact ((HBt2.out.trans ((butG _ _ _ _).mono fun j hj => .inl hj)).trans ((butG _ _ _ _).mono fun j hj => .inl hj)).trans ((butG _ _ _ _).mono fun j hj => .inl hj)

set_option maxRecDepth 100000 in
set_option maxHeartbeats 4000000 in
theorem turnsTake_one (B g k pb off pcap L : Nat) (qv : Value) (vq : Nat → Value) (F : Nat → Nat → Prop) (rv : Value) (d : Drr) (n : Nat) (w : World) (h : TurnsAt B g (.slice (some ⟨pb, off, none⟩) L pcap) qv w vq F rv d (n + 1)) (y : Int) (hcp : ∀ W, Below B w W → W.cell? ⟨pb, off + k * 3 + 1, none⟩ = some (.int .i64 y)) (hy0 : 0 ≤ y) (hkl : k < L) (f : Nat) (hs : d.srv = some f) (hf : f < 8) (hc0 : 0 ≤ d.cr f) (hc1 : d.cr f ≤ 1000000) (hy : y ≤ d.cr f) (hn : n ≤ 1000) (hr3 : ([] : List Nat).length ≤ 300) (hB : B ≤ w.heap.size) (qb qo cap : Nat) (hv : vq f = .slice (some ⟨qb, qo, none⟩) (([] : List Nat).length + 1) cap) (hcap : ([] : List Nat).length + 1 ≤ cap) (hmx : cap ≤ maxLen) (ck : w.cell? ⟨qb, qo, none⟩ = some (.int .i64 (k : Int))) (h1 : cap = 1) (hsl : Slides w B (.slice (some ⟨qb, qo, none⟩) 0 0) (F f) []) :
    Calls Tryd.prog 106 #[.pointer (some ⟨g, 0, none⟩)] w fun e w' => e = .returned (.int .i64 (k : Int)) ∧ ComeEnd B g (.slice (some ⟨pb, off, none⟩) L pcap) qv w w' F rv { d with qs := put1 d.qs f [], cr := put1 d.cr f 0, srv := none } n := by
  have HT : Hid (TurnsAt B g (.slice (some ⟨pb, off, none⟩) L pcap) qv w vq F rv d (n + 1)) := h
  have cs : w.cell? ⟨g, 19, none⟩ = some (.int .i64 (f : Int)) := by have := h.cells.cs; rw [hs] at this; exact this
  have cq := h.cells.cq f hf
  rw [hv] at cq
  have fq := h.cells.free (2 + f)
  obtain ⟨m, hm⟩ : ∃ m, ([] : List Nat).length = m := ⟨_, rfl⟩
  have HM : Hid (([] : List Nat).length = m) := hm
  obtain ⟨c, hcr⟩ : ∃ c, d.cr f = c := ⟨_, rfl⟩
  have HCr : Hid (d.cr f = c) := hcr
  rw [hcr] at hc0 hc1 hy
  rw [hm] at cq hcap hr3
  have HFoot : Hid (∀ k, turnFoot g F rv k → B ≤ k) := fun k hk => (h.foot k hk).1
  have HBB : Hid (B ≤ w.heap.size) := hB
  have HCp : Hid (∀ W, Below B w W → W.cell? ⟨pb, off + k * 3 + 1, none⟩ = some (.int .i64 y)) := hcp
  have hfi : (f : Int) < 8 := by omega
  have hki : (k : Int) < (L : Int) := by omega
  obtain rfl : m = 0 := by omega
  subst h1
  unfold maxLen at hmx
  have HT1 : Hid (TurnsAt B g (.slice (some ⟨pb, off, none⟩) L pcap) qv (w.setCell ⟨g, 2 + f, none⟩ (.slice (some ⟨qb, qo, none⟩) 0 0)).drew (put1 vq f (.slice (some ⟨qb, qo, none⟩) 0 0)) (put1 F f (F f)) rv { d with qs := put1 d.qs f [] } (n + 1)) := (h.setQ hf (But.refl _ _) hsl (fun _ hk => .inl hk)).later (Below.refl _ _).drew
  have HBt : Hid (But (turnFoot g F rv) w (w.setCell ⟨g, 2 + f, none⟩ (.slice (some ⟨qb, qo, none⟩) 0 0)).drew) := ((butG _ _ _ _).mono fun j hj => .inl hj).drew
  have HEnd : Hid (({ d with qs := put1 d.qs f [], cr := put1 d.cr f 0, srv := none } : Drr) = { d with qs := put1 d.qs f [], cr := put1 (put1 d.cr f (c - y)) f 0, srv := none }) := by
    show _ = _
    rw [put1_put1]
  clear h hs hv hm hcr hB hcp
  go_enter Tryd.func106, Tryd.ntmps106
  go_wp2_with fail
  go_region
  obtain ⟨V, hV⟩ : ∃ V, (w.setCell ⟨g, 2 + f, none⟩ (.slice (some ⟨qb, qo, none⟩) 0 0)).drew = V := ⟨_, rfl⟩
  rw [hV] at HT1 HBt ⊢
  have HBel : Hid (Below B w V) := HBt.out.below HBB.out (fun k hk => HFoot.out k hk)
  have v0 := HT1.out.cells.c0
  have v2 : V.cell? ⟨g, 10 + f, none⟩ = some (.int .i64 c) := by rw [← HCr.out]; exact HT1.out.cells.cc f hf
  have v4 := HCp.out V HBel.out
  have v5 := HT1.out.cells.free (10 + f)
  have hwr : IntKind.i64.wrap (c - y) = c - y := IntWalk.i64_in _ (by omega)
  have HT2 : Hid (TurnsAt B g (.slice (some ⟨pb, off, none⟩) L pcap) qv (V.setCell ⟨g, 10 + f, none⟩ (.int .i64 (c - y))).drew (put1 vq f (.slice (some ⟨qb, qo, none⟩) 0 0)) (put1 F f (F f)) rv { d with qs := put1 d.qs f [], cr := put1 d.cr f (c - y) } (n + 1)) := (HT1.out.setC hf (c - y)).later (Below.refl _ _).drew
  have HBt2 : Hid (But (turnFoot g F rv) w (V.setCell ⟨g, 10 + f, none⟩ (.int .i64 (c - y))).drew) := (HBt.out.trans ((butG _ _ _ _).mono fun j hj => .inl hj)).drew
  clear hV cs cq fq ck
  go_wp2_with fail
  go_region
  obtain ⟨U, hU⟩ : ∃ U, (V.setCell ⟨g, 10 + f, none⟩ (.int .i64 (c - y))).drew = U := ⟨_, rfl⟩
  rw [hU] at HT2 HBt2 ⊢
  have u1 : U.cell? ⟨g, 20, none⟩ = some (.int .i64 (((n + 1 : Nat)) : Int)) := HT2.out.cells.cn
  have u2 := HT2.out.cells.free 20
  have HT3 : Hid (TurnsAt B g (.slice (some ⟨pb, off, none⟩) L pcap) qv (U.setCell ⟨g, 20, none⟩ (.int .i64 (n : Int))) (put1 vq f (.slice (some ⟨qb, qo, none⟩) 0 0)) (put1 F f (F f)) rv { d with qs := put1 d.qs f [], cr := put1 d.cr f (c - y) } n) := HT2.out.setN n rfl
  have u3 : (U.setCell ⟨g, 20, none⟩ (.int .i64 (n : Int))).cell? ⟨g, 2 + f, none⟩ = some (.slice (some ⟨qb, qo, none⟩) 0 0) := by have := HT3.out.cells.cq f hf; rwa [put1_same] at this
  have HT4 : Hid (TurnsAt B g (.slice (some ⟨pb, off, none⟩) L pcap) qv ((U.setCell ⟨g, 20, none⟩ (.int .i64 (n : Int))).setCell ⟨g, 10 + f, none⟩ (.int .i64 0)) (put1 vq f (.slice (some ⟨qb, qo, none⟩) 0 0)) (put1 F f (F f)) rv { d with qs := put1 d.qs f [], cr := put1 (put1 d.cr f (c - y)) f 0 } n) := HT3.out.setC hf 0
  have u4 := HT3.out.cells.cc f hf
  have u5 := HT3.out.cells.free (10 + f)
  have u6 := HT4.out.cells.cs
  have u7 := HT4.out.cells.free 19
  have hn1 : (((n + 1 : Nat)) : Int) - 1 = (n : Int) := by omega
  rw [show (((n + 1 : Nat)) : Int) = (n : Int) + 1 by omega] at u1
  clear hU v0 v2 v4 v5
  go_wp2_with fail
  go_ret
  rw [HEnd.out]
  refine ⟨rfl, ⟨_, _, _, HT4.out.setS none rfl, fun j hj => foot_setQ hf (fun _ hk => .inl hk) hj⟩, ?_⟩
  exact ((HBt2.out.trans ((butG _ _ _ _).mono fun j hj => .inl hj)).trans ((butG _ _ _ _).mono fun j hj => .inl hj)).trans ((butG _ _ _ _).mono fun j hj => .inl hj)

end Go.Proofs.YtepnfioldbhffabDoor

/- Walks: the queue that serves flows round by round: the next packet. -/
namespace Go.Proofs.YtepnfioldbhffabDoor
open Go.RowKit

/-- A packet is taken, whatever is left. -/
theorem turnsTake (B g : Nat) (pa : Option Addr) (pcap : Nat) (qv : Value) (ps : List Pk) (vq : Nat → Value) (F : Nat → Nat → Prop) (rv : Value) (d : Drr) (n : Nat) (w : World) (h : TurnsAt B g (.slice pa ps.length pcap) qv w vq F rv d (n + 1)) (hl : LiesP w pa ps) (hpB : ∀ ad, pa = some ad → 0 < ps.length → ad.block < B) (ho : OkPks ps) (f k : Nat) (r : List Nat) (p : Pk) (hs : d.srv = some f) (hf : f < 8) (hk : d.qs f = k :: r) (hp : ps[k]? = some p) (hc1 : d.cr f ≤ 1000000) (hy : p.size ≤ d.cr f) (hn : n ≤ 1000) (hr3 : (d.qs f).length ≤ 300) (hB : B ≤ w.heap.size) :
    Calls Tryd.prog 106 #[.pointer (some ⟨g, 0, none⟩)] w fun e w' => e = .returned (.int .i64 (k : Int)) ∧ ComeEnd B g (.slice pa ps.length pcap) qv w w' F rv (d.sent (sizeAt ps) f k r) n := by
  have hkl := lt_of_get hp
  obtain ⟨pb, off, rfl, hlt, hc⟩ := hl.place (by omega)
  have hblt : pb < B := hpB ⟨pb, off, none⟩ rfl (by omega)
  have hcp : ∀ W, Below B w W → W.cell? ⟨pb, off + k * 3 + 1, none⟩ = some (.int .i64 p.size) := fun W hb => by
    rw [hb.cell (p := ⟨pb, off + k * 3 + 1, none⟩) hblt]; exact (hc k p hp).2.1
  obtain ⟨-, -, z1, -, -, -⟩ := okPk_true (ho.each _ p hp).1
  have hsl := h.queue f hf
  rw [hk] at hsl
  obtain ⟨qb, qo, cap, hv, hcap, hmx, ck, -, s1, s2⟩ := hsl.first
  rw [hk, List.length_cons] at hr3
  have hsz := sizeAt_get hp
  by_cases hr : r = []
  · subst hr
    have e : d.sent (sizeAt ps) f k [] = { d with qs := put1 d.qs f [], cr := put1 d.cr f 0, srv := none } := if_pos rfl
    rw [e]
    by_cases hc1' : 1 < cap
    · exact turnsTake_last B g k pb off pcap ps.length qv vq F rv d n w h p.size hcp (by omega) hkl f hs hf (by omega) hc1 hy hn (by simp) hB qb qo cap hv hmx ck hc1' (s1 hc1')
    · obtain ⟨-, s3⟩ := s2 (by omega)
      exact turnsTake_one B g k pb off pcap ps.length qv vq F rv d n w h p.size hcp (by omega) hkl f hs hf (by omega) hc1 hy hn (by simp) hB qb qo cap hv hcap hmx ck (by omega) s3
  · have e : d.sent (sizeAt ps) f k r = { d with qs := put1 d.qs f r, cr := put1 d.cr f (d.cr f - p.size) } := by rw [← hsz]; exact if_neg hr
    rw [e]
    have hrl : 0 < r.length := List.length_pos_iff.2 hr
    exact turnsTake_more B g k pb off pcap ps.length qv vq F rv d n w h p.size hcp (by omega) hkl f r hs hf (by omega) hc1 hy hn (by omega) hB qb qo cap hv hmx ck (by omega) (s1 (by omega)) hr
theorem ComeEnd.foot {B g : Nat} {pv qv : Value} {w w' : World} {F : Nat → Nat → Prop} {rv : Value} {d : Drr} {n : Nat} (h : ComeEnd B g pv qv w w' F rv d n) (hB : B ≤ w.heap.size) (hF : ∀ k, turnFoot g F rv k → B ≤ k) : Below B w w' := h.but.below hB hF
/-- One call behind the other. -/
theorem ComeEnd.step {B g : Nat} {pv qv : Value} {w w1 w2 : World} {F F1 : Nat → Nat → Prop} {rv rv1 : Value} {d2 : Drr} {n2 : Nat} (hbut : But (turnFoot g F rv) w w1) (hfoot : ∀ k, turnFoot g F1 rv1 k → turnFoot g F rv k ∨ w.heap.size ≤ k) (h : ComeEnd B g pv qv w1 w2 F1 rv1 d2 n2) : ComeEnd B g pv qv w w2 F rv d2 n2 := by
  obtain ⟨vq2, F2, rv2, k1, k2⟩ := h.at_
  refine ⟨⟨vq2, F2, rv2, k1, fun k hk => ?_⟩, ?_⟩
  · rcases k2 k hk with h' | h'
    · exact hfoot k h'
    · have := hbut.size; exact .inr (by omega)
  · refine ⟨h.but.os.trans hbut.os, h.but.tape.trans hbut.tape, h.but.output.trans hbut.output, Nat.le_trans hbut.size h.but.size, fun j hj hn => ?_⟩
    rw [h.but.block j (Nat.lt_of_lt_of_le hj hbut.size) (fun hD => ?_)]
    · exact hbut.block j hj hn
    · rcases hfoot j hD with h' | h'
      · exact hn h'
      · omega
theorem row_few' {fl : Nat → Nat} {sz qu : Nat → Int} {M : Int} {d : Drr} (h : DrrOk fl sz qu M d) (hfew : ∀ f, 8 ≤ f → d.qs f = []) : d.row.length ≤ 8 ∧ ∀ f, f ∈ d.line → f < 8 := by
  have h8 : ∀ f, f ∈ d.line → f < 8 := fun f hf => by
    rcases Nat.lt_or_ge f 8 with h' | h'
    · exact h'
    · exact absurd (hfew f h') ((h.active f).1 hf)
  have h1 := sum_le (fun _ => 1) 1 8 d.line h.nodup h8 (fun _ => Nat.le_refl _)
  have h2 : (d.line.map fun _ => 1).sum = d.line.length := by
    generalize d.line = l
    induction l with
    | nil => rfl
    | cons a r ih => simp only [List.map_cons, List.sum_cons, List.length_cons, ih]; omega
  have h3 : d.row.length ≤ d.line.length := by
    unfold Drr.line
    cases d.srv <;> simp
  exact ⟨by omega, h8⟩

/-- While the next packet is sought. -/
structure PickAt (B g : Nat) (pv qv : Value) (ps : List Pk) (ns : List Int) (w wr : World) (F : Nat → Nat → Prop) (rv : Value) (n : Nat) (Q : Nat → List Nat) (x : Nat × Drr) (fu : Nat) (d : Drr) : Prop where
  ok : DrrOk (flowOf ps) (sizeAt ps) (quOf ns) 1500 d
  qs : d.qs = Q
  go : Drr.go (sizeAt ps) (quOf ns) fu d = some x
  end_ : ComeEnd B g pv qv w wr F rv d (n + 1)

theorem liesN_bel {w w' : World} {B : Nat} {a : Option Addr} {xs : List Int} (h : LiesN w a xs) (ha : ∀ ad, a = some ad → ad.block < B) (hb : Below B w w') : LiesN w' a xs := by
  rcases h with rfl | ⟨b, off, rfl, hlt, hc⟩
  · exact .inl rfl
  · have hB : b < B := ha ⟨b, off, none⟩ rfl
    refine .inr ⟨b, off, rfl, Nat.lt_of_lt_of_le hlt hb.size, fun i x hi => ?_⟩
    rw [hb.cell (p := ⟨b, off + i, none⟩) hB]
    exact hc i x hi

set_option maxRecDepth 100000 in
set_option maxHeartbeats 8000000 in
theorem turnsPick (B g : Nat) (pa : Option Addr) (pcap : Nat) (qa : Option Addr) (qcap : Nat) (ps : List Pk) (ns : List Int) (vq : Nat → Value) (F : Nat → Nat → Prop) (rv : Value) (d0 : Drr) (n : Nat) (w : World) (h : TurnsAt B g (.slice pa ps.length pcap) (.slice qa ns.length qcap) w vq F rv d0 (n + 1)) (hl : LiesP w pa ps) (hpB : ∀ ad, pa = some ad → 0 < ps.length → ad.block < B) (hq : LiesN w qa ns) (hqB : ∀ ad, qa = some ad → ad.block < B) (ho : OkPks ps) (hns : NumsOk 1 3000 ns) (hok : DrrOk (flowOf ps) (sizeAt ps) (quOf ns) 1500 d0) (hfew : ∀ f, 8 ≤ f → d0.qs f = []) (hq3 : ∀ f, (d0.qs f).length ≤ 300 ∧ ∀ k, k ∈ d0.qs f → k < ps.length) (hn : n ≤ 1000) (hB : B ≤ w.heap.size) (fu : Nat) (k : Nat) (e : Drr) (hgo : Drr.go (sizeAt ps) (quOf ns) fu d0 = some (k, e)) :
    Calls Tryd.prog 89 #[.pointer (some ⟨g, 0, none⟩)] w fun e' w' => e' = .returned (.int .i64 (k : Int)) ∧ ComeEnd B g (.slice pa ps.length pcap) (.slice qa ns.length qcap) w w' F rv e n := by
  obtain ⟨i0, hi, hz0, hz1, hz2⟩ := info_parts Tryd.infoInt
  have hqu : ∀ f, 1 ≤ quOf ns f := fun f => (quOf_in hns.each (by omega) f).1
  have HS0 : Hid (PickAt B g (.slice pa ps.length pcap) (.slice qa ns.length qcap) ps ns w w F rv n d0.qs (k, e) fu d0) := ⟨hok, rfl, hgo, ⟨vq, F, rv, h, fun k hk => .inl hk⟩, But.refl _ _⟩
  have HB : Hid (B ≤ w.heap.size ∧ ∀ k, turnFoot g F rv k → B ≤ k) := ⟨hB, fun k hk => (h.foot k hk).1⟩
  have HL : Hid (∀ W, Below B w W → LiesP W pa ps ∧ LiesN W qa ns) := fun W hb => ⟨hl.bel hpB hb, liesN_bel hq hqB hb⟩
  have HQ : Hid (OkPks ps ∧ NumsOk 1 3000 ns ∧ (∀ f, 1 ≤ quOf ns f) ∧ (∀ f, 8 ≤ f → d0.qs f = []) ∧ (∀ f, (d0.qs f).length ≤ 300 ∧ ∀ k, k ∈ d0.qs f → k < ps.length) ∧ (∀ ad, pa = some ad → 0 < ps.length → ad.block < B) ∧ (∀ ad, qa = some ad → ad.block < B)) := ⟨ho, hns, hqu, hfew, hq3, hpB, hqB⟩
  clear h hl hpB hq hqB ho hns hok hfew hq3 hB hgo hqu
  go_enter Tryd.func89, Tryd.ntmps89
  go_wp2_with fail
  go_loopg [2] fu (fun gk r2 wr => r2 = .int .i64 0 ∧ ∃ d, PickAt B g (.slice pa ps.length pcap) (.slice qa ns.length qcap) ps ns w wr F rv n d0.qs (k, e) gk d)
  case atStart => exact ⟨rfl, d0, HS0.out⟩
  case round =>
    obtain ⟨rfl, d, hat⟩ := hrel
    have HA : Hid (PickAt B g (.slice pa ps.length pcap) (.slice qa ns.length qcap) ps ns w wr F rv n d0.qs (k, e) gk d) := hat
    obtain ⟨vq1, F1, rv1, hT1, hF1⟩ := hat.end_.at_
    have HT1 : Hid (TurnsAt B g (.slice pa ps.length pcap) (.slice qa ns.length qcap) wr vq1 F1 rv1 d (n + 1)) := hT1
    have HF1 : Hid (∀ k, turnFoot g F1 rv1 k → turnFoot g F rv k ∨ w.heap.size ≤ k) := hF1
    have HBr : Hid (Below B w wr) := hat.end_.foot HB.out.1 HB.out.2
    have c19 := hT1.cells.cs
    have hgo := hat.go
    have HW : Hid (B ≤ wr.heap.size) := Nat.le_trans HB.out.1 HBr.out.size
    have hfew' : ∀ f, 8 ≤ f → d.qs f = [] := fun f hf => by rw [hat.qs]; exact HQ.out.2.2.2.1 f hf
    have hrow := row_few' hat.ok hfew'
    clear hat hT1 hF1 hfew'
    cases gk with
    | zero => simp [Drr.go] at hgo
    | succ fu1 =>
      cases hs : d.srv with
      | none =>
        rw [Drr.go, hs] at hgo
        simp only at hgo
        cases hr : d.row with
        | nil => rw [hr] at hgo; cases hgo
        | cons f r =>
          rw [hr] at hgo
          simp only at hgo
          rw [hs] at c19
          have c19' : wr.cell? ⟨g, 19, none⟩ = some (.int .i64 (-1)) := c19
          have hf8 : f < 8 := hrow.2 f (by unfold Drr.line; rw [hs]; simp only; rw [hr]; exact List.mem_cons_self ..)
          have hcr := HA.out.ok.cr_in HQ.out.2.2.1 f
          have hqf := (quOf_in HQ.out.2.1.each (by omega) f).2
          have HSv : Hid (Calls Tryd.prog 104 #[.pointer (some ⟨g, 0, none⟩)] wr fun e w' => e = .returned (.tuple #[]) ∧ ComeEnd B g (.slice pa ps.length pcap) (.slice qa ns.length qcap) wr w' F1 rv1 (d.turn (quOf ns) f r) (n + 1)) := turnsServe B g _ qa qcap ns vq1 F1 rv1 d (n + 1) wr HT1.out (HL.out wr HBr.out).2 HQ.out.2.1 f r hr hf8 (HA.out.ok.low f) (by omega) hrow.1 HW.out HQ.out.2.2.2.2.2.2
          have HOk : Hid (DrrOk (flowOf ps) (sizeAt ps) (quOf ns) 1500 (d.turn (quOf ns) f r) ∧ (d.turn (quOf ns) f r).qs = d0.qs ∧ Drr.go (sizeAt ps) (quOf ns) fu1 (d.turn (quOf ns) f r) = some (k, e) ∧ (d.turn (quOf ns) f r).srv = some f) := ⟨HA.out.ok.turn HQ.out.2.2.1 hs hr, HA.out.qs, hgo, rfl⟩
          obtain ⟨dX, hdX⟩ : ∃ dX, d.turn (quOf ns) f r = dX := ⟨_, rfl⟩
          rw [hdX] at HSv HOk
          clear hgo c19 hs hr hrow hcr hqf hdX
          go_wp2_with fail
          refine HSv.out.mono ?_
          rintro e1 X ⟨rfl, hE⟩
          have HE : Hid (ComeEnd B g (.slice pa ps.length pcap) (.slice qa ns.length qcap) w X F rv dX (n + 1)) := ComeEnd.step HA.out.end_.but HF1.out hE
          have HFu : Hid (fu1 ≤ fu1 + 1) := Nat.le_succ _
          clear hE c19'
          obtain ⟨vqX, FX, rvX, hTX, hFX⟩ := HE.out.at_
          have HX : Hid (TurnsAt B g (.slice pa ps.length pcap) (.slice qa ns.length qcap) X vqX FX rvX dX (n + 1)) := hTX
          have HFX : Hid (∀ k, turnFoot g FX rvX k → turnFoot g F rv k ∨ w.heap.size ≤ k) := hFX
          have HBX : Hid (Below B w X) := HE.out.foot HB.out.1 HB.out.2
          clear hTX hFX
          have hrowX := row_few' HOk.out.1 (fun f hf => by rw [HOk.out.2.1]; exact HQ.out.2.2.2.1 f hf)
          have hlX : dX.line = f :: dX.row := by unfold Drr.line; rw [HOk.out.2.2.2]
          have hneX := (HOk.out.1.active f).1 (by rw [hlX]; exact List.mem_cons_self ..)
          obtain ⟨k1, r1, hk1⟩ : ∃ k1 r1, dX.qs f = k1 :: r1 := by
            cases hq : dX.qs f with
            | nil => exact absurd hq hneX
            | cons a b => exact ⟨a, b, rfl⟩
          have HK1 : Hid (dX.qs f = k1 :: r1) := hk1
          have hk1l : k1 < ps.length := (HQ.out.2.2.2.2.1 f).2 k1 (by rw [← HOk.out.2.1, hk1]; exact List.mem_cons_self ..)
          obtain ⟨p1, hp1, -⟩ := get_some ps k1 hk1l
          have HP1 : Hid (ps[k1]? = some p1) := hp1
          have hcrX := HOk.out.1.cr_in HQ.out.2.2.1 f
          have hqX := (quOf_in HQ.out.2.1.each (by omega) f).2
          have HCrX : Hid (dX.cr f ≤ 1000000) := by show dX.cr f ≤ 1000000; omega
          have HRl : Hid (dX.row.length ≤ 8) := hrowX.1
          obtain ⟨b, hb⟩ : ∃ b, decide (p1.size ≤ dX.cr f) = b := ⟨_, rfl⟩
          have HCan : Hid (Calls Tryd.prog 105 #[.pointer (some ⟨g, 0, none⟩)] X fun e w' => e = .returned (.bool b) ∧ ∃ m, w' = X.drewN m) := turnsCan B g pa pcap _ ps vqX FX rvX dX (n + 1) X HX.out (HL.out X HBX.out).1 HQ.out.1.few f k1 r1 p1 HOk.out.2.2.2 hf8 hk1 hp1 b hb
          have HBd : Hid (decide (p1.size ≤ dX.cr f) = b) := hb
          clear hrowX hlX hneX hk1 hp1 hcrX hqX hb
          go_wp2_with fail
          refine HCan.out.mono ?_
          rintro e2 Y ⟨rfl, m, hY⟩
          have hbY : Below X.heap.size X Y := by rw [hY]; exact below_drewN (Below.refl _ _) _
          have HY : Hid (TurnsAt B g (.slice pa ps.length pcap) (.slice qa ns.length qcap) Y vqX FX rvX dX (n + 1)) := HX.out.later hbY
          have HBY : Hid (Below B w Y ∧ B ≤ Y.heap.size) := ⟨HBX.out.trans (hbY.mono (Nat.le_trans HB.out.1 HBX.out.size)), Nat.le_trans (Nat.le_trans HB.out.1 HBX.out.size) hbY.size⟩
          have HBut : Hid (But (turnFoot g F rv) w Y) := HE.out.but.trans (.ofBelow hbY)
          clear hY hbY
          cases b with
          | true =>
            have hfit : p1.size ≤ dX.cr f := of_decide_eq_true HBd.out
            have hxx : (k1, dX.sent (sizeAt ps) f k1 r1) = (k, e) := by
              have hg := HOk.out.2.2.1
              cases fu1 with
              | zero => simp [Drr.go] at hg
              | succ fu2 =>
                rw [Drr.go, HOk.out.2.2.2] at hg
                simp only [HK1.out, if_pos (show sizeAt ps k1 ≤ dX.cr f by rw [sizeAt_get HP1.out]; exact hfit)] at hg
                exact Option.some.inj hg
            obtain ⟨rfl, rfl⟩ := Prod.mk.inj hxx
            have HTk : Hid (Calls Tryd.prog 106 #[.pointer (some ⟨g, 0, none⟩)] Y fun e w' => e = .returned (.int .i64 (k1 : Int)) ∧ ComeEnd B g (.slice pa ps.length pcap) (.slice qa ns.length qcap) Y w' FX rvX (dX.sent (sizeAt ps) f k1 r1) n) := turnsTake B g pa pcap _ ps vqX FX rvX dX n Y HY.out (HL.out Y HBY.out.1).1 HQ.out.2.2.2.2.2.1 HQ.out.1 f k1 r1 p1 HOk.out.2.2.2 hf8 HK1.out HP1.out HCrX.out hfit hn (by rw [HOk.out.2.1]; exact (HQ.out.2.2.2.2.1 f).1) HBY.out.2
            clear hfit hxx
            go_wp2_with fail
            refine HTk.out.mono ?_
            rintro e3 Z ⟨rfl, hZ⟩
            have HZ : Hid (ComeEnd B g (.slice pa ps.length pcap) (.slice qa ns.length qcap) w Z F rv (dX.sent (sizeAt ps) f k1 r1) n) := ComeEnd.step HBut.out HFX.out hZ
            clear hZ
            go_wp2_with fail
            go_ret
            exact ⟨rfl, HZ.out⟩
          | false =>
            have hbig : ¬ p1.size ≤ dX.cr f := of_decide_eq_false HBd.out
            have HNx : Hid (∃ fu2, fu2 < (fu1 + 1) ∧ DrrOk (flowOf ps) (sizeAt ps) (quOf ns) 1500 (dX.back f) ∧ Drr.go (sizeAt ps) (quOf ns) fu2 (dX.back f) = some (k, e)) := by
              have hg := HOk.out.2.2.1
              have hok2 := HOk.out.1.back HOk.out.2.2.2 HK1.out (by rw [sizeAt_get HP1.out]; omega)
              cases fu1 with
              | zero => simp [Drr.go] at hg
              | succ fu2 =>
                rw [Drr.go, HOk.out.2.2.2] at hg
                simp only [HK1.out, if_neg (show ¬ sizeAt ps k1 ≤ dX.cr f by rw [sizeAt_get HP1.out]; exact hbig)] at hg
                exact ⟨fu2, by omega, hok2, hg⟩
            have c18 := HY.out.cells.cr_
            have c19 : Y.cell? ⟨g, 19, none⟩ = some (.int .i64 (f : Int)) := by have := HY.out.cells.cs; rw [HOk.out.2.2.2] at this; exact this
            have hb0 : Below Y.heap.size Y (Y.drew.alloc (.cells #[.int .i64 (f : Int)] 3)) := (Below.refl _ _).drew.alloc (Nat.le_refl _) _
            have HTa : Hid (TurnsAt B g (.slice pa ps.length pcap) (.slice qa ns.length qcap) (Y.drew.alloc (.cells #[.int .i64 (f : Int)] 3)) vqX FX rvX dX (n + 1)) := HY.out.later hb0
            have HNew : Hid (∀ j u, (ints [(f : Int)])[j]? = some u → (Y.drew.alloc (.cells #[.int .i64 (f : Int)] 3)).cell? (Addr.add ⟨Y.heap.size, 0, none⟩ j) = some u) := World.news_of_block (cs := #[.int .i64 (f : Int)]) (t := 3) (heap_alloc_new Y.drew _)
            have HBs : Hid (B ≤ (Y.drew.alloc (.cells #[.int .i64 (f : Int)] 3)).heap.size) := Nat.le_trans HBY.out.2 hb0.size
            obtain ⟨rl, hrle⟩ : ∃ rl, dX.row.length = rl := ⟨_, rfl⟩
            have HRe : Hid (dX.row.length = rl) := hrle
            have hrl8 := HRl.out
            rw [hrle] at hrl8
            have c18a : (Y.alloc (.cells #[.int .i64 (f : Int)] 3)).cell? ⟨g, 18, none⟩ = some rvX := cell_later ((Below.refl _ _).alloc (Nat.le_refl _) _) c18
            clear hb0 hrle hbig
            go_wp2_with fail
            go_region_law
              (first
                | (refine step_append_lies _ rfl _ _ 32 rfl B 3 i0 (.int .i64 0) 1 8 Tryd.underlying32 hi hz0 hz1 hz2 rfl (by decide) rvX rl (ints (asInts dX.row)) rfl (by have := HTa.out.row; rwa [HRe.out] at this) ⟨Y.heap.size, 0, none⟩ 1 1 (ints [(f : Int)]) rfl rfl HNew.out (ints_one _) (by decide) (by unfold maxLen; omega) (by omega) HBs.out _ rfl ?_
                   intro g5 cap5 w5 ho5 hg5 hat5 hlt5
                   have hbut : But (fun k => rvX.ownBlock = some k) (Y.drew.alloc (.cells #[.int .i64 (f : Int)] 3)) w5 := ⟨hg5.os, hg5.tape, hg5.output, hg5.size, fun k hk hn => hg5.block k hk (fun e => hn e.symm)⟩
                   have HT5 := HTa.out.cells.but hbut (fun e => HTa.out.rowg e)
                   have y1 := HT5.cr_
                   have y2 := HT5.free 18
                   have H5 : Hid (w5.ownsRow B 3 1 (.slice (some ⟨g5, 0, none⟩) (rl + 1) cap5) (rl + 1) (ints (asInts dX.row) ++ ints [(f : Int)]) ∧ But (fun k => rvX.ownBlock = some k) (Y.drew.alloc (.cells #[.int .i64 (f : Int)] 3)) w5 ∧ (rvX.ownBlock = some g5 ∨ g5 = (Y.drew.alloc (.cells #[.int .i64 (f : Int)] 3)).heap.size)) := ⟨ho5, hbut, hat5⟩
                   clear ho5 hg5 hat5 hlt5 hbut HT5)
                | fail)
            all_goals
              have HNw : Hid (∀ k, (Value.slice (some ⟨g5, 0, none⟩) (rl + 1) cap5).ownBlock = some k → rvX.ownBlock = some k ∨ (Y.drew.alloc (.cells #[.int .i64 (f : Int)] 3)).heap.size ≤ k) := fun j hj => by
                have e : g5 = j := Option.some.inj hj
                rcases H5.out.2.2 with h' | h'
                · exact .inl (by rw [← e]; exact h')
                · exact .inr (by rw [← e, h']; exact Nat.le_refl _)
              have HT6 : Hid (TurnsAt B g (.slice pa ps.length pcap) (.slice qa ns.length qcap) (w5.setCell ⟨g, 18, none⟩ (.slice (some ⟨g5, 0, none⟩) (rl + 1) cap5)) vqX FX (.slice (some ⟨g5, 0, none⟩) (rl + 1) cap5) { dX with row := dX.row ++ [f] } (n + 1)) := HTa.out.setR H5.out.2.1 (by rw [List.length_append, asInts_snoc, HRe.out]; exact H5.out.1) HNw.out
              have z1 := HT6.out.cells.cs
              have z2 := HT6.out.cells.free 19
              have HBt : Hid (But (turnFoot g FX rvX) Y (w5.setCell ⟨g, 18, none⟩ (.slice (some ⟨g5, 0, none⟩) (rl + 1) cap5))) := ((But.ofBelow ((Below.refl _ _).drew.alloc (Nat.le_refl _) _)).trans (H5.out.2.1.mono fun j hj => .inr (.inr hj))).trans ((butG _ _ _ _).mono fun j hj => .inl hj)
              clear y1 y2
              go_wp2_with fail
              obtain ⟨fu2, hfu2, hok2, hgo2⟩ := HNx.out
              go_roundg fu2
              case measure => omega
              case rel =>
                refine ⟨rfl, dX.back f, hok2, HOk.out.2.1, hgo2, ComeEnd.step HBut.out HFX.out ⟨⟨vqX, FX, _, HT6.out.setS none rfl, fun j hj => ?_⟩, HBt.out.trans ((butG _ _ _ _).mono fun j hj => .inl hj)⟩⟩
                rcases foot_setR HNw.out hj with h' | h'
                · exact .inl h'
                · exact .inr (Nat.le_trans (by simp) h')
      | some f =>
        rw [hs] at c19
        have c19' : wr.cell? ⟨g, 19, none⟩ = some (.int .i64 (f : Int)) := c19
        have hf8 : f < 8 := hrow.2 f (by unfold Drr.line; rw [hs]; exact List.mem_cons_self ..)
        have hfm : ((f : Int) == -1) = false := by simp
        have HOk : Hid (DrrOk (flowOf ps) (sizeAt ps) (quOf ns) 1500 d ∧ d.qs = d0.qs ∧ Drr.go (sizeAt ps) (quOf ns) (fu1 + 1) d = some (k, e) ∧ d.srv = some f) := ⟨HA.out.ok, HA.out.qs, hgo, hs⟩
        obtain ⟨dX, hdX⟩ : ∃ dX, d = dX := ⟨_, rfl⟩
        obtain ⟨X, hX⟩ : ∃ X, wr = X := ⟨_, rfl⟩
        have HE : Hid (ComeEnd B g (.slice pa ps.length pcap) (.slice qa ns.length qcap) w X F rv dX (n + 1)) := by rw [← hX, ← hdX]; exact HA.out.end_
        rw [hdX] at HOk
        rw [hX] at c19' ⊢
        clear hgo c19 hs hrow hdX hX HA HT1 HF1 HBr HW
        obtain ⟨vqX, FX, rvX, hTX, hFX⟩ := HE.out.at_
        have HX : Hid (TurnsAt B g (.slice pa ps.length pcap) (.slice qa ns.length qcap) X vqX FX rvX dX (n + 1)) := hTX
        have HFX : Hid (∀ k, turnFoot g FX rvX k → turnFoot g F rv k ∨ w.heap.size ≤ k) := hFX
        have HBX : Hid (Below B w X) := HE.out.foot HB.out.1 HB.out.2
        clear hTX hFX
        have hrowX := row_few' HOk.out.1 (fun f hf => by rw [HOk.out.2.1]; exact HQ.out.2.2.2.1 f hf)
        have hlX : dX.line = f :: dX.row := by unfold Drr.line; rw [HOk.out.2.2.2]
        have hneX := (HOk.out.1.active f).1 (by rw [hlX]; exact List.mem_cons_self ..)
        obtain ⟨k1, r1, hk1⟩ : ∃ k1 r1, dX.qs f = k1 :: r1 := by
          cases hq : dX.qs f with
          | nil => exact absurd hq hneX
          | cons a b => exact ⟨a, b, rfl⟩
        have HK1 : Hid (dX.qs f = k1 :: r1) := hk1
        have hk1l : k1 < ps.length := (HQ.out.2.2.2.2.1 f).2 k1 (by rw [← HOk.out.2.1, hk1]; exact List.mem_cons_self ..)
        obtain ⟨p1, hp1, -⟩ := get_some ps k1 hk1l
        have HP1 : Hid (ps[k1]? = some p1) := hp1
        have hcrX := HOk.out.1.cr_in HQ.out.2.2.1 f
        have hqX := (quOf_in HQ.out.2.1.each (by omega) f).2
        have HCrX : Hid (dX.cr f ≤ 1000000) := by show dX.cr f ≤ 1000000; omega
        have HRl : Hid (dX.row.length ≤ 8) := hrowX.1
        obtain ⟨b, hb⟩ : ∃ b, decide (p1.size ≤ dX.cr f) = b := ⟨_, rfl⟩
        have HCan : Hid (Calls Tryd.prog 105 #[.pointer (some ⟨g, 0, none⟩)] X fun e w' => e = .returned (.bool b) ∧ ∃ m, w' = X.drewN m) := turnsCan B g pa pcap _ ps vqX FX rvX dX (n + 1) X HX.out (HL.out X HBX.out).1 HQ.out.1.few f k1 r1 p1 HOk.out.2.2.2 hf8 hk1 hp1 b hb
        have HBd : Hid (decide (p1.size ≤ dX.cr f) = b) := hb
        clear hrowX hlX hneX hk1 hp1 hcrX hqX hb
        go_wp2_with fail
        refine HCan.out.mono ?_
        rintro e2 Y ⟨rfl, m, hY⟩
        have hbY : Below X.heap.size X Y := by rw [hY]; exact below_drewN (Below.refl _ _) _
        have HY : Hid (TurnsAt B g (.slice pa ps.length pcap) (.slice qa ns.length qcap) Y vqX FX rvX dX (n + 1)) := HX.out.later hbY
        have HBY : Hid (Below B w Y ∧ B ≤ Y.heap.size) := ⟨HBX.out.trans (hbY.mono (Nat.le_trans HB.out.1 HBX.out.size)), Nat.le_trans (Nat.le_trans HB.out.1 HBX.out.size) hbY.size⟩
        have HBut : Hid (But (turnFoot g F rv) w Y) := HE.out.but.trans (.ofBelow hbY)
        clear hY hbY
        cases b with
        | true =>
          have hfit : p1.size ≤ dX.cr f := of_decide_eq_true HBd.out
          have hxx : (k1, dX.sent (sizeAt ps) f k1 r1) = (k, e) := by
            have hg := HOk.out.2.2.1
            rw [Drr.go, HOk.out.2.2.2] at hg
            simp only [HK1.out, if_pos (show sizeAt ps k1 ≤ dX.cr f by rw [sizeAt_get HP1.out]; exact hfit)] at hg
            exact Option.some.inj hg
          obtain ⟨rfl, rfl⟩ := Prod.mk.inj hxx
          have HTk : Hid (Calls Tryd.prog 106 #[.pointer (some ⟨g, 0, none⟩)] Y fun e w' => e = .returned (.int .i64 (k1 : Int)) ∧ ComeEnd B g (.slice pa ps.length pcap) (.slice qa ns.length qcap) Y w' FX rvX (dX.sent (sizeAt ps) f k1 r1) n) := turnsTake B g pa pcap _ ps vqX FX rvX dX n Y HY.out (HL.out Y HBY.out.1).1 HQ.out.2.2.2.2.2.1 HQ.out.1 f k1 r1 p1 HOk.out.2.2.2 hf8 HK1.out HP1.out HCrX.out hfit hn (by rw [HOk.out.2.1]; exact (HQ.out.2.2.2.2.1 f).1) HBY.out.2
          clear hfit hxx
          go_wp2_with fail
          refine HTk.out.mono ?_
          rintro e3 Z ⟨rfl, hZ⟩
          have HZ : Hid (ComeEnd B g (.slice pa ps.length pcap) (.slice qa ns.length qcap) w Z F rv (dX.sent (sizeAt ps) f k1 r1) n) := ComeEnd.step HBut.out HFX.out hZ
          clear hZ
          go_wp2_with fail
          go_ret
          exact ⟨rfl, HZ.out⟩
        | false =>
          have hbig : ¬ p1.size ≤ dX.cr f := of_decide_eq_false HBd.out
          have HNx : Hid (∃ fu2, fu2 < (fu1 + 1) ∧ DrrOk (flowOf ps) (sizeAt ps) (quOf ns) 1500 (dX.back f) ∧ Drr.go (sizeAt ps) (quOf ns) fu2 (dX.back f) = some (k, e)) := by
            have hg := HOk.out.2.2.1
            have hok2 := HOk.out.1.back HOk.out.2.2.2 HK1.out (by rw [sizeAt_get HP1.out]; omega)
            rw [Drr.go, HOk.out.2.2.2] at hg
            simp only [HK1.out, if_neg (show ¬ sizeAt ps k1 ≤ dX.cr f by rw [sizeAt_get HP1.out]; exact hbig)] at hg
            exact ⟨fu1, by omega, hok2, hg⟩
          have c18 := HY.out.cells.cr_
          have c19 : Y.cell? ⟨g, 19, none⟩ = some (.int .i64 (f : Int)) := by have := HY.out.cells.cs; rw [HOk.out.2.2.2] at this; exact this
          have hb0 : Below Y.heap.size Y (Y.drew.alloc (.cells #[.int .i64 (f : Int)] 3)) := (Below.refl _ _).drew.alloc (Nat.le_refl _) _
          have HTa : Hid (TurnsAt B g (.slice pa ps.length pcap) (.slice qa ns.length qcap) (Y.drew.alloc (.cells #[.int .i64 (f : Int)] 3)) vqX FX rvX dX (n + 1)) := HY.out.later hb0
          have HNew : Hid (∀ j u, (ints [(f : Int)])[j]? = some u → (Y.drew.alloc (.cells #[.int .i64 (f : Int)] 3)).cell? (Addr.add ⟨Y.heap.size, 0, none⟩ j) = some u) := World.news_of_block (cs := #[.int .i64 (f : Int)]) (t := 3) (heap_alloc_new Y.drew _)
          have HBs : Hid (B ≤ (Y.drew.alloc (.cells #[.int .i64 (f : Int)] 3)).heap.size) := Nat.le_trans HBY.out.2 hb0.size
          obtain ⟨rl, hrle⟩ : ∃ rl, dX.row.length = rl := ⟨_, rfl⟩
          have HRe : Hid (dX.row.length = rl) := hrle
          have hrl8 := HRl.out
          rw [hrle] at hrl8
          have c18a : (Y.alloc (.cells #[.int .i64 (f : Int)] 3)).cell? ⟨g, 18, none⟩ = some rvX := cell_later ((Below.refl _ _).alloc (Nat.le_refl _) _) c18
          clear hb0 hrle hbig
          go_wp2_with fail
          go_region_law
            (first
              | (refine step_append_lies _ rfl _ _ 32 rfl B 3 i0 (.int .i64 0) 1 8 Tryd.underlying32 hi hz0 hz1 hz2 rfl (by decide) rvX rl (ints (asInts dX.row)) rfl (by have := HTa.out.row; rwa [HRe.out] at this) ⟨Y.heap.size, 0, none⟩ 1 1 (ints [(f : Int)]) rfl rfl HNew.out (ints_one _) (by decide) (by unfold maxLen; omega) (by omega) HBs.out _ rfl ?_
                 intro g5 cap5 w5 ho5 hg5 hat5 hlt5
                 have hbut : But (fun k => rvX.ownBlock = some k) (Y.drew.alloc (.cells #[.int .i64 (f : Int)] 3)) w5 := ⟨hg5.os, hg5.tape, hg5.output, hg5.size, fun k hk hn => hg5.block k hk (fun e => hn e.symm)⟩
                 have HT5 := HTa.out.cells.but hbut (fun e => HTa.out.rowg e)
                 have y1 := HT5.cr_
                 have y2 := HT5.free 18
                 have H5 : Hid (w5.ownsRow B 3 1 (.slice (some ⟨g5, 0, none⟩) (rl + 1) cap5) (rl + 1) (ints (asInts dX.row) ++ ints [(f : Int)]) ∧ But (fun k => rvX.ownBlock = some k) (Y.drew.alloc (.cells #[.int .i64 (f : Int)] 3)) w5 ∧ (rvX.ownBlock = some g5 ∨ g5 = (Y.drew.alloc (.cells #[.int .i64 (f : Int)] 3)).heap.size)) := ⟨ho5, hbut, hat5⟩
                 clear ho5 hg5 hat5 hlt5 hbut HT5)
              | fail)
          all_goals
            have HNw : Hid (∀ k, (Value.slice (some ⟨g5, 0, none⟩) (rl + 1) cap5).ownBlock = some k → rvX.ownBlock = some k ∨ (Y.drew.alloc (.cells #[.int .i64 (f : Int)] 3)).heap.size ≤ k) := fun j hj => by
              have e : g5 = j := Option.some.inj hj
              rcases H5.out.2.2 with h' | h'
              · exact .inl (by rw [← e]; exact h')
              · exact .inr (by rw [← e, h']; exact Nat.le_refl _)
            have HT6 : Hid (TurnsAt B g (.slice pa ps.length pcap) (.slice qa ns.length qcap) (w5.setCell ⟨g, 18, none⟩ (.slice (some ⟨g5, 0, none⟩) (rl + 1) cap5)) vqX FX (.slice (some ⟨g5, 0, none⟩) (rl + 1) cap5) { dX with row := dX.row ++ [f] } (n + 1)) := HTa.out.setR H5.out.2.1 (by rw [List.length_append, asInts_snoc, HRe.out]; exact H5.out.1) HNw.out
            have z1 := HT6.out.cells.cs
            have z2 := HT6.out.cells.free 19
            have HBt : Hid (But (turnFoot g FX rvX) Y (w5.setCell ⟨g, 18, none⟩ (.slice (some ⟨g5, 0, none⟩) (rl + 1) cap5))) := ((But.ofBelow ((Below.refl _ _).drew.alloc (Nat.le_refl _) _)).trans (H5.out.2.1.mono fun j hj => .inr (.inr hj))).trans ((butG _ _ _ _).mono fun j hj => .inl hj)
            clear y1 y2
            go_wp2_with fail
            obtain ⟨fu2, hfu2, hok2, hgo2⟩ := HNx.out
            go_roundg fu2
            case measure => omega
            case rel =>
              refine ⟨rfl, dX.back f, hok2, HOk.out.2.1, hgo2, ComeEnd.step HBut.out HFX.out ⟨⟨vqX, FX, _, HT6.out.setS none rfl, fun j hj => ?_⟩, HBt.out.trans ((butG _ _ _ _).mono fun j hj => .inl hj)⟩⟩
              rcases foot_setR HNw.out hj with h' | h'
              · exact .inl h'
              · exact .inr (Nat.le_trans (by simp) h')
end Go.Proofs.YtepnfioldbhffabDoor

/- Walks: the rule that is made of the queue's methods; package round's Run. -/
namespace Go.Proofs.YtepnfioldbhffabDoor
open Go.RowKit

/-- The rule that is made of the methods. -/
def ruleT (g : Nat) : Value := .agg #[.func (.func 88) #[.pointer (some ⟨g, 0, none⟩)] #[], .func (.func 89) #[.pointer (some ⟨g, 0, none⟩)] #[], .func (.func 90) #[.pointer (some ⟨g, 0, none⟩)] #[]]

section
variable (B : Nat) (W0 : World) (g : Nat) (pa : Option Addr) (pcap : Nat) (qa : Option Addr) (qcap : Nat) (ps : List Pk) (ns : List Int)
/-- What the queue leans on. -/
structure TurnsEnv : Prop where
  pk : LiesP W0 pa ps
  nu : LiesN W0 qa ns
  pB : ∀ ad, pa = some ad → 0 < ps.length → ad.block < B
  qB : ∀ ad, qa = some ad → ad.block < B
  ok : OkPks ps
  ns : NumsOk 1 3000 ns
end
section
variable {B : Nat} {W0 : World} {g : Nat} {pa : Option Addr} {pcap : Nat} {qa : Option Addr} {qcap : Nat} {ps : List Pk} {ns : List Int}
theorem turns_come (E : TurnsEnv B W0 pa qa ps ns) {D : Nat → Prop} {q : TQ} {w : World} (h : HeldT B W0 g (.slice pa ps.length pcap) (.slice qa ns.length qcap) w D q) (hok : TQOk ps ns 1500 q) (hn : q.n ≤ 300) {k : Nat} {p : Pk} (hp : ps[k]? = some p) :
    Calls Tryd.prog 88 #[.pointer (some ⟨g, 0, none⟩), .int .i64 (k : Int)] w fun e w' => e = .returned (.tuple #[]) ∧ QueLeft (HeldT B W0 g (.slice pa ps.length pcap) (.slice qa ns.length qcap)) w w' D ((turnsQ ps ns).come q k) := by
  obtain ⟨vq, F, rv, hT, hD⟩ := h.parts
  have hl : LiesP w pa ps := E.pk.bel E.pB h.env
  have hf8 := flow_lt E.ok k
  have hpf : p.flow = ((flowOf ps k : Nat) : Int) := by
    rw [flowOf_get hp]
    have := okPk_true (E.ok.each _ p hp).1
    omega
  have hq3 : (q.d.qs (flowOf ps k)).length ≤ 300 := by
    have := cnt_le q.d.qs 8 hf8
    have := hok.count
    omega
  by_cases hq : q.d.qs (flowOf ps k) = []
  · refine (turnsCome_first B g pa pcap _ ps vq F rv q.d q.n w hT hl E.ok.few k (flowOf ps k) p hp hpf hf8 hq (row_few hok) (by omega) h.le).mono ?_
    rintro e w' ⟨rfl, hE⟩
    have hm : flowOf ps k ∉ q.d.line := fun hm => (hok.state.active _).1 hm hq
    have e1 : ((turnsQ ps ns).come q k).d = { q.d with qs := put1 q.d.qs (flowOf ps k) (q.d.qs (flowOf ps k) ++ [k]), row := q.d.row ++ [flowOf ps k] } := by
      show q.d.come (flowOf ps) k = _
      unfold Drr.come
      rw [if_neg hm]
    exact ⟨rfl, ComeEnd.left h hD (by rw [e1]; exact hE)⟩
  · refine (turnsCome_more B g pa pcap _ ps vq F rv q.d q.n w hT hl E.ok.few k (flowOf ps k) p hp hpf hf8 hq hq3 (by omega) h.le).mono ?_
    rintro e w' ⟨rfl, hE⟩
    have hm : flowOf ps k ∈ q.d.line := (hok.state.active _).2 hq
    have e1 : ((turnsQ ps ns).come q k).d = { q.d with qs := put1 q.d.qs (flowOf ps k) (q.d.qs (flowOf ps k) ++ [k]) } := by
      show q.d.come (flowOf ps) k = _
      unfold Drr.come
      rw [if_pos hm]
    exact ⟨rfl, ComeEnd.left h hD (by rw [e1]; exact hE)⟩
theorem turns_pick (E : TurnsEnv B W0 pa qa ps ns) {D : Nat → Prop} {q : TQ} {w : World} (h : HeldT B W0 g (.slice pa ps.length pcap) (.slice qa ns.length qcap) w D q) (hok : TQOk ps ns 1500 q) (h0 : 0 < q.n) (hn : q.n ≤ 300) (hq3 : ∀ f, (q.d.qs f).length ≤ 300 ∧ ∀ k, k ∈ q.d.qs f → k < ps.length) :
    Calls Tryd.prog 89 #[.pointer (some ⟨g, 0, none⟩)] w fun e w' => e = .returned (.int .i64 ((turnsQ ps ns).pick q : Nat)) ∧ QueLeft (HeldT B W0 g (.slice pa ps.length pcap) (.slice qa ns.length qcap)) w w' D ((turnsQ ps ns).left q) := by
  obtain ⟨vq, F, rv, hT, hD⟩ := h.parts
  have hqu : ∀ f, 1 ≤ quOf ns f := fun f => (quOf_in E.ns.each (by omega) f).1
  obtain ⟨k, e, hx, e1, e2, -⟩ := hok.picks hqu h0
  obtain ⟨n, hn'⟩ : ∃ n, q.n = n + 1 := ⟨q.n - 1, by omega⟩
  rw [hn'] at hT
  refine (turnsPick B g pa pcap qa qcap ps ns vq F rv q.d n w hT (E.pk.bel E.pB h.env) E.pB (liesN_bel E.nu E.qB h.env) E.qB E.ok E.ns hok.state hok.few hq3 (by omega) h.le (fuelOf ps q.d) k e hx).mono ?_
  rintro e' w' ⟨rfl, hE⟩
  rw [e1, e2]
  exact ⟨rfl, ComeEnd.left h hD (by rw [show q.n - 1 = n by omega]; exact hE)⟩

set_option maxHeartbeats 1000000 in
theorem turnsRuleRest {D : Nat → Prop} {q : TQ} {w : World} {pv qv : Value} (h : HeldT B W0 g pv qv w D q) :
    Calls Tryd.prog 131 #[ruleT g] w fun e w' => e = .returned (.int .i64 (q.n : Int)) ∧ QueLeft (HeldT B W0 g pv qv) w w' D q := by
  have HH : Hid (HeldT B W0 g pv qv w D q) := h
  clear h
  unfold ruleT
  go_enter Tryd.func131, Tryd.ntmps131
  go_wp2_with fail
  refine (turnsRest B W0 g pv qv D q _ (HH.out.alloc _)).mono ?_
  rintro e w1 ⟨rfl, rfl⟩
  go_wp2_with fail
  go_ret
  exact ⟨rfl, HH.out.same ((Below.refl _ _).alloc (Nat.le_refl _) _)⟩
set_option maxHeartbeats 1000000 in
theorem turnsRulePick (E : TurnsEnv B W0 pa qa ps ns) {D : Nat → Prop} {q : TQ} {w : World} (h : HeldT B W0 g (.slice pa ps.length pcap) (.slice qa ns.length qcap) w D q) (hok : TQOk ps ns 1500 q) (h0 : 0 < q.n) (hn : q.n ≤ 300) (hq3 : ∀ f, (q.d.qs f).length ≤ 300 ∧ ∀ k, k ∈ q.d.qs f → k < ps.length) :
    Calls Tryd.prog 130 #[ruleT g] w fun e w' => e = .returned (.int .i64 ((turnsQ ps ns).pick q : Nat)) ∧ QueLeft (HeldT B W0 g (.slice pa ps.length pcap) (.slice qa ns.length qcap)) w w' D ((turnsQ ps ns).left q) := by
  have HP : Hid (∀ w', HeldT B W0 g (.slice pa ps.length pcap) (.slice qa ns.length qcap) w' D q → Calls Tryd.prog 89 #[.pointer (some ⟨g, 0, none⟩)] w' fun e w'' => e = .returned (.int .i64 ((turnsQ ps ns).pick q : Nat)) ∧ QueLeft (HeldT B W0 g (.slice pa ps.length pcap) (.slice qa ns.length qcap)) w' w'' D ((turnsQ ps ns).left q)) := fun w' h' => turns_pick E h' hok h0 hn hq3
  have HH : Hid (HeldT B W0 g (.slice pa ps.length pcap) (.slice qa ns.length qcap) w D q) := h
  clear h hok hq3 h0
  unfold ruleT
  go_enter Tryd.func130, Tryd.ntmps130
  go_wp2_with fail
  refine (HP.out _ (HH.out.alloc _)).mono ?_
  rintro e w1 ⟨rfl, ho⟩
  have HO : Hid (QueLeft (HeldT B W0 g (.slice pa ps.length pcap) (.slice qa ns.length qcap)) w w1 D ((turnsQ ps ns).left q)) := ho.after ((Below.refl _ _).alloc (Nat.le_refl _) _)
  clear ho
  go_wp2_with fail
  go_ret
  exact ⟨rfl, HO.out⟩
set_option maxHeartbeats 1000000 in
theorem turnsRuleCome (E : TurnsEnv B W0 pa qa ps ns) {D : Nat → Prop} {q : TQ} {w : World} (h : HeldT B W0 g (.slice pa ps.length pcap) (.slice qa ns.length qcap) w D q) (hok : TQOk ps ns 1500 q) (hn : q.n ≤ 300) {k : Nat} {p : Pk} (hp : ps[k]? = some p) :
    Calls Tryd.prog 129 #[ruleT g, .int .i64 (k : Int)] w fun e w' => e = .returned (.tuple #[]) ∧ QueLeft (HeldT B W0 g (.slice pa ps.length pcap) (.slice qa ns.length qcap)) w w' D ((turnsQ ps ns).come q k) := by
  have HP : Hid (∀ w', HeldT B W0 g (.slice pa ps.length pcap) (.slice qa ns.length qcap) w' D q → Calls Tryd.prog 88 #[.pointer (some ⟨g, 0, none⟩), .int .i64 (k : Int)] w' fun e w'' => e = .returned (.tuple #[]) ∧ QueLeft (HeldT B W0 g (.slice pa ps.length pcap) (.slice qa ns.length qcap)) w' w'' D ((turnsQ ps ns).come q k)) := fun w' h' => turns_come E h' hok hn hp
  have HH : Hid (HeldT B W0 g (.slice pa ps.length pcap) (.slice qa ns.length qcap) w D q) := h
  clear h hok hp
  unfold ruleT
  go_enter Tryd.func129, Tryd.ntmps129
  go_wp2_with fail
  refine (HP.out _ (HH.out.alloc _)).mono ?_
  rintro e w1 ⟨rfl, ho⟩
  have HO : Hid (QueLeft (HeldT B W0 g (.slice pa ps.length pcap) (.slice qa ns.length qcap)) w w1 D ((turnsQ ps ns).come q k)) := ho.after ((Below.refl _ _).alloc (Nat.le_refl _) _)
  clear ho
  go_wp2_with fail
  go_end0
  exact ⟨rfl, HO.out⟩
end

theorem turns_new (w : World) (pv qv : Value) (t : TypeId) : TurnsAt w.heap.size w.heap.size pv qv (w.alloc (.cells #[pv, qv, .slice none 0 0, .slice none 0 0, .slice none 0 0, .slice none 0 0, .slice none 0 0, .slice none 0 0, .slice none 0 0, .slice none 0 0, .int .i64 0, .int .i64 0, .int .i64 0, .int .i64 0, .int .i64 0, .int .i64 0, .int .i64 0, .int .i64 0, .slice none 0 0, .int .i64 (-1), .int .i64 0] t)) (fun _ => .slice none 0 0) (fun _ _ => False) (.slice none 0 0) turns0.d 0 := by
  have hc : ∀ i, (w.alloc (.cells #[pv, qv, .slice none 0 0, .slice none 0 0, .slice none 0 0, .slice none 0 0, .slice none 0 0, .slice none 0 0, .slice none 0 0, .slice none 0 0, .int .i64 0, .int .i64 0, .int .i64 0, .int .i64 0, .int .i64 0, .int .i64 0, .int .i64 0, .int .i64 0, .slice none 0 0, .int .i64 (-1), .int .i64 0] t)).cell? ⟨w.heap.size, i, none⟩ = (#[pv, qv, .slice none 0 0, .slice none 0 0, .slice none 0 0, .slice none 0 0, .slice none 0 0, .slice none 0 0, .slice none 0 0, .slice none 0 0, .int .i64 0, .int .i64 0, .int .i64 0, .int .i64 0, .int .i64 0, .int .i64 0, .int .i64 0, .int .i64 0, .slice none 0 0, .int .i64 (-1), .int .i64 0] : Array Value)[i]? := fun i => World.cell?_alloc_at _ _ _ _ rfl
  refine ⟨⟨hc 0, hc 1, fun f hf => ?_, fun f hf => ?_, hc 18, hc 19, hc 20, fun i => World.frozen?_alloc_new w _ _ i⟩, fun f hf => Slides.nil _ _, World.ownsRow_nil _ _ _ _, fun f hf => ⟨id, fun _ h => h.elim, fun _ _ _ h => h.elim⟩, (fun h => by cases h), Nat.le_refl _⟩
  · match f, hf with
    | 0, _ => exact hc 2
    | 1, _ => exact hc 3
    | 2, _ => exact hc 4
    | 3, _ => exact hc 5
    | 4, _ => exact hc 6
    | 5, _ => exact hc 7
    | 6, _ => exact hc 8
    | 7, _ => exact hc 9
    | f + 8, h => omega
  · match f, hf with
    | 0, _ => exact hc 10
    | 1, _ => exact hc 11
    | 2, _ => exact hc 12
    | 3, _ => exact hc 13
    | 4, _ => exact hc 14
    | 5, _ => exact hc 15
    | 6, _ => exact hc 16
    | 7, _ => exact hc 17
    | f + 8, h => omega
set_option maxHeartbeats 1000000 in
/-- An empty queue. -/
theorem byTurns_any (pa : Option Addr) (pl pcap : Nat) (qa : Option Addr) (ql qcap : Nat) (w : World) :
    Calls Tryd.prog 70 #[.slice pa pl pcap, .slice qa ql qcap] w fun e w' => e = .returned (.iface 117 (ruleT w.heap.size)) ∧ HeldT w.heap.size w w.heap.size (.slice pa pl pcap) (.slice qa ql qcap) w' (fun k => k = w.heap.size) turns0 ∧ Below w.heap.size w w' := by
  unfold ruleT
  go_enter Tryd.func70, Tryd.ntmps70
  go_wp2_with fail
  go_ret
  have hb := (Below.refl w.heap.size w).alloc (Nat.le_refl _) (.cells #[.slice pa pl pcap, .slice qa ql qcap, .slice none 0 0, .slice none 0 0, .slice none 0 0, .slice none 0 0, .slice none 0 0, .slice none 0 0, .slice none 0 0, .slice none 0 0, .int .i64 0, .int .i64 0, .int .i64 0, .int .i64 0, .int .i64 0, .int .i64 0, .int .i64 0, .int .i64 0, .slice none 0 0, .int .i64 (-1), .int .i64 0] 126)
  exact ⟨rfl, ⟨hb, _, _, _, turns_new w _ _ _, fun k => ⟨fun h => .inl h, fun h => by
    rcases h with h | ⟨_, _, h⟩ | h
    · exact h
    · exact h.elim
    · cases h⟩⟩, hb⟩

set_option maxHeartbeats 1000000 in
theorem quantum_yes (x : Int) (w : World) (h : 1 ≤ x ∧ x ≤ 3000) : Calls Tryd.prog 69 #[.int .i64 x] w fun e w' => e = .returned (.bool true) ∧ w' = w := by
  obtain ⟨h1, h2⟩ := h
  go_enter Tryd.func69, Tryd.ntmps69
  go_wp2
  go_ret
  exact ⟨rfl, rfl⟩
set_option maxHeartbeats 1000000 in
theorem quantum_no (x : Int) (w : World) (h : ¬ (1 ≤ x ∧ x ≤ 3000)) : Calls Tryd.prog 69 #[.int .i64 x] w fun e w' => e = .returned (.bool false) ∧ w' = w := by
  by_cases h1 : 1 ≤ x
  · have h2 : ¬ x ≤ 3000 := fun h' => h ⟨h1, h'⟩
    clear h
    go_enter Tryd.func69, Tryd.ntmps69
    go_wp2
    go_ret
    exact ⟨rfl, rfl⟩
  · clear h
    go_enter Tryd.func69, Tryd.ntmps69
    go_wp2
    go_ret
    exact ⟨rfl, rfl⟩
set_option maxHeartbeats 2000000 in
/-- Up to j all quanta are right; there is the end, or one that is not. -/
theorem checkQuanta_to (a : Option Addr) (cap : Nat) (ns : List Int) (w : World) (ad : Nat → Addr) (hl : LiesN w a ns) (h8 : ns.length = 8) (j : Nat) (hj : j ≤ 8) (hg : ∀ (i : Nat) y, i < j → ns[i]? = some y → 1 ≤ y ∧ y ≤ 3000) (R : Value)
    (h : (j = 8 ∧ R = .nilIface) ∨ (R = .iface 157 (.pointer (some (ad 1))) ∧ w.cell? ⟨2, 0, none⟩ = some (.iface 157 (.pointer (some (ad 1)))) ∧ ∃ x, ns[j]? = some x ∧ ¬ (1 ≤ x ∧ x ≤ 3000))) :
    Calls Tryd.prog 68 #[.slice a 8 cap, .func (.func 69) #[] #[]] w fun e w' => e = .returned R ∧ w' = w := by
  have HG : Hid (∀ (i : Nat) y, i < j → ns[i]? = some y → 1 ≤ y ∧ y ≤ 3000) := hg
  have HR : Hid ((j = 8 ∧ R = .nilIface) ∨ (R = .iface 157 (.pointer (some (ad 1))) ∧ w.cell? ⟨2, 0, none⟩ = some (.iface 157 (.pointer (some (ad 1)))) ∧ ∃ x, ns[j]? = some x ∧ ¬ (1 ≤ x ∧ x ≤ 3000))) := h
  obtain ⟨b, off, rfl, -, hcell⟩ := hl.place (by omega)
  have HC : Hid (∀ (i : Nat) x, ns[i]? = some x → w.cell? ⟨b, off + i, none⟩ = some (.int .i64 x)) := hcell
  have H8 : Hid (ns.length = 8) := h8
  clear hg h hl hcell h8
  go_enter Tryd.func68, Tryd.ntmps68
  go_wp2_with fail
  go_loopw [13] (fun i wr => ∃ k : Nat, k ≤ j ∧ i = .int .i64 k ∧ wr = w) (fun i _ => 8 - (intOf i).toNat)
  case atStart => exact ⟨0, Nat.zero_le _, rfl, rfl⟩
  case round =>
    obtain ⟨k, hk, rfl, rfl⟩ := hrel
    by_cases hkj : k < j
    · obtain ⟨x, hx, -⟩ := get_some ns k (by rw [H8.out]; omega)
      have hok := HG.out k x hkj hx
      have c1 := HC.out k x hx
      clear hx
      go_wp2_with fail
      refine (quantum_yes x _ hok).mono ?_
      rintro e w1 ⟨rfl, rfl⟩
      go_wp2_with fail
      go_roundw
      case rel => exact ⟨k + 1, by omega, by go_num, trivial⟩
      case measure => simp [intOf]; omega
    · obtain rfl : k = j := by omega
      rcases HR.out with ⟨rfl, rfl⟩ | ⟨rfl, he, x, hx, hbad⟩
      · go_wp2_with fail
        go_ret
        exact ⟨rfl, rfl⟩
      · have c1 := HC.out k x hx
        have hk8 : k < 8 := by
          rw [← H8.out]
          rcases Nat.lt_or_ge k ns.length with h' | h'
          · exact h'
          · simp [List.getElem?_eq_none h'] at hx
        clear hx
        go_wp2_with fail
        refine (quantum_no x _ hbad).mono ?_
        rintro e w1 ⟨rfl, rfl⟩
        go_wp2_with fail
        go_ret
        exact ⟨rfl, rfl⟩
theorem checkQuanta_ok (a : Option Addr) (cap : Nat) (ns : List Int) (w : World) (hl : LiesN w a ns) (ho : NumsOk 1 3000 ns) :
    Calls Tryd.prog 68 #[.slice a ns.length cap, .func (.func 69) #[] #[]] w fun e w' => e = .returned .nilIface ∧ w' = w := by
  rw [ho.len]
  exact checkQuanta_to a cap ns w (fun _ => ⟨0, 0, none⟩) hl ho.len 8 (Nat.le_refl _) (fun i y _ hy => ho.each i y hy) _ (.inl ⟨rfl, rfl⟩)
theorem checkQuanta_bad (a : Option Addr) (cap : Nat) (ns : List Int) (w : World) (ad : Nat → Addr) (he : NumErrs w ad) (hl : LiesN w a ns) (c : Nat) (h : NumsFault 1 3000 ns c) (hc : 0 < c) :
    Calls Tryd.prog 68 #[.slice a ns.length cap, .func (.func 69) #[] #[]] w fun e w' => e = .returned (sentOf ad c) ∧ w' = w := by
  rcases h with ⟨rfl, h8⟩ | ⟨rfl, j, h8, ⟨x, hx, hbad⟩, hg⟩ | ⟨rfl, -⟩
  · exact checkNumbers_shape a ns.length cap _ w ad h8 he.2
  · rw [h8]
    exact checkQuanta_to a cap ns w ad hl h8 j (by have := lt_of_get hx; omega) hg _ (.inr ⟨rfl, he.1, x, hx, hbad⟩)
  · omega
end Go.Proofs.YtepnfioldbhffabDoor
