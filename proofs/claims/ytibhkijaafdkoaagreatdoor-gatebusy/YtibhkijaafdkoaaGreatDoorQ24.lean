/- Own facts, put together: no statement of its own. -/
import Derived.Test.YtibhkijaafdkoaaGreatDoorQ19
import Derived.Test.YtibhkijaafdkoaaGreatDoorQ21
import Derived.Test.YtibhkijaafdkoaaGreatDoorQ10
namespace Go.Proofs.YtibhkijaafdkoaaGreatDoor
open Go.RowKit
def srvInt : Option Nat → Int
 | some f => f
 | none => -1
structure TurnCells (w : World) (g : Nat) (pv qv : Value) (vq : Nat → Value) (cr : Nat → Int) (rv : Value) (sv : Int) (n : Nat) : Prop where
 c0 : w.cell? ⟨g, 0, none⟩ = some pv
 c1 : w.cell? ⟨g, 1, none⟩ = some qv
 cq : ∀ f, f < 8 → w.cell? ⟨g, 2 + f, none⟩ = some (vq f)
 cc : ∀ f, f < 8 → w.cell? ⟨g, 10 + f, none⟩ = some (.int .i64 (cr f))
 cr_ : w.cell? ⟨g, 18, none⟩ = some rv
 cs : w.cell? ⟨g, 19, none⟩ = some (.int .i64 sv)
 cn : w.cell? ⟨g, 20, none⟩ = some (.int .i64 (n : Int))
 free : ∀ i, w.frozen? ⟨g, i, none⟩ = false
section
variable {w w' : World} {g : Nat} {pv qv : Value} {vq : Nat → Value} {cr : Nat → Int} {rv : Value} {sv : Int} {n : Nat}
theorem TurnCells.lt (h : TurnCells w g pv qv vq cr rv sv n) : g < w.heap.size := cell_lt h.c0
theorem TurnCells.but {S : Nat → Prop} (h : TurnCells w g pv qv vq cr rv sv n) (hb : But S w w') (hs : ¬ S g) : TurnCells w' g pv qv vq cr rv sv n := by
 have e : ∀ i, w'.cell? ⟨g, i, none⟩ = w.cell? ⟨g, i, none⟩ := fun i => hb.cell (p := ⟨g, i, none⟩) h.lt hs
 exact ⟨by rw [e]; exact h.c0, by rw [e]; exact h.c1, fun f hf => by rw [e]; exact h.cq f hf, fun f hf => by rw [e]; exact h.cc f hf, by rw [e]; exact h.cr_, by rw [e]; exact h.cs, by rw [e]; exact h.cn, fun i => by rw [hb.frozen (p := ⟨g, i, none⟩) h.lt hs]; exact h.free i⟩
theorem far (w : World) (g i j : Nat) (v : Value) (h : i ≠ j) : (w.setCell ⟨g, i, none⟩ v).cell? ⟨g, j, none⟩ = w.cell? ⟨g, j, none⟩ :=
 World.cell?_setCell_other _ _ _ _ (fun e => h (by injection e))
theorem TurnCells.setQ (h : TurnCells w g pv qv vq cr rv sv n) {f : Nat} (hf : f < 8) (v : Value) : TurnCells (w.setCell ⟨g, 2 + f, none⟩ v) g pv qv (put1 vq f v) cr rv sv n := by
 refine ⟨by rw [far _ _ _ _ _ (by omega)]; exact h.c0, by rw [far _ _ _ _ _ (by omega)]; exact h.c1, fun j hj => ?_, fun j hj => by rw [far _ _ _ _ _ (by omega)]; exact h.cc j hj, by rw [far _ _ _ _ _ (by omega)]; exact h.cr_, by rw [far _ _ _ _ _ (by omega)]; exact h.cs, by rw [far _ _ _ _ _ (by omega)]; exact h.cn, fun i => by rw [World.frozen?_setCell]; exact h.free i⟩
 by_cases e : j = f
 ·
  subst e
  rw [put1_same]
  exact World.cell?_setCell_same _ _ _ (h.cq j hj)
 ·
  rw [put1_other _ _ e, far _ _ _ _ _ (by omega)]
  exact h.cq j hj
theorem TurnCells.setC (h : TurnCells w g pv qv vq cr rv sv n) {f : Nat} (hf : f < 8) (x : Int) : TurnCells (w.setCell ⟨g, 10 + f, none⟩ (.int .i64 x)) g pv qv vq (put1 cr f x) rv sv n := by
 refine ⟨by rw [far _ _ _ _ _ (by omega)]; exact h.c0, by rw [far _ _ _ _ _ (by omega)]; exact h.c1, fun j hj => by rw [far _ _ _ _ _ (by omega)]; exact h.cq j hj, fun j hj => ?_, by rw [far _ _ _ _ _ (by omega)]; exact h.cr_, by rw [far _ _ _ _ _ (by omega)]; exact h.cs, by rw [far _ _ _ _ _ (by omega)]; exact h.cn, fun i => by rw [World.frozen?_setCell]; exact h.free i⟩
 by_cases e : j = f
 ·
  subst e
  rw [put1_same]
  exact World.cell?_setCell_same _ _ _ (h.cc j hj)
 ·
  rw [put1_other _ _ e, far _ _ _ _ _ (by omega)]
  exact h.cc j hj
theorem TurnCells.setR (h : TurnCells w g pv qv vq cr rv sv n) (v : Value) : TurnCells (w.setCell ⟨g, 18, none⟩ v) g pv qv vq cr v sv n :=
 ⟨by rw [far _ _ _ _ _ (by omega)]; exact h.c0, by rw [far _ _ _ _ _ (by omega)]; exact h.c1, fun j hj => by rw [far _ _ _ _ _ (by omega)]; exact h.cq j hj, fun j hj => by rw [far _ _ _ _ _ (by omega)]; exact h.cc j hj, World.cell?_setCell_same _ _ _ h.cr_, by rw [far _ _ _ _ _ (by omega)]; exact h.cs, by rw [far _ _ _ _ _ (by omega)]; exact h.cn, fun i => by rw [World.frozen?_setCell]; exact h.free i⟩
theorem TurnCells.setS (h : TurnCells w g pv qv vq cr rv sv n) (x : Int) : TurnCells (w.setCell ⟨g, 19, none⟩ (.int .i64 x)) g pv qv vq cr rv x n :=
 ⟨by rw [far _ _ _ _ _ (by omega)]; exact h.c0, by rw [far _ _ _ _ _ (by omega)]; exact h.c1, fun j hj => by rw [far _ _ _ _ _ (by omega)]; exact h.cq j hj, fun j hj => by rw [far _ _ _ _ _ (by omega)]; exact h.cc j hj, by rw [far _ _ _ _ _ (by omega)]; exact h.cr_, World.cell?_setCell_same _ _ _ h.cs, by rw [far _ _ _ _ _ (by omega)]; exact h.cn, fun i => by rw [World.frozen?_setCell]; exact h.free i⟩
theorem TurnCells.setN (h : TurnCells w g pv qv vq cr rv sv n) (x : Nat) : TurnCells (w.setCell ⟨g, 20, none⟩ (.int .i64 (x : Int))) g pv qv vq cr rv sv x :=
 ⟨by rw [far _ _ _ _ _ (by omega)]; exact h.c0, by rw [far _ _ _ _ _ (by omega)]; exact h.c1, fun j hj => by rw [far _ _ _ _ _ (by omega)]; exact h.cq j hj, fun j hj => by rw [far _ _ _ _ _ (by omega)]; exact h.cc j hj, by rw [far _ _ _ _ _ (by omega)]; exact h.cr_, by rw [far _ _ _ _ _ (by omega)]; exact h.cs, World.cell?_setCell_same _ _ _ h.cn, fun i => by rw [World.frozen?_setCell]; exact h.free i⟩
end
def turnFoot (g : Nat) (F : Nat → Nat → Prop) (rv : Value) (k : Nat) : Prop := k = g ∨ (∃ f, f < 8 ∧ F f k) ∨ rv.ownBlock = some k
structure TurnsAt (B g : Nat) (pv qv : Value) (w : World) (vq : Nat → Value) (F : Nat → Nat → Prop) (rv : Value) (d : Drr) (n : Nat) : Prop where
 cells : TurnCells w g pv qv vq d.cr rv (srvInt d.srv) n
 queue : ∀ f, f < 8 → Slides w B (vq f) (F f) (d.qs f)
 row : w.ownsRow B 3 1 rv d.row.length (ints (asInts d.row))
 apart : ∀ f, f < 8 → ¬ F f g ∧ (∀ k, F f k → rv.ownBlock ≠ some k) ∧ ∀ f' k, f' < 8 → F f k → F f' k → f = f'
 rowg : rv.ownBlock ≠ some g
 le : B ≤ g
section
variable {B g : Nat} {pv qv : Value} {w w' : World} {vq : Nat → Value} {F : Nat → Nat → Prop} {rv : Value} {d : Drr} {n : Nat}
theorem TurnsAt.foot (h : TurnsAt B g pv qv w vq F rv d n) : ∀ k, turnFoot g F rv k → B ≤ k ∧ k < w.heap.size := by
 rintro k (rfl | ⟨f, hf, hk⟩ | hk)
 · exact ⟨h.le, h.cells.lt⟩
 · exact (h.queue f hf).foot k hk
 · exact ownsRow_lt h.row hk
theorem TurnsAt.but {S : Nat → Prop} (h : TurnsAt B g pv qv w vq F rv d n) (hb : But S w w') (hs : ∀ k, turnFoot g F rv k → ¬ S k) : TurnsAt B g pv qv w' vq F rv d n :=
 ⟨h.cells.but hb (hs g (.inl rfl)), fun f hf => (h.queue f hf).but hb (fun k hk => hs k (.inr (.inl ⟨f, hf, hk⟩))), ownsRow_of_block h.row (fun k hv hk => hb.block k hk (hs k (.inr (.inr hv)))), h.apart, h.rowg, h.le⟩
theorem TurnsAt.later (h : TurnsAt B g pv qv w vq F rv d n) (hb : Below w.heap.size w w') : TurnsAt B g pv qv w' vq F rv d n := h.but (S := fun _ => False) (.ofBelow hb) (fun _ _ h => h)
theorem butG (w : World) (g i : Nat) (v : Value) : But (fun k => k = g) w (w.setCell ⟨g, i, none⟩ v) := But.setCell (S := fun k => k = g) (But.refl _ w) (p := ⟨g, i, none⟩) rfl v
theorem TurnsAt.apartG (h : TurnsAt B g pv qv w vq F rv d n) (i : Nat) (v : Value) : (∀ f, f < 8 → Slides (w.setCell ⟨g, i, none⟩ v) B (vq f) (F f) (d.qs f)) ∧ (w.setCell ⟨g, i, none⟩ v).ownsRow B 3 1 rv d.row.length (ints (asInts d.row)) :=
 ⟨fun f hf => (h.queue f hf).but (butG w g i v) (fun k hk e => (h.apart f hf).1 (by rw [← e]; exact hk)), ownsRow_of_block h.row (fun k hv hk => (butG w g i v).block k hk (fun e => h.rowg (by rw [← e]; exact hv)))⟩
theorem TurnsAt.setC (h : TurnsAt B g pv qv w vq F rv d n) {f : Nat} (hf : f < 8) (x : Int) : TurnsAt B g pv qv (w.setCell ⟨g, 10 + f, none⟩ (.int .i64 x)) vq F rv { d with cr := put1 d.cr f x } n :=
 ⟨h.cells.setC hf x, (h.apartG _ _).1, (h.apartG _ _).2, h.apart, h.rowg, h.le⟩
theorem TurnsAt.setS (h : TurnsAt B g pv qv w vq F rv d n) {x : Int} (s : Option Nat) (hs : srvInt s = x) : TurnsAt B g pv qv (w.setCell ⟨g, 19, none⟩ (.int .i64 x)) vq F rv { d with srv := s } n :=
 ⟨by rw [← hs]; exact h.cells.setS _, (h.apartG _ _).1, (h.apartG _ _).2, h.apart, h.rowg, h.le⟩
theorem TurnsAt.setN (h : TurnsAt B g pv qv w vq F rv d n) {x : Int} (m : Nat) (hx : (m : Int) = x) : TurnsAt B g pv qv (w.setCell ⟨g, 20, none⟩ (.int .i64 x)) vq F rv d m :=
 ⟨by rw [← hx]; exact h.cells.setN m, (h.apartG _ _).1, (h.apartG _ _).2, h.apart, h.rowg, h.le⟩
theorem TurnsAt.setR (h : TurnsAt B g pv qv w vq F rv d n) {w2 : World} {v' : Value} {r' : List Nat} (hbut : But (fun k => rv.ownBlock = some k) w w2) (hown : w2.ownsRow B 3 1 v' r'.length (ints (asInts r'))) (hnew : ∀ k, v'.ownBlock = some k → rv.ownBlock = some k ∨ w.heap.size ≤ k) :
  TurnsAt B g pv qv (w2.setCell ⟨g, 18, none⟩ v') vq F v' { d with row := r' } n := by
 have hg : v'.ownBlock ≠ some g := fun e => by
  rcases hnew g e with h' | h'
  · exact h.rowg h'
  · have := h.cells.lt; omega
 refine ⟨(h.cells.but hbut (fun e => h.rowg e)).setR v', fun f hf => ?_, ?_, fun f hf => ⟨(h.apart f hf).1, fun k hk e => ?_, (h.apart f hf).2.2⟩, hg, h.le⟩
 · exact ((h.queue f hf).but hbut (fun k hk e => (h.apart f hf).2.1 k hk e)).but (butG w2 g 18 v') (fun k hk e => (h.apart f hf).1 (by rw [← e]; exact hk))
 · exact ownsRow_of_block hown (fun k hv hk => (butG w2 g 18 v').block k hk (fun e => hg (by rw [← e]; exact hv)))
 ·
  rcases hnew k e with h' | h'
  · exact (h.apart f hf).2.1 k hk h'
  · have := ((h.queue f hf).foot k hk).2; omega
theorem TurnsAt.setQ (h : TurnsAt B g pv qv w vq F rv d n) {f : Nat} (hf : f < 8) {w2 : World} {v' : Value} {F' : Nat → Prop} {q' : List Nat} (hbut : But (F f) w w2) (hsl : Slides w2 B v' F' q') (hnew : ∀ k, F' k → F f k ∨ w.heap.size ≤ k) :
  TurnsAt B g pv qv (w2.setCell ⟨g, 2 + f, none⟩ v') (put1 vq f v') (put1 F f F') rv { d with qs := put1 d.qs f q' } n := by
 have hFg : ¬ F' g := fun e => by
  rcases hnew g e with h' | h'
  · exact (h.apart f hf).1 h'
  · have := h.cells.lt; omega
 have hG := butG w2 g (2 + f) v'
 refine ⟨(h.cells.but hbut (h.apart f hf).1).setQ hf v', fun j hj => ?_, ?_, fun j hj => ?_, h.rowg, h.le⟩
 ·
  by_cases e : j = f
  ·
   subst e
   show Slides _ B (put1 vq j v' j) (put1 F j F' j) (put1 d.qs j q' j)
   rw [put1_same, put1_same, put1_same]
   exact hsl.but hG (fun k hk e => hFg (by rw [← e]; exact hk))
  ·
   show Slides _ B (put1 vq f v' j) (put1 F f F' j) (put1 d.qs f q' j)
   rw [put1_other _ _ e, put1_other _ _ e, put1_other _ _ e]
   exact ((h.queue j hj).but hbut (fun k hk hk' => e ((h.apart j hj).2.2 f k hf hk hk'))).but hG (fun k hk e' => (h.apart j hj).1 (by rw [← e']; exact hk))
 · refine ownsRow_of_block (ownsRow_of_block h.row (fun k hv hk => hbut.block k hk (fun hF => (h.apart f hf).2.1 k hF hv))) (fun k hv hk => hG.block k hk (fun e => h.rowg (by rw [← e]; exact hv)))
 ·
  have key : ∀ i, i < 8 → ∀ k, put1 F f F' i k → (i = f ∧ F' k) ∨ (i ≠ f ∧ F i k) := fun i _ k hk => by
   by_cases e : i = f
   · subst e; rw [put1_same] at hk; exact .inl ⟨rfl, hk⟩
   · rw [put1_other _ _ e] at hk; exact .inr ⟨e, hk⟩
  have hold : ∀ k, F' k → ∀ i, i < 8 → i ≠ f → F i k → False := fun k hk i hi hne hik => by
   rcases hnew k hk with h' | h'
   · exact hne ((h.apart i hi).2.2 f k hf hik h')
   · have := ((h.queue i hi).foot k hik).2; omega
  refine ⟨fun hk => ?_, fun k hk e => ?_, fun j' k hj' hk hk' => ?_⟩
  ·
   rcases key j hj g hk with ⟨-, hk⟩ | ⟨-, hk⟩
   · exact hFg hk
   · exact (h.apart j hj).1 hk
  ·
   rcases key j hj k hk with ⟨-, hk⟩ | ⟨-, hk⟩
   ·
    rcases hnew k hk with h' | h'
    · exact (h.apart f hf).2.1 k h' e
    · have := (ownsRow_lt h.row e).2; omega
   · exact (h.apart j hj).2.1 k hk e
  ·
   rcases key j hj k hk with ⟨e1, hk⟩ | ⟨e1, hk⟩
   ·
    rcases key j' hj' k hk' with ⟨e2, hk'⟩ | ⟨e2, hk'⟩
    · rw [e1, e2]
    · exact (hold k hk j' hj' e2 hk').elim
   ·
    rcases key j' hj' k hk' with ⟨e2, hk'⟩ | ⟨e2, hk'⟩
    · exact (hold k hk' j hj e1 hk).elim
    · exact (h.apart j hj).2.2 j' k hj' hk hk'
end
structure HeldT (B : Nat) (W0 : World) (g : Nat) (pv qv : Value) (w : World) (D : Nat → Prop) (q : TQ) : Prop where
 env : Below B W0 w
 parts : ∃ vq F rv, TurnsAt B g pv qv w vq F rv q.d q.n ∧ ∀ k, D k ↔ turnFoot g F rv k
section
variable {B : Nat} {W0 : World} {g : Nat} {pv qv : Value} {w w' : World} {D : Nat → Prop} {q : TQ}
theorem HeldT.foot (h : HeldT B W0 g pv qv w D q) : ∀ k, D k → B ≤ k ∧ k < w.heap.size := by
 obtain ⟨vq, F, rv, h1, h2⟩ := h.parts
 exact fun k hk => h1.foot k ((h2 k).1 hk)
theorem HeldT.le (h : HeldT B W0 g pv qv w D q) : B ≤ w.heap.size := by
 obtain ⟨vq, F, rv, h1, h2⟩ := h.parts
 have := h1.cells.lt
 have := h1.le
 omega
theorem HeldT.but {S : Nat → Prop} (h : HeldT B W0 g pv qv w D q) (hb : But S w w') (hs : ∀ k, D k → ¬ S k) (hB : ∀ k, S k → B ≤ k) : HeldT B W0 g pv qv w' D q := by
 obtain ⟨vq, F, rv, h1, h2⟩ := h.parts
 exact ⟨h.env.trans (hb.below h.le hB), vq, F, rv, h1.but hb (fun k hk => hs k ((h2 k).2 hk)), h2⟩
theorem HeldT.later (h : HeldT B W0 g pv qv w D q) (hb : Below w.heap.size w w') : HeldT B W0 g pv qv w' D q := h.but (S := fun _ => False) (.ofBelow hb) (fun _ _ h => h) (fun _ h => h.elim)
theorem HeldT.alloc (h : HeldT B W0 g pv qv w D q) (o : Obj) : HeldT B W0 g pv qv (w.alloc o) D q := h.later ((Below.refl _ _).alloc (Nat.le_refl _) _)
theorem turnsMem (B : Nat) (W0 : World) (g : Nat) (pv qv : Value) : QueMem (HeldT B W0 g pv qv) B := ⟨fun _ _ _ h => h.foot, fun _ _ _ _ _ h hb hs hB => h.but hb hs hB⟩
theorem HeldT.same (h : HeldT B W0 g pv qv w D q) (hb : Below w.heap.size w w') : QueLeft (HeldT B W0 g pv qv) w w' D q := ⟨D, h.later hb, .ofBelow hb, fun _ hk => .inl hk⟩
theorem HeldT.leaves {vq' : Nat → Value} {F F' : Nat → Nat → Prop} {rv rv' : Value} {q' : TQ} (h : HeldT B W0 g pv qv w D q) (hD : ∀ k, D k ↔ turnFoot g F rv k) (hbut : But D w w') (hat : TurnsAt B g pv qv w' vq' F' rv' q'.d q'.n) (hnew : ∀ k, turnFoot g F' rv' k → turnFoot g F rv k ∨ w.heap.size ≤ k) : QueLeft (HeldT B W0 g pv qv) w w' D q' :=
 ⟨turnFoot g F' rv', ⟨h.env.trans (hbut.below h.le fun k hk => (h.foot k hk).1), vq', F', rv', hat, fun _ => Iff.rfl⟩, hbut, fun k hk => by
  rcases hnew k hk with h' | h'
  · exact .inl ((hD k).2 h')
  · exact .inr h'⟩
end
end Go.Proofs.YtibhkijaafdkoaaGreatDoor

namespace Go.Proofs.YtibhkijaafdkoaaGreatDoor
open Go.RowKit
set_option maxHeartbeats 1000000 in
theorem turnsRest (B : Nat) (W0 : World) (g : Nat) (pv qv : Value) (D : Nat → Prop) (q : TQ) (w : World) (h : HeldT B W0 g pv qv w D q) :
  Calls Tryz.prog 102 #[.pointer (some ⟨g, 0, none⟩)] w fun e w' => e = .returned (.int .i64 (q.n : Int)) ∧ w' = w := by
 obtain ⟨vq, F, rv, h1, h2⟩ := h.parts
 have c20 := h1.cells.cn
 clear h1 h2 h
 go_enter Tryz.func102, Tryz.ntmps102
 go_wp2
 go_ret
 exact ⟨rfl, rfl⟩
set_option maxRecDepth 100000 in
set_option maxHeartbeats 2000000 in
theorem turnsCan (B g : Nat) (pa : Option Addr) (pcap : Nat) (qv : Value) (ps : List Pk) (vq : Nat → Value) (F : Nat → Nat → Prop) (rv : Value) (d : Drr) (n : Nat) (w : World) (h : TurnsAt B g (.slice pa ps.length pcap) qv w vq F rv d n) (hl : LiesP w pa ps) (hlen : ps.length ≤ 300) (f k : Nat) (r : List Nat) (p : Pk) (hs : d.srv = some f) (hf : f < 8) (hk : d.qs f = k :: r) (hp : ps[k]? = some p) (b : Bool) (hb : decide (p.size ≤ d.cr f) = b) :
  Calls Tryz.prog 139 #[.pointer (some ⟨g, 0, none⟩)] w fun e w' => e = .returned (.bool b) ∧ ∃ m, w' = w.drewN m := by
 have hkl := lt_of_get hp
 obtain ⟨pb, off, rfl, hlt, hc⟩ := hl.place (by omega)
 have cp := (hc k p hp).2.1
 have hsl := h.queue f hf
 rw [hk] at hsl
 obtain ⟨qb, qo, cap, hv, hcap, hmx, ck, -, -, -⟩ := hsl.first
 have c0 := h.cells.c0
 have cs := h.cells.cs
 have cq := h.cells.cq f hf
 have cc := h.cells.cc f hf
 rw [hv] at cq
 rw [hs] at cs
 have cs' : w.cell? ⟨g, 19, none⟩ = some (.int .i64 (f : Int)) := cs
 obtain ⟨x, hx⟩ : ∃ x, d.cr f = x := ⟨_, rfl⟩
 obtain ⟨y, hy⟩ : ∃ y, p.size = y := ⟨_, rfl⟩
 rw [hx] at cc hb
 rw [hy] at cp hb
 obtain ⟨m, hm⟩ : ∃ m, r.length + 1 = m := ⟨_, rfl⟩
 rw [hm] at cq hcap
 have hm0 : 0 < m := by omega
 have hml : m ≤ maxLen := Nat.le_trans hcap hmx
 unfold maxLen at hmx hml
 have hmm : decide ((m : Int) ≤ 0) = false := by simp; omega
 clear h hl hc hsl hv hs cs hk hp hx hy hm
 go_enter Tryz.func139, Tryz.ntmps139
 go_wp2_with fail
 go_quiet (fail)
 obtain ⟨V, hV⟩ : ∃ V, w.drewN nq = V := ⟨_, rfl⟩
 have HV : Hid (w.drewN nq = V) := hV
 have d0 : V.cell? ⟨g, 0, none⟩ = some (.slice (some ⟨pb, off, none⟩) ps.length pcap) := by rw [← hV]; exact c0
 have ds : V.cell? ⟨g, 19, none⟩ = some (.int .i64 (f : Int)) := by rw [← hV]; exact cs'
 have dc : V.cell? ⟨g, 10 + f, none⟩ = some (.int .i64 x) := by rw [← hV]; exact cc
 have dp : V.cell? ⟨pb, off + k * 3 + 1, none⟩ = some (.int .i64 y) := by rw [← hV]; exact cp
 rw [hV]
 clear hV c0 cs' cc cp cq ck
 go_wp2_with fail
 go_quiet (fail)
 go_wp2_with fail
 go_ret
 exact ⟨rfl, _, by rw [← HV.out, World.drewN_drewN]⟩
end Go.Proofs.YtibhkijaafdkoaaGreatDoor
