/- Own facts, put together: no statement of its own. -/
import Derived.Maps.OwnOps
import Derived.Maps.Views
import Derived.Maps.OwnSet
import Derived.Test.YtibhkijaafdkoaaGreatDoorQ01
import Derived.Test.YtibhkijaafdkoaaGreatDoorQ08
import Derived.Test.YtibhkijaafdkoaaGreatDoorQ19
import Derived.Test.YtibhkijaafdkoaaGreatDoorQ12
import Derived.Test.YtibhkijaafdkoaaGreatDoorQ20
import Derived.Test.YtibhkijaafdkoaaGreatDoorQ13
namespace Go.Proofs.YtibhkijaafdkoaaGreatDoor
open Go.Maps (Keyed)
open Go.WideElems (Fit)
def noFlow : Lit → Bool
 | .int .i64 x => !(decide (0 ≤ x) && decide (x < 8))
 | _ => true
def flowAt : Lit → Nat
 | .int _ x => x.toNat
 | _ => 0
theorem noFlow_of {y : Lit} (h : noFlow y = false) : ∃ x : Nat, x < 8 ∧ y = .int .i64 (x : Int) := by
 cases y with
 | int q x =>
  cases q <;> simp only [noFlow] at h <;> try cases h
  have h1 : 0 ≤ x ∧ x < 8 := by simpa using h
  exact ⟨x.toNat, by omega, by rw [Int.toNat_of_nonneg h1.1]⟩
 | _ => cases h
theorem noFlow_not {x : Nat} (h : x < 8) : noFlow (.int .i64 (x : Int)) = false := by simp [noFlow]; omega
theorem few_below : ∀ (n : Nat) (l : List Nat), l.Nodup → (∀ x, x ∈ l → x < n) → l.length ≤ n
 | 0, [], _, _ => Nat.le_refl _
 | 0, a :: l, _, h => absurd (h a (List.mem_cons_self ..)) (Nat.not_lt_zero _)
 | n + 1, l, hn, h => by
  by_cases hm : n ∈ l
  ·
   have := few_below n (l.erase n) (hn.erase n) (fun x hx => by
    have h1 := hn.mem_erase_iff.1 hx
    have := h x h1.2
    omega)
   rw [List.length_erase_of_mem hm] at this
   omega
  ·
   have := few_below n l hn (fun x hx => by
    have h1 := h x hx
    have : x ≠ n := fun e => hm (by rw [← e]; exact hx)
    omega)
   omega
theorem keys_few {H : Type} {es : List (Lit × DataW H)} (h1 : es.Pairwise fun p q => p.1 ≠ q.1) (h2 : es.any (fun p => noFlow p.1) = false) : es.length ≤ 8 := by
 have h3 : ∀ p, p ∈ es → ∃ x : Nat, x < 8 ∧ p.1 = .int .i64 (x : Int) := fun p hp => noFlow_of (by simpa using List.any_eq_false.1 h2 p hp)
 have hn : (es.map fun p => flowAt p.1).Nodup := by
  refine List.pairwise_map.2 (List.pairwise_iff_getElem.2 fun i j hi hj hij e => List.pairwise_iff_getElem.1 h1 i j hi hj hij ?_)
  obtain ⟨x, -, hx⟩ := h3 _ (List.getElem_mem hi)
  obtain ⟨y, -, hy⟩ := h3 _ (List.getElem_mem hj)
  rw [hx, hy] at e ⊢
  have : x = y := by simpa [flowAt] using e
  rw [this]
 have := few_below 8 _ hn (fun a ha => by
  obtain ⟨p, hp, rfl⟩ := List.mem_map.1 ha
  obtain ⟨x, hx, e⟩ := h3 p hp
  rw [e]
  simpa [flowAt] using hx)
 simpa using this
def Tells (P : Program) (k e : TypeId) (w : World) (b : Nat) (f : Nat → Int) : Prop :=
 ∃ es : List (Lit × DataW Unit), w.ownsMap P k (plainElem P e) b 8 (.map es) ∧ es.any (fun p => noFlow p.1) = false ∧ ∀ x : Nat, (DataW.map es).atKey (.int .i64 (x : Int)) (.lit (.int .i64 0)) = .lit (.int .i64 (f x))
section
variable {P : Program} {k e t : TypeId} {w w' : World} {b : Nat} {f : Nat → Int}
theorem tells_made (w : World) (P : Program) (k e : TypeId) : Tells P k e (w.alloc (.map #[] 0)) w.heap.size fun _ => 0 :=
 ⟨[], (World.ownsMap_made w P k _).mono (Nat.zero_le _), rfl, fun _ => rfl⟩
theorem Tells.lt (h : Tells P k e w b f) : b < w.heap.size := by
 obtain ⟨D, h1, -, -⟩ := h
 exact h1.lt
theorem Tells.but {S : Nat → Prop} (h : Tells P k e w b f) (hb : But S w w') (hs : ¬ S b) : Tells P k e w' b f := by
 have hlt := h.lt
 obtain ⟨D, ⟨es, clock, g1, g2, g3, g4⟩, h2, h3⟩ := h
 exact ⟨D, ⟨es, clock, (hb.block b hlt hs).trans g1, g2, g3, g4⟩, h2, h3⟩
theorem Tells.look (h : Tells P k e w b f) (K : Keyed P k) (ht : P.underlying t = some (.map k e)) (he : P.underlying e = some (.int .i64)) (hz : (zeroValue e).run P w = .ok (.int .i64 0) w) {x : Nat} (hkey : keyOf P k (.int .i64 (x : Int)) = some (.int .i64 (x : Int))) :
  (Instr.lookup t (.map (some b)) (.int .i64 (x : Int)) false).run P w = .ok (.int .i64 (f x)) w := by
 obtain ⟨es, h1, h2, h3⟩ := h
 obtain ⟨c, hrun, hat, -⟩ := h1.lookup_int K ht he hz hkey
 rw [h3 x] at hat
 injection hat with hat
 injection hat with _ hat
 rw [hrun, hat]
theorem Tells.store (h : Tells P k e w b f) (K : Keyed P k) (ht : P.underlying t = some (.map k e)) (he : P.underlying e = some (.int .i64)) {x : Nat} (hx8 : x < 8) (hkey : keyOf P k (.int .i64 (x : Int)) = some (.int .i64 (x : Int))) {v : Int} (hv : (Lit.int .i64 v).wf = true) :
  ∃ w', (Instr.mapUpdate t (.map (some b)) (.int .i64 (x : Int)) (.int .i64 v)).run P w = .ok () w' ∧ Tells P k e w' b (put1 f x v) ∧ w.grownBy w' (some b) := by
 obtain ⟨es, h1, h2, h3⟩ := h
 obtain ⟨w', hrun, g1, g2⟩ := h1.update K ht (by decide) hkey (plainElem_int he hv)
 have e1 : (DataW.map es).put (.int .i64 (x : Int)) (.lit (.int .i64 v)) = .map (DataW.insert (.int .i64 (x : Int), .lit (.int .i64 v)) (es.filter fun p => !p.1.sameKey (.int .i64 (x : Int)))) := rfl
 have hk : (DataW.insert (.int .i64 (x : Int), .lit (.int .i64 v)) (es.filter fun p => !p.1.sameKey (.int .i64 (x : Int)))).any (fun p => noFlow p.1) = false := by
  rw [Maps.any_insert, noFlow_not hx8, Bool.false_or]
  exact List.any_eq_false.2 fun p hp => List.any_eq_false.1 h2 p (List.mem_filter.1 hp).1
 have ht2 := g1.tidy K
 rw [e1] at g1 ht2
 refine ⟨w', hrun, ⟨_, ?_, hk, fun y => ?_⟩, g2⟩
 ·
  obtain ⟨es', he', hp⟩ := ht2
  injection he' with he'
  rw [← he'] at hp
  have hl := keys_few hp hk
  obtain ⟨ms, clock, k1, k2, k3, k4⟩ := g1
  refine ⟨ms, clock, k1, k2, ?_, k4⟩
  injection k4 with k4
  rw [k4, length_sorted] at hl
  simpa using hl
 ·
  rw [← e1]
  by_cases hy : y = x
  ·
   subst hy
   rw [put1_same]
   exact Maps.atKey_put_same (k := .int .i64 (y : Int)) ⟨es, rfl⟩ trivial _ _
  ·
   rw [put1_other _ _ hy, Maps.atKey_put_other (fun e => hy (by injection e with _ e; omega))]
   exact h3 y
theorem Tells.cleared (h : Tells P k e w b f) (ht : P.underlying t = some (.map k e)) (ty : TypeId) :
  ∃ w', (Builtin.clear_ #[t] ty #[.map (some b)]).run P w = .ok (.tuple #[]) w' ∧ Tells P k e w' b (fun _ => 0) ∧ w.grownBy w' (some b) := by
 obtain ⟨D, ⟨es, clock, g1, g2, g3, g4⟩, h2, h3⟩ := h
 refine ⟨ChangeMaps.setBlock w b (.map #[] clock), ?_, ⟨[], ⟨#[], clock, ChangeMaps.heap_setBlock_same g1 _, ⟨by simp, MapKept.stamped_empty _, by simp⟩, Nat.zero_le _, rfl⟩, rfl, fun _ => rfl⟩, ⟨rfl, rfl, rfl, by simp [ChangeMaps.setBlock], fun i _ hi => ChangeMaps.heap_setBlock_other g1 _ (fun e => hi (by rw [e]))⟩⟩
 simp [Builtin.clear_, run_underlying ht, MapKept.run_getObj_map g1, MapKept.run_setObj_map _ g1, Result.andThen, ChangeMaps.setBlock]
end
end Go.Proofs.YtibhkijaafdkoaaGreatDoor

namespace Go.Proofs.YtibhkijaafdkoaaGreatDoor
open Go.RowKit
structure NumsAt (w : World) (g n : Nat) (f : Nat → Int) : Prop where
 cell : ∀ i, i < n → w.cell? ⟨g, i, none⟩ = some (.int .i64 (f i))
 frozen : ∀ i, w.frozen? ⟨g, i, none⟩ = false
 lt : g < w.heap.size
section
variable {w w' : World} {g n : Nat} {f : Nat → Int}
theorem nums_made (w : World) (n : Nat) (t : TypeId) : NumsAt (w.alloc (.cells (madeCells #[.int .i64 0] n) t)) w.heap.size n (fun _ => 0) := by
 refine ⟨fun i hi => ?_, fun i => World.frozen?_alloc_new w _ _ i, by simp⟩
 rw [World.cell?_alloc_at _ _ _ _ rfl]
 exact made_get _ _ _ hi
theorem NumsAt.of_block (h : NumsAt w g n f) (hb : w'.heap[g]? = w.heap[g]?) (hs : w.heap.size ≤ w'.heap.size) : NumsAt w' g n f :=
 ⟨fun i hi => (World.cell?_of_block (a := ⟨g, i, none⟩) hb).trans (h.cell i hi), fun i => (World.frozen?_of_block (a := ⟨g, i, none⟩) hb).trans (h.frozen i), Nat.lt_of_lt_of_le h.lt hs⟩
theorem NumsAt.but {S : Nat → Prop} (h : NumsAt w g n f) (hb : But S w w') (hs : ¬ S g) : NumsAt w' g n f := h.of_block (hb.block g h.lt hs) hb.size
theorem NumsAt.put (h : NumsAt w g n f) {k : Nat} (hk : k < n) (x : Int) : NumsAt (w.setCell ⟨g, k, none⟩ (.int .i64 x)) g n (put1 f k x) := by
 refine ⟨fun i hi => ?_, fun i => by rw [World.frozen?_setCell]; exact h.frozen i, by simp [World.setCell]; exact h.lt⟩
 by_cases e : k = i
 ·
  subst e
  rw [World.cell?_setCell_same' _ _ _ (by rw [h.cell k hk]; rfl), put1_same]
 · rw [World.cell?_setCell_other _ _ _ _ (by intro e'; cases e'; exact e rfl), h.cell i hi, put1_other _ _ (fun e' => e e'.symm)]
end
structure FairCells (w : World) (g : Nat) (pv qv gv : Value) (gm : Nat) (cur : Int) (rv : Value) : Prop where
 c0 : w.cell? ⟨g, 0, none⟩ = some pv
 c1 : w.cell? ⟨g, 1, none⟩ = some qv
 c2 : w.cell? ⟨g, 2, none⟩ = some gv
 c3 : w.cell? ⟨g, 3, none⟩ = some (.map (some gm))
 c4 : w.cell? ⟨g, 4, none⟩ = some (.int .i64 cur)
 c5 : w.cell? ⟨g, 5, none⟩ = some rv
 free : ∀ i, w.frozen? ⟨g, i, none⟩ = false
section
variable {w w' : World} {g gm : Nat} {pv qv gv rv : Value} {cur : Int}
theorem FairCells.lt (h : FairCells w g pv qv gv gm cur rv) : g < w.heap.size := cell_lt h.c0
theorem FairCells.but {S : Nat → Prop} (h : FairCells w g pv qv gv gm cur rv) (hb : But S w w') (hs : ¬ S g) : FairCells w' g pv qv gv gm cur rv := by
 have e : ∀ i, w'.cell? ⟨g, i, none⟩ = w.cell? ⟨g, i, none⟩ := fun i => hb.cell (p := ⟨g, i, none⟩) h.lt hs
 exact ⟨by rw [e]; exact h.c0, by rw [e]; exact h.c1, by rw [e]; exact h.c2, by rw [e]; exact h.c3, by rw [e]; exact h.c4, by rw [e]; exact h.c5, fun i => by rw [hb.frozen (p := ⟨g, i, none⟩) h.lt hs]; exact h.free i⟩
theorem farF (w : World) (g i j : Nat) (v : Value) (h : i ≠ j) : (w.setCell ⟨g, i, none⟩ v).cell? ⟨g, j, none⟩ = w.cell? ⟨g, j, none⟩ :=
 World.cell?_setCell_other _ _ _ _ (fun e => h (by injection e))
theorem FairCells.setV (h : FairCells w g pv qv gv gm cur rv) (x : Int) : FairCells (w.setCell ⟨g, 4, none⟩ (.int .i64 x)) g pv qv gv gm x rv :=
 ⟨by rw [farF _ _ _ _ _ (by omega)]; exact h.c0, by rw [farF _ _ _ _ _ (by omega)]; exact h.c1, by rw [farF _ _ _ _ _ (by omega)]; exact h.c2, by rw [farF _ _ _ _ _ (by omega)]; exact h.c3, World.cell?_setCell_same _ _ _ h.c4, by rw [farF _ _ _ _ _ (by omega)]; exact h.c5, fun i => by rw [World.frozen?_setCell]; exact h.free i⟩
theorem FairCells.setR (h : FairCells w g pv qv gv gm cur rv) (v : Value) : FairCells (w.setCell ⟨g, 5, none⟩ v) g pv qv gv gm cur v :=
 ⟨by rw [farF _ _ _ _ _ (by omega)]; exact h.c0, by rw [farF _ _ _ _ _ (by omega)]; exact h.c1, by rw [farF _ _ _ _ _ (by omega)]; exact h.c2, by rw [farF _ _ _ _ _ (by omega)]; exact h.c3, by rw [farF _ _ _ _ _ (by omega)]; exact h.c4, World.cell?_setCell_same _ _ _ h.c5, fun i => by rw [World.frozen?_setCell]; exact h.free i⟩
end
def fairFoot (g gt gm : Nat) (rv : Value) (k : Nat) : Prop := k = g ∨ k = gt ∨ k = gm ∨ rv.ownBlock = some k
structure FairAt (B g gt gm n : Nat) (pv qv : Value) (w : World) (rv : Value) (q : FQ) : Prop where
 cells : FairCells w g pv qv (.slice (some ⟨gt, 0, none⟩) n n) gm q.v rv
 given : NumsAt w gt n q.tag
 tells : Tells Tryz.prog 3 3 w gm q.last
 row : w.ownsRow B 3 1 rv q.q.length (ints (asInts q.q))
 apart : gt ≠ g ∧ gm ≠ g ∧ gm ≠ gt
 rapart : rv.ownBlock ≠ some g ∧ rv.ownBlock ≠ some gt ∧ rv.ownBlock ≠ some gm
 le : B ≤ g ∧ B ≤ gt ∧ B ≤ gm
section
variable {B g gt gm n : Nat} {pv qv : Value} {w w' : World} {rv : Value} {q : FQ}
theorem FairAt.foot (h : FairAt B g gt gm n pv qv w rv q) : ∀ k, fairFoot g gt gm rv k → B ≤ k ∧ k < w.heap.size := by
 rintro k (rfl | rfl | rfl | hk)
 · exact ⟨h.le.1, h.cells.lt⟩
 · exact ⟨h.le.2.1, h.given.lt⟩
 · exact ⟨h.le.2.2, h.tells.lt⟩
 · exact ownsRow_lt h.row hk
theorem FairAt.but {S : Nat → Prop} (h : FairAt B g gt gm n pv qv w rv q) (hb : But S w w') (hs : ∀ k, fairFoot g gt gm rv k → ¬ S k) : FairAt B g gt gm n pv qv w' rv q :=
 ⟨h.cells.but hb (hs g (.inl rfl)), h.given.but hb (hs gt (.inr (.inl rfl))), h.tells.but hb (hs gm (.inr (.inr (.inl rfl)))), ownsRow_of_block h.row (fun k hv hk => hb.block k hk (hs k (.inr (.inr (.inr hv))))), h.apart, h.rapart, h.le⟩
theorem FairAt.later (h : FairAt B g gt gm n pv qv w rv q) (hb : Below w.heap.size w w') : FairAt B g gt gm n pv qv w' rv q := h.but (S := fun _ => False) (.ofBelow hb) (fun _ _ h => h)
theorem butF (w : World) (g i : Nat) (v : Value) : But (fun k => k = g) w (w.setCell ⟨g, i, none⟩ v) := But.setCell (S := fun k => k = g) (But.refl _ w) (p := ⟨g, i, none⟩) rfl v
theorem FairAt.setTag (h : FairAt B g gt gm n pv qv w rv q) {k : Nat} (hk : k < n) (x : Int) : FairAt B g gt gm n pv qv (w.setCell ⟨gt, k, none⟩ (.int .i64 x)) rv { q with tag := put1 q.tag k x } := by
 have hb := butF w gt k (.int .i64 x)
 exact ⟨h.cells.but hb (fun e => h.apart.1 e.symm), h.given.put hk x, h.tells.but hb h.apart.2.2, ownsRow_of_block h.row (fun k hv hk => hb.block k hk (fun e => h.rapart.2.1 (by rw [← e]; exact hv))), h.apart, h.rapart, h.le⟩
theorem FairAt.setLast (h : FairAt B g gt gm n pv qv w rv q) {l : Nat → Int} (hg : w.grownBy w' (some gm)) (ht : Tells Tryz.prog 3 3 w' gm l) : FairAt B g gt gm n pv qv w' rv { q with last := l } ∧ But (fun k => k = gm) w w' := by
 have hb : But (fun k => k = gm) w w' := ⟨hg.os, hg.tape, hg.output, hg.size, fun k hk hn => hg.block k hk (fun e => hn (Option.some.inj e))⟩
 exact ⟨⟨h.cells.but hb (fun e => h.apart.2.1 e.symm), h.given.but hb (fun e => h.apart.2.2 e.symm), ht, ownsRow_of_block h.row (fun k hv hk => hb.block k hk (fun e => h.rapart.2.2 (by rw [← e]; exact hv))), h.apart, h.rapart, h.le⟩, hb⟩
theorem FairAt.setV (h : FairAt B g gt gm n pv qv w rv q) (x : Int) : FairAt B g gt gm n pv qv (w.setCell ⟨g, 4, none⟩ (.int .i64 x)) rv { q with v := x } := by
 have hb := butF w g 4 (.int .i64 x)
 exact ⟨h.cells.setV x, h.given.but hb h.apart.1, h.tells.but hb h.apart.2.1, ownsRow_of_block h.row (fun k hv hk => hb.block k hk (fun e => h.rapart.1 (by rw [← e]; exact hv))), h.apart, h.rapart, h.le⟩
theorem FairAt.setR (h : FairAt B g gt gm n pv qv w rv q) {w2 : World} {v' : Value} {r' : List Nat} (hbut : But (fun k => rv.ownBlock = some k) w w2) (hown : w2.ownsRow B 3 1 v' r'.length (ints (asInts r'))) (hnew : ∀ k, v'.ownBlock = some k → rv.ownBlock = some k ∨ w.heap.size ≤ k) :
  FairAt B g gt gm n pv qv (w2.setCell ⟨g, 5, none⟩ v') v' { q with q := r' } := by
 have hne : ∀ j, j < w.heap.size → rv.ownBlock ≠ some j → v'.ownBlock ≠ some j := fun j hj hr e => by
  rcases hnew j e with h' | h'
  · exact hr h'
  · omega
 have hg := hne g h.cells.lt h.rapart.1
 have hb := butF w2 g 5 v'
 exact ⟨(h.cells.but hbut (fun e => h.rapart.1 e)).setR v', (h.given.but hbut (fun e => h.rapart.2.1 e)).but hb h.apart.1, (h.tells.but hbut (fun e => h.rapart.2.2 e)).but hb h.apart.2.1, ownsRow_of_block hown (fun k hv hk => hb.block k hk (fun e => hg (by rw [← e]; exact hv))), h.apart, ⟨hg, hne gt h.given.lt h.rapart.2.1, hne gm h.tells.lt h.rapart.2.2⟩, h.le⟩
end
structure HeldW (B : Nat) (W0 : World) (g gt gm n : Nat) (pv qv : Value) (w : World) (D : Nat → Prop) (q : FQ) : Prop where
 env : Below B W0 w
 parts : ∃ rv, FairAt B g gt gm n pv qv w rv q ∧ ∀ k, D k ↔ fairFoot g gt gm rv k
section
variable {B : Nat} {W0 : World} {g gt gm n : Nat} {pv qv : Value} {w w' : World} {D : Nat → Prop} {q : FQ}
theorem HeldW.foot (h : HeldW B W0 g gt gm n pv qv w D q) : ∀ k, D k → B ≤ k ∧ k < w.heap.size := by
 obtain ⟨rv, h1, h2⟩ := h.parts
 exact fun k hk => h1.foot k ((h2 k).1 hk)
theorem HeldW.le (h : HeldW B W0 g gt gm n pv qv w D q) : B ≤ w.heap.size := by
 obtain ⟨rv, h1, h2⟩ := h.parts
 have := h1.cells.lt
 have := h1.le.1
 omega
theorem HeldW.but {S : Nat → Prop} (h : HeldW B W0 g gt gm n pv qv w D q) (hb : But S w w') (hs : ∀ k, D k → ¬ S k) (hB : ∀ k, S k → B ≤ k) : HeldW B W0 g gt gm n pv qv w' D q := by
 obtain ⟨rv, h1, h2⟩ := h.parts
 exact ⟨h.env.trans (hb.below h.le hB), rv, h1.but hb (fun k hk => hs k ((h2 k).2 hk)), h2⟩
theorem HeldW.later (h : HeldW B W0 g gt gm n pv qv w D q) (hb : Below w.heap.size w w') : HeldW B W0 g gt gm n pv qv w' D q := h.but (S := fun _ => False) (.ofBelow hb) (fun _ _ h => h) (fun _ h => h.elim)
theorem HeldW.alloc (h : HeldW B W0 g gt gm n pv qv w D q) (o : Obj) : HeldW B W0 g gt gm n pv qv (w.alloc o) D q := h.later ((Below.refl _ _).alloc (Nat.le_refl _) _)
theorem fairMem (B : Nat) (W0 : World) (g gt gm n : Nat) (pv qv : Value) : QueMem (HeldW B W0 g gt gm n pv qv) B := ⟨fun _ _ _ h => h.foot, fun _ _ _ _ _ h hb hs hB => h.but hb hs hB⟩
theorem HeldW.leaves {rv rv' : Value} {q' : FQ} (h : HeldW B W0 g gt gm n pv qv w D q) (hD : ∀ k, D k ↔ fairFoot g gt gm rv k) (hbut : But D w w') (hat : FairAt B g gt gm n pv qv w' rv' q') (hnew : ∀ k, rv'.ownBlock = some k → rv.ownBlock = some k ∨ w.heap.size ≤ k) : QueLeft (HeldW B W0 g gt gm n pv qv) w w' D q' :=
 ⟨fairFoot g gt gm rv', ⟨h.env.trans (hbut.below h.le fun k hk => (h.foot k hk).1), rv', hat, fun _ => Iff.rfl⟩, hbut, fun k hk => by
  rcases hk with hk | hk | hk | hk
  · exact .inl ((hD k).2 (.inl hk))
  · exact .inl ((hD k).2 (.inr (.inl hk)))
  · exact .inl ((hD k).2 (.inr (.inr (.inl hk))))
  ·
   rcases hnew k hk with h' | h'
   · exact .inl ((hD k).2 (.inr (.inr (.inr h'))))
   · exact .inr h'⟩
end
end Go.Proofs.YtibhkijaafdkoaaGreatDoor

namespace Go.Proofs.YtibhkijaafdkoaaGreatDoor
open Go.RowKit
theorem Tryz.keyed : Go.Maps.Keyed Tryz.prog 3 := Go.Maps.int_keyed Tryz.underlying3
theorem Tryz.zeroInt (w : World) : (zeroValue 3).run Tryz.prog w = .ok (.int .i64 0) w := by kernel_rfl
theorem Tryz.underMap : Tryz.prog.underlying 230 = some (.map 3 3) := by kernel_rfl
section
variable {B : Nat} {W0 : World} {g gt gm n : Nat} {pv qv : Value} {w : World} {D : Nat → Prop} {q : FQ}
set_option maxHeartbeats 1000000 in
theorem fairRest_some (h : HeldW B W0 g gt gm n pv qv w D q) (h0 : 0 < q.q.length) :
  Calls Tryz.prog 164 #[.pointer (some ⟨g, 0, none⟩)] w fun e w' => e = .returned (.int .i64 (q.q.length : Int)) ∧ w' = w := by
 obtain ⟨rv, hA, hD⟩ := h.parts
 have hr := hA.row
 rw [← asInts_length] at hr
 obtain ⟨ao, cap, rfl, hlc, hcm⟩ := own_open hr
 rw [asInts_length] at hlc hA
 have c5 := hA.cells.c5
 obtain ⟨l, hl⟩ : ∃ l, q.q.length = l := ⟨_, rfl⟩
 rw [hl] at c5 hlc h0 ⊢
 have h1 : ((l : Int) == 0) = false := by simpa using (show l ≠ 0 by omega)
 have h2 : (l : Int) ≠ 0 := by omega
 unfold maxLen at hcm
 clear hA hr hD h hl
 go_enter Tryz.func164, Tryz.ntmps164
 go_wp2
 go_ret
 exact ⟨rfl, rfl⟩
set_option maxRecDepth 100000 in
set_option maxHeartbeats 1000000 in
theorem fairRest_none (h : HeldW B W0 g gt gm n pv qv w D q) (h0 : q.q.length = 0) :
  Calls Tryz.prog 164 #[.pointer (some ⟨g, 0, none⟩)] w fun e w' => e = .returned (.int .i64 0) ∧ QueLeft (HeldW B W0 g gt gm n pv qv) w w' D q.rests := by
 have HH : Hid (HeldW B W0 g gt gm n pv qv w D q) := h
 obtain ⟨rv, hA, hD⟩ := h.parts
 have hr := hA.row
 rw [← asInts_length] at hr
 obtain ⟨ao, cap, rfl, hlc, hcm⟩ := own_open hr
 rw [asInts_length] at hlc hA hD
 rw [h0] at hlc hA hD
 have c5 := hA.cells.c5
 have c4 := hA.cells.c4
 have f4 := hA.cells.free 4
 have hV := hA.setV 0
 have d3 := hV.cells.c3
 have d5 := hV.cells.c5
 have HV : Hid (FairAt B g gt gm n pv qv (w.setCell ⟨g, 4, none⟩ (.int .i64 0)) (.slice ao 0 cap) { q with v := 0 } ∧ (∀ k, D k ↔ fairFoot g gt gm (.slice ao 0 cap) k) ∧ But (fun k => k = g) w (w.setCell ⟨g, 4, none⟩ (.int .i64 0))) := ⟨hV, hD, butF _ _ _ _⟩
 obtain ⟨w1, hclr, ht, hg⟩ := hV.tells.cleared Tryz.underMap 0
 have HF0 := hV.setLast hg ht
 have e5 := HF0.1.cells.c5
 have HF : Hid (FairAt B g gt gm n pv qv w1 (.slice ao 0 cap) { q with v := 0, last := fun _ => 0 } ∧ But (fun k => k = gm) (w.setCell ⟨g, 4, none⟩ (.int .i64 0)) w1) := HF0
 unfold maxLen at hcm
 clear hA hr hD h hV ht hg HF0
 go_enter Tryz.func164, Tryz.ntmps164
 go_wp2
 go_ret
 refine ⟨rfl, HH.out.leaves (q' := q.rests) HV.out.2.1 ((HV.out.2.2.mono fun k hk => (HV.out.2.1 k).2 (.inl hk)).trans (HF.out.2.mono fun k hk => (HV.out.2.1 k).2 (.inr (.inr (.inl hk))))) HF.out.1 (fun k hk => .inl hk)⟩
end
end Go.Proofs.YtibhkijaafdkoaaGreatDoor
