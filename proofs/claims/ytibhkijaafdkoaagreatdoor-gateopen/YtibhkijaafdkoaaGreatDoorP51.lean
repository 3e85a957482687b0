/- Own facts, put together: no statement of its own. -/
import Derived.Test.YtibhkijaafdkoaaGreatDoorP40
import Derived.Test.YtibhkijaafdkoaaGreatDoorP21
import Derived.Test.YtibhkijaafdkoaaGreatDoorP09
import Derived.Deep.AppendLies
import Derived.Deep.LoopGhost
import Derived.Test.YtibhkijaafdkoaaGreatDoorP20
import Derived.Test.YtibhkijaafdkoaaGreatDoorP18
import Derived.Test.YtibhkijaafdkoaaGreatDoorP24
import Derived.Test.YtibhkijaafdkoaaGreatDoorP29
import Derived.Test.YtibhkijaafdkoaaGreatDoorP48
import Derived.Test.YtibhkijaafdkoaaGreatDoorP14
import Derived.Test.YtibhkijaafdkoaaGreatDoorP36
import Derived.Test.YtibhkijaafdkoaaGreatDoorP23
import Derived.Test.YtibhkijaafdkoaaGreatDoorP28
import Derived.Deep.RegionHeld3
import Derived.Deep.DeepCutAuto
import Derived.Deep.CutRange
import Derived.Test.YtibhkijaafdkoaaGreatDoorP50
import Derived.Test.YtibhkijaafdkoaaGreatDoorP37
import Derived.Test.YtibhkijaafdkoaaGreatDoorP02
import Derived.Test.YtibhkijaafdkoaaGreatDoorP12
import Derived.Test.YtibhkijaafdkoaaGreatDoorP13
import Derived.Test.YtibhkijaafdkoaaGreatDoorP32
import Derived.Test.YtibhkijaafdkoaaGreatDoorP22
import Derived.Test.YtibhkijaafdkoaaGreatDoorP35
import Derived.Test.YtibhkijaafdkoaaGreatDoorP27
namespace Go.Proofs.YtibhkijaafdkoaaGreatDoor
open Go.RowKit
structure CameAt (w : World) (g n next : Nat) : Prop where
 cell : ∀ i, i < n → w.cell? ⟨g, i, none⟩ = some (.bool (decide (i < next)))
 frozen : ∀ i, w.frozen? ⟨g, i, none⟩ = false
 lt : g < w.heap.size
structure CredAt (w : World) (g : Nat) (cr : Nat → Int) : Prop where
 cell : ∀ f, f < 8 → w.cell? ⟨g, f, none⟩ = some (.int .i64 (cr f))
 frozen : ∀ i, w.frozen? ⟨g, i, none⟩ = false
 lt : g < w.heap.size
theorem CameAt.of_block {w w' : World} {g n k : Nat} (h : CameAt w g n k) (hb : w'.heap[g]? = w.heap[g]?) (hs : w.heap.size ≤ w'.heap.size) : CameAt w' g n k :=
 ⟨fun i hi => (World.cell?_of_block (a := ⟨g, i, none⟩) hb).trans (h.cell i hi), fun i => (World.frozen?_of_block (a := ⟨g, i, none⟩) hb).trans (h.frozen i), Nat.lt_of_lt_of_le h.lt hs⟩
theorem CredAt.of_block {w w' : World} {g : Nat} {cr : Nat → Int} (h : CredAt w g cr) (hb : w'.heap[g]? = w.heap[g]?) (hs : w.heap.size ≤ w'.heap.size) : CredAt w' g cr :=
 ⟨fun i hi => (World.cell?_of_block (a := ⟨g, i, none⟩) hb).trans (h.cell i hi), fun i => (World.frozen?_of_block (a := ⟨g, i, none⟩) hb).trans (h.frozen i), Nat.lt_of_lt_of_le h.lt hs⟩
structure RoMem (w wr : World) (gd gc gk n : Nat) (v : Value) (out : List Sn) (next : Nat) (cr : Nat → Int) (rv : Value) (F : Nat → Prop) (row : List Nat) : Prop where
 own : OwnS wr w.heap.size v out
 done : DoneAt wr gd n out
 came : CameAt wr gc n next
 cred : CredAt wr gk cr
 row : Slides wr w.heap.size rv F row
 ne : gd ≠ gc ∧ gd ≠ gk ∧ gc ≠ gk
 vne : v.ownBlock ≠ some gd ∧ v.ownBlock ≠ some gc ∧ v.ownBlock ≠ some gk
 fne : ¬ F gd ∧ ¬ F gc ∧ ¬ F gk ∧ ∀ k, F k → v.ownBlock ≠ some k
 new : w.heap.size ≤ gd ∧ w.heap.size ≤ gc ∧ w.heap.size ≤ gk
 below : Below w.heap.size w wr
section
variable {w wr wr' : World} {gd gc gk n : Nat} {v : Value} {out : List Sn} {next : Nat} {cr : Nat → Int} {rv : Value} {F : Nat → Prop} {row : List Nat}
theorem RoMem.later (h : RoMem w wr gd gc gk n v out next cr rv F row) (hb : Below wr.heap.size wr wr') : RoMem w wr' gd gc gk n v out next cr rv F row :=
 ⟨ownsRow_of_block h.own (fun g _ hg => hb.block g hg), h.done.of_block (hb.block gd h.done.lt) hb.size, h.came.of_block (hb.block gc h.came.lt) hb.size, h.cred.of_block (hb.block gk h.cred.lt) hb.size, h.row.but (S := fun _ => False) (.ofBelow hb) (fun _ _ h => h), h.ne, h.vne, h.fne, h.new, h.below.trans (hb.mono h.below.size)⟩
theorem RoMem.alloc (h : RoMem w wr gd gc gk n v out next cr rv F row) (o : Obj) : RoMem w (wr.alloc o) gd gc gk n v out next cr rv F row := h.later ((Below.refl _ _).alloc (Nat.le_refl _) _)
end
end Go.Proofs.YtibhkijaafdkoaaGreatDoor

namespace Go.Proofs.YtibhkijaafdkoaaGreatDoor
open Go.RowKit
theorem Slides.cells {w : World} {B : Nat} {v : Value} {F : Nat → Prop} {xs : List Nat} (h : Slides w B v F xs) : ∃ ao cap, v = .slice ao xs.length cap ∧ xs.length ≤ cap ∧ cap ≤ maxLen ∧ (ao = none → xs = [] ∧ cap = 0) ∧ LiesN w ao (asInts xs) ∧ ∀ ad, ao = some ad → ∀ (j k : Nat), xs[j]? = some k → w.cell? ⟨ad.block, ad.off + j, none⟩ = some (.int .i64 (k : Int)) := by
 obtain ⟨ao, b, off, cap, rfl, hc, hm, hB⟩ := h.made
 have hle := hc.le
 have key : ∀ (j k : Nat), xs[j]? = some k → ao = some ⟨b, off, none⟩ ∧ w.cell? ⟨b, off + j, none⟩ = some (.int .i64 (k : Int)) := fun j k hj => by
  have hl := (List.getElem?_eq_some_iff.1 hj).1
  refine ⟨hc.addr (by omega), hc.olds j _ ?_⟩
  simp [nums, hj]
 refine ⟨ao, cap, rfl, hle, hm, fun e => ?_, ?_, fun ad had j k hj => ?_⟩
 ·
  have h0 : cap = 0 := by
   rcases Nat.eq_zero_or_pos cap with h0 | h0
   · exact h0
   · rw [hc.addr h0] at e; cases e
  exact ⟨List.length_eq_zero_iff.1 (by omega), h0⟩
 ·
  cases xs with
  | nil => exact .inl rfl
  | cons k r =>
   refine .inr ⟨b, off, (key 0 k rfl).1, hc.lt (by simp at hle; omega), fun i x hx => ?_⟩
   simp only [asInts, List.getElem?_map] at hx
   cases hi : (k :: r)[i]? with
   | none => rw [hi] at hx; cases hx
   | some z =>
    rw [hi] at hx
    have e : (z : Int) = x := by simpa using hx
    rw [← e]
    exact (key i z hi).2
 ·
  obtain ⟨e1, e2⟩ := key j k hj
  rw [e1] at had
  cases had
  exact e2
end Go.Proofs.YtibhkijaafdkoaaGreatDoor

namespace Go.Proofs.YtibhkijaafdkoaaGreatDoor
open Go.RowKit
structure FoMem (w wr : World) (gt gc gd gl n : Nat) (v : Value) (out : List Sn) (next : Nat) (tag last : Nat → Int) : Prop where
 own : OwnS wr w.heap.size v out
 tags : NumsAt wr gt n tag
 came : CameAt wr gc n next
 done : DoneAt wr gd n out
 last : NumsAt wr gl 8 last
 ne : gt ≠ gc ∧ gt ≠ gd ∧ gt ≠ gl ∧ gc ≠ gd ∧ gc ≠ gl ∧ gd ≠ gl
 vne : v.ownBlock ≠ some gt ∧ v.ownBlock ≠ some gc ∧ v.ownBlock ≠ some gd ∧ v.ownBlock ≠ some gl
 new : w.heap.size ≤ gt ∧ w.heap.size ≤ gc ∧ w.heap.size ≤ gd ∧ w.heap.size ≤ gl
 below : Below w.heap.size w wr
section
variable {w wr wr' : World} {gt gc gd gl n : Nat} {v : Value} {out : List Sn} {next : Nat} {tag last : Nat → Int}
theorem FoMem.later (h : FoMem w wr gt gc gd gl n v out next tag last) (hb : Below wr.heap.size wr wr') : FoMem w wr' gt gc gd gl n v out next tag last :=
 ⟨ownsRow_of_block h.own (fun g _ hg => hb.block g hg), h.tags.of_block (hb.block gt h.tags.lt) hb.size, h.came.of_block (hb.block gc h.came.lt) hb.size, h.done.of_block (hb.block gd h.done.lt) hb.size, h.last.of_block (hb.block gl h.last.lt) hb.size, h.ne, h.vne, h.new, h.below.trans (hb.mono h.below.size)⟩
end
end Go.Proofs.YtibhkijaafdkoaaGreatDoor

namespace Go.Proofs.YtibhkijaafdkoaaGreatDoor
open Go.RowKit
structure FillAt (w W wr : World) (D n : Nat) (a : Nat → Int) : Prop where
 but : But (fun b => b = D) W wr
 at_ : NumsAt wr D n a
 below : Below w.heap.size w W
 new : w.heap.size ≤ D
section
variable {w W wr wr' : World} {D n : Nat} {a : Nat → Int}
theorem FillAt.later (h : FillAt w W wr D n a) (hb : Below wr.heap.size wr wr') : FillAt w W wr' D n a := ⟨h.but.trans (.ofBelow hb), h.at_.of_block (hb.block D h.at_.lt) hb.size, h.below, h.new⟩
end
end Go.Proofs.YtibhkijaafdkoaaGreatDoor

namespace Go.Proofs.YtibhkijaafdkoaaGreatDoor
open Go.RowKit
theorem linkCheck_bad (a : Option Addr) (cap : Nat) (ps : List Pk) (per : Int) (w : World) (ad : Nat → Addr) (he : ErrsBO w ad) (hl : LiesP w a ps) (hcap : ps.length ≤ cap) (hm : cap ≤ maxLen) (hno : ¬ (OkPks ps ∧ 1 ≤ per ∧ per ≤ 1000)) :
  Calls Tryz.prog 52 #[.slice a ps.length cap, .int .i64 per] w fun e w' => ∃ ty v, e = .returned (.iface ty v) ∧ Below w.heap.size w w' := by
 rcases pks_split ps with ho | ho | ⟨h300, j, p, k, hj, hg, hbad⟩
 ·
  refine (linkCheck_per a cap ps per w ad he hl ho ?_).mono ?_
  ·
   rcases Int.lt_or_le per 1 with h | h
   · exact .inl h
   · refine .inr (Int.lt_of_not_ge fun h' => hno ⟨ho, h, h'⟩)
  ·
   rintro e w' ⟨rfl, hb⟩
   exact ⟨_, _, rfl, hb⟩
 ·
  refine linkCheck_err (R := fun _ _ w' => Below w.heap.size w w') a ps.length cap per w ((pcheck_long a ps.length cap w ad he (Nat.le_trans hcap hm) ho).mono ?_)
  rintro e w' ⟨rfl, rfl⟩
  exact ⟨_, _, rfl, Below.refl _ _⟩
 ·
  refine linkCheck_err (R := fun _ _ w' => Below w.heap.size w w') a ps.length cap per w ((pcheck_bad a cap ps w ad he hl h300 j p hj hg k hbad).mono ?_)
  rintro e w' ⟨hb, B, rfl, -⟩
  exact ⟨_, _, rfl, hb⟩
end Go.Proofs.YtibhkijaafdkoaaGreatDoor

namespace Go.Proofs.YtibhkijaafdkoaaGreatDoor
open Go.RowKit
theorem roundRun_bad (a : Option Addr) (cap : Nat) (ps : List Pk) (per : Int) (na : Option Addr) (ncap : Nat) (ns : List Int) (w : World) (ad : Nat → Addr) (he : ErrsBO w ad) (he2 : NumErrs w ad) (hl : LiesP w a ps) (hcap : ps.length ≤ cap) (hm : cap ≤ maxLen) (hn : LiesN w na ns) (hno : ¬ (OkPks ps ∧ 1 ≤ per ∧ per ≤ 1000 ∧ NumsOk 1 3000 ns)) :
  Calls Tryz.prog 26 #[.slice a ps.length cap, .int .i64 per, .slice na ns.length ncap] w fun e w' => ∃ ty v, e = .returned (.tuple #[.slice none 0 0, .iface ty v]) ∧ Below w.heap.size w w' := by
 by_cases hok : OkPks ps ∧ 1 ≤ per ∧ per ≤ 1000
 ·
  refine roundRun_err2 (R := fun _ _ w' => Below w.heap.size w w') a _ cap per na _ ncap w (linkCheck_ok a cap ps per w hl hok.1 hok.2.1 hok.2.2) (fun W hb => ?_)
  obtain ⟨c, hc⟩ := numsFault_is 1 3000 ns
  have h0 : 0 < c := by
   rcases hc with ⟨rfl, -⟩ | ⟨rfl, -⟩ | ⟨-, h⟩
   · decide
   · decide
   · exact absurd ⟨hok.1, hok.2.1, hok.2.2, h⟩ hno
  refine (checkQuanta_bad na ncap ns W ad (he2.below hb) (hn.below hb) c hc h0).mono ?_
  rintro e w' ⟨rfl, rfl⟩
  cases c with
  | zero => omega
  | succ c => exact ⟨_, _, rfl, hb⟩
 · exact roundRun_err1 (R := fun _ _ w' => Below w.heap.size w w') a _ cap per na _ ncap w (linkCheck_bad a cap ps per w ad he hl hcap hm hok)
end Go.Proofs.YtibhkijaafdkoaaGreatDoor

namespace Go.Proofs.YtibhkijaafdkoaaGreatDoor
open Go.RowKit
theorem kind_round : kindOf (ByteArray.toList ⟨#[114, 111, 117, 110, 100]⟩) = 4 := by rw [bytes_round]; rfl
theorem bare_round {per : Int} {ns : List Int} (h1 : 1 ≤ per) (h2 : per ≤ 1000) (hn : NumsOk 1 3000 ns) : GateOk bare8 4 per ns := ⟨rfl, fun i ls _ h => .inl (List.eq_of_mem_replicate (List.mem_of_getElem? h)), by decide, ⟨h1, h2⟩, .inr (.inr (.inr (.inl ⟨rfl, .inr (.inr ⟨rfl, hn⟩)⟩)))⟩
theorem bare_no {per : Int} {ns : List Int} {ps : List Pk} {c p : Int} (h : RunIs bare8 4 per ns ps c p) (hno : ¬ (OkPks ps ∧ 1 ≤ per ∧ per ≤ 1000 ∧ NumsOk 1 3000 ns)) : 0 < c := by
 rcases h with ⟨-, h⟩ | ⟨-, -, h⟩ | ⟨-, -, i, -, -, h, -⟩ | ⟨hok, ho, -⟩
 · exact h
 · exact h
 · omega
 ·
  refine absurd ⟨ho, hok.per.1, hok.per.2, ?_⟩ hno
  rcases hok.nums with ⟨e, -⟩ | ⟨e, -⟩ | ⟨e, -⟩ | ⟨-, h⟩ | ⟨e, -⟩
  · omega
  · omega
  · omega
  ·
   rcases h with ⟨e, -⟩ | ⟨e, -⟩ | ⟨-, h⟩
   · omega
   · omega
   · exact h
  · omega
def OpenBad (w : World) (s9 s10 s11 : Value) (w' : World) : Prop := ∃ qa qcap la lcap ty v, s9 = .slice qa 0 qcap ∧ s10 = .slice la 0 lcap ∧ s11 = .iface ty v ∧ Below w.heap.size w w'
def OpenGood (per : Int) (ps : List Pk) (ns : List Int) (w : World) (s9 s10 s11 : Value) (w' : World) : Prop := ∃ qa qcap la lcap l, s9 = .slice qa ps.length qcap ∧ s10 = .slice la l.length lcap ∧ s11 = .nilIface ∧ LiesP w' qa ps ∧ LiesS w' la l ∧ RoundSent per ps ns l ∧ Below w.heap.size w w'
theorem openGate_put (W : World) (per : Int) (r : Nat) (ns : List Int) (a5 : Option Addr) (k5 : Nat) (w5 : World)
  (hl : LiesN w5 a5 ns) (hb : Below ((W.alloc (.cells (madeCells #[.slice none 0 0] 8) 38)).alloc (.cells #[.slice (some ⟨W.heap.size, 0, none⟩) 8 8, .string ⟨#[114, 111, 117, 110, 100]⟩, .int .i64 per, .slice none 0 0] 32)).heap.size ((W.alloc (.cells (madeCells #[.slice none 0 0] 8) 38)).alloc (.cells #[.slice (some ⟨W.heap.size, 0, none⟩) 8 8, .string ⟨#[114, 111, 117, 110, 100]⟩, .int .i64 per, .slice none 0 0] 32)) w5)
  (h6 : ∀ ad, a5 = some ad → ((W.alloc (.cells (madeCells #[.slice none 0 0] 8) 38)).alloc (.cells #[.slice (some ⟨W.heap.size, 0, none⟩) 8 8, .string ⟨#[114, 111, 117, 110, 100]⟩, .int .i64 per, .slice none 0 0] 32)).heap.size ≤ ad.block) :
  w5.cell? ⟨W.heap.size + 1, 3, none⟩ = some (.slice none 0 0) ∧ w5.frozen? ⟨W.heap.size + 1, 3, none⟩ = false ∧
   GateAt (w5.setCell ⟨W.heap.size + 1, 3, none⟩ (.slice a5 r k5)) (W.heap.size + 1) (.slice (some ⟨W.heap.size, 0, none⟩) 8 8) ⟨#[114, 111, 117, 110, 100]⟩ per (.slice a5 r k5) ∧
   LiesC (w5.setCell ⟨W.heap.size + 1, 3, none⟩ (.slice a5 r k5)) (some ⟨W.heap.size, 0, none⟩) bare8 ∧ LiesN (w5.setCell ⟨W.heap.size + 1, 3, none⟩ (.slice a5 r k5)) a5 ns ∧ Below W.heap.size W (w5.setCell ⟨W.heap.size + 1, 3, none⟩ (.slice a5 r k5)) := by
 have hs1 : (W.alloc (.cells (madeCells #[.slice none 0 0] 8) 38)).heap.size = W.heap.size + 1 := by simp
 have hs2 : ((W.alloc (.cells (madeCells #[.slice none 0 0] 8) 38)).alloc (.cells #[.slice (some ⟨W.heap.size, 0, none⟩) 8 8, .string ⟨#[114, 111, 117, 110, 100]⟩, .int .i64 per, .slice none 0 0] 32)).heap.size = W.heap.size + 1 + 1 := by simp
 have hb1 : Below W.heap.size W (W.alloc (.cells (madeCells #[.slice none 0 0] 8) 38)) := (Below.refl _ _).alloc (Nat.le_refl _) _
 have hb2 : Below (W.alloc (.cells (madeCells #[.slice none 0 0] 8) 38)).heap.size (W.alloc (.cells (madeCells #[.slice none 0 0] 8) 38)) ((W.alloc (.cells (madeCells #[.slice none 0 0] 8) 38)).alloc (.cells #[.slice (some ⟨W.heap.size, 0, none⟩) 8 8, .string ⟨#[114, 111, 117, 110, 100]⟩, .int .i64 per, .slice none 0 0] 32)) := (Below.refl _ _).alloc (Nat.le_refl _) _
 have hga := gateAt_new (W.alloc (.cells (madeCells #[.slice none 0 0] 8) 38)) (.slice (some ⟨W.heap.size, 0, none⟩) 8 8) ⟨#[114, 111, 117, 110, 100]⟩ per (.slice none 0 0) 32
 have hfz : ((W.alloc (.cells (madeCells #[.slice none 0 0] 8) 38)).alloc (.cells #[.slice (some ⟨W.heap.size, 0, none⟩) 8 8, .string ⟨#[114, 111, 117, 110, 100]⟩, .int .i64 per, .slice none 0 0] 32)).frozen? ⟨W.heap.size + 1, 3, none⟩ = false := by
  rw [← hs1]
  exact World.frozen?_alloc_at _ _ _ _ rfl
 have hlc := (liesC_bare W 38).below hb2
 have hbW := hb1.trans (hb2.mono hb1.size)
 obtain ⟨V, hV⟩ : ∃ V, V = ((W.alloc (.cells (madeCells #[.slice none 0 0] 8) 38)).alloc (.cells #[.slice (some ⟨W.heap.size, 0, none⟩) 8 8, .string ⟨#[114, 111, 117, 110, 100]⟩, .int .i64 per, .slice none 0 0] 32)) := ⟨_, rfl⟩
 rw [← hV] at hb h6 hga hfz hlc hbW hs2
 rw [hs1] at hga
 have hg5 := hga.later hb
 have hlc5 := hlc.below hb
 have hbut : But (fun k => k = W.heap.size + 1) w5 (w5.setCell ⟨W.heap.size + 1, 3, none⟩ (.slice a5 r k5)) := But.setCell (S := fun k => k = W.heap.size + 1) (But.refl _ w5) (p := ⟨W.heap.size + 1, 3, none⟩) rfl _
 have hb5 : Below W.heap.size W w5 := hbW.trans (hb.mono hbW.size)
 have ne : ∀ o : Nat, o ≠ 3 → (⟨W.heap.size + 1, 3, none⟩ : Addr) ≠ ⟨W.heap.size + 1, o, none⟩ := fun o ho e => by injection e with e1 e2; exact ho e2.symm
 refine ⟨hg5.c3, ?_, ⟨?_, ?_, ?_, World.cell?_setCell_same' _ _ _ (by rw [hg5.c3]; rfl)⟩, ?_, ?_, ?_⟩
 ·
  rw [hb.frozen (p := ⟨W.heap.size + 1, 3, none⟩) (by show W.heap.size + 1 < V.heap.size; omega)]
  exact hfz
 · rw [World.cell?_setCell_other _ _ _ _ (ne 0 (by omega))]; exact hg5.c0
 · rw [World.cell?_setCell_other _ _ _ _ (ne 1 (by omega))]; exact hg5.c1
 · rw [World.cell?_setCell_other _ _ _ _ (ne 2 (by omega))]; exact hg5.c2
 ·
  rcases hlc5 with e | ⟨b, off, e, hlt, hc⟩
  · cases e
  ·
   refine .inr ⟨b, off, e, ?_, fun i ls hi => ?_⟩
   · simpa [World.setCell] using hlt
   ·
    obtain ⟨a', cap, h1, h2, h3⟩ := hc i ls hi
    have hne : (⟨W.heap.size + 1, 3, none⟩ : Addr) ≠ ⟨b, off + i, none⟩ := fun e' => by
     injection e' with e1 e2
     have : b = W.heap.size := by
      have := Option.some.inj e
      injection this with e3
      exact e3.symm
     omega
    have hl0 : ls = [] := List.eq_of_mem_replicate (List.mem_of_getElem? hi)
    subst hl0
    exact ⟨a', cap, by rw [World.cell?_setCell_other _ _ _ _ hne]; exact h1, .inl rfl, h3⟩
 · exact liesN_but hl hbut fun ad had hk => by have := h6 ad had; omega
 · exact hb5.trans (hbut.below hb5.size fun k hk => by omega)
end Go.Proofs.YtibhkijaafdkoaaGreatDoor
