/- Own facts, put together: no statement of its own. -/
import Derived.Test.YtibhkijaafdkoaaGreatDoorK22
import Derived.Test.YtibhkijaafdkoaaGreatDoorK21
import Derived.Test.YtibhkijaafdkoaaGreatDoorK23
import Derived.Test.YtibhkijaafdkoaaGreatDoorK01
import Derived.Test.YtibhkijaafdkoaaGreatDoorK17
import Derived.Test.YtibhkijaafdkoaaGreatDoorK11
namespace Go.Proofs.YtibhkijaafdkoaaGreatDoor
open Go.RowKit
structure GateLies (w : World) (ca : Option Addr) (ccap : Nat) (cs : List (List (Int × Int))) (na : Option Addr) (ncap : Nat) (ns : List Int) : Prop where
 curves : LiesC w ca cs
 cfit : cs.length ≤ ccap
 cmax : ccap ≤ maxLen
 nums : LiesN w na ns
 nfit : ns.length ≤ ncap
 nmax : ncap ≤ maxLen
 nnone : na = none → ns = [] ∧ ncap = 0
 slim : Slim cs ns
theorem GateLies.below {w w' : World} {ca : Option Addr} {ccap : Nat} {cs : List (List (Int × Int))} {na : Option Addr} {ncap : Nat} {ns : List Int} (h : GateLies w ca ccap cs na ncap ns) (hb : Below w.heap.size w w') : GateLies w' ca ccap cs na ncap ns := ⟨h.curves.below hb, h.cfit, h.cmax, h.nums.below hb, h.nfit, h.nmax, h.nnone, h.slim⟩
structure PksLie (w : World) (pa : Option Addr) (pcap : Nat) (ps : List Pk) : Prop where
 pks : LiesP w pa ps
 cap : ps.length ≤ pcap
 max : pcap ≤ maxLen
 none_ : pa = none → ps = [] ∧ pcap = 0
theorem PksLie.below {w w' : World} {pa : Option Addr} {pcap : Nat} {ps : List Pk} (h : PksLie w pa pcap ps) (hb : Below w.heap.size w w') : PksLie w' pa pcap ps := ⟨h.pks.below hb, h.cap, h.max, h.none_⟩
structure SntLie (w : World) (la : Option Addr) (lcap : Nat) (l : List Sn) : Prop where
 sent : LiesS w la l
 cap : l.length ≤ lcap
 max : lcap ≤ maxLen
 none_ : la = none → l = [] ∧ lcap = 0
theorem SntLie.below {w w' : World} {la : Option Addr} {lcap : Nat} {l : List Sn} (h : SntLie w la lcap l) (hb : Below w.heap.size w w') : SntLie w' la lcap l := ⟨h.sent.below hb, h.cap, h.max, h.none_⟩
def GateBad (c p : Int) (w : World) (e : Ending) (w' : World) : Prop := ∃ qa qcap la lcap E, e = .returned (.tuple #[.slice qa 0 qcap, .slice la 0 lcap, E]) ∧ ErrIs w' E c p ∧ Below w.heap.size w w'
def GateGood (cs : List (List (Int × Int))) (k : Nat) (per : Int) (ns : List Int) (ps : List Pk) (w : World) (e : Ending) (w' : World) : Prop := ∃ qa qcap la lcap qs l, e = .returned (.tuple #[.slice qa qs.length qcap, .slice la l.length lcap, .nilIface]) ∧ PksLie w' qa qcap qs ∧ SntLie w' la lcap l ∧ GateRun (curveFl cs) k per ns ps qs l ∧ Below w.heap.size w w'
structure GateWalks : Prop where
 check : ∀ (ca : Option Addr) (ccap : Nat) (cs : List (List (Int × Int))) (kb : ByteArray) (per : Int) (na : Option Addr) (ncap : Nat) (ns : List Int) (w : World) (ad : Nat → Addr) (c p : Int), Errs9 w ad → GateLies w ca ccap cs na ncap ns → GateIs cs (kindOf kb.toList) per ns c p →
  Calls Tryz.prog 29 #[.agg #[.slice ca cs.length ccap, .string kb, .int .i64 per, .slice na ns.length ncap]] w fun e w' => ∃ E, e = .returned E ∧ ErrIs w' E c p ∧ Below w.heap.size w w'
 bad : ∀ (ca : Option Addr) (ccap : Nat) (cs : List (List (Int × Int))) (kb : ByteArray) (per : Int) (na : Option Addr) (ncap : Nat) (ns : List Int) (pa : Option Addr) (pcap : Nat) (ps : List Pk) (w : World) (ad : Nat → Addr) (c p : Int), Errs9 w ad → GateLies w ca ccap cs na ncap ns → PksLie w pa pcap ps → RunIs cs (kindOf kb.toList) per ns ps c p → 0 < c →
  Calls Tryz.prog 20 #[.agg #[.slice ca cs.length ccap, .string kb, .int .i64 per, .slice na ns.length ncap], .slice pa ps.length pcap] w fun e w' => GateBad c p w e w'
 good : ∀ (ca : Option Addr) (ccap : Nat) (cs : List (List (Int × Int))) (kb : ByteArray) (per : Int) (na : Option Addr) (ncap : Nat) (ns : List Int) (pa : Option Addr) (pcap : Nat) (ps : List Pk) (w : World) (ad : Nat → Addr), Errs9 w ad → GateLies w ca ccap cs na ncap ns → PksLie w pa pcap ps → GateOk cs (kindOf kb.toList) per ns → OkPks ps → (∀ i, ¬ NeverAt (curveFl cs) ps i) →
  Calls Tryz.prog 20 #[.agg #[.slice ca cs.length ccap, .string kb, .int .i64 per, .slice na ns.length ncap], .slice pa ps.length pcap] w fun e w' => GateGood cs (kindOf kb.toList) per ns ps w e w'
def bare8 : List (List (Int × Int)) := List.replicate 8 []
theorem curveFl_bare : curveFl bare8 = fun _ => [] := by
 funext f
 cases h : bare8[f]? with
 | none => simp [curveFl, List.getD, h]
 | some ls =>
  rw [curveFl_get h]
  exact List.eq_of_mem_replicate (List.mem_of_getElem? h)
theorem never_bare (ps : List Pk) (i : Nat) : ¬ NeverAt (curveFl bare8) ps i := by
 rw [curveFl_bare]
 rintro ⟨p, s, -, h, -⟩
 exact h rfl
theorem run_bare {k : Nat} {per : Int} {ns : List Int} {ps qs : List Pk} {l : List Sn} (ho : OkPks ps) (h : GateRun (curveFl bare8) k per ns ps qs l) : qs = ps ∧ LinkSends k per ps ns l := by
 obtain ⟨a, L, h1, h2, rfl, h3⟩ := h
 rw [curveFl_bare] at h1
 obtain ⟨g1, g2, g3⟩ := open_gate ho
 have e := (gate_one ho h1 g1 h2 g2).trans g3
 rw [e] at h3
 exact ⟨e, h3⟩
def gpk1 : Pk := ⟨0, 3, 5⟩
theorem gpk1_ok : OkPks [gpk1] := ⟨by decide, fun i p h => by
 match i, h with
 | 0, h => cases h; exact ⟨rfl, by decide⟩
 | i + 1, h => simp at h⟩
theorem bare_ok : GateOk bare8 1 2 [] := ⟨rfl, fun i ls _ h => .inl (List.eq_of_mem_replicate (List.mem_of_getElem? h)), by decide, by decide, .inl ⟨rfl, .inr ⟨rfl, rfl⟩⟩⟩
theorem slim_bare (ns : List Int) (h : ns.length ≤ 30) : Slim bare8 ns := ⟨by decide, h, fun i ls hi => by rw [List.eq_of_mem_replicate (List.mem_of_getElem? hi)]; simp⟩
theorem liesC_bare (w : World) (t : TypeId) : LiesC (w.alloc (.cells (madeCells #[.slice none 0 0] 8) t)) (some ⟨w.heap.size, 0, none⟩) bare8 :=
 .inr ⟨w.heap.size, 0, rfl, by simp, fun i ls hi => by
  have hl : ls = [] := List.eq_of_mem_replicate (List.mem_of_getElem? hi)
  subst hl
  have hi8 : i < 8 := lt_of_get hi
  refine ⟨none, 0, ?_, .inl rfl, Nat.le_refl _, by simp [maxLen], fun _ => ⟨rfl, rfl⟩⟩
  rw [World.cell?_alloc_at _ _ _ _ rfl, Nat.zero_add]
  exact made_get _ _ _ hi8⟩
theorem kind_fifo : kindOf (ByteArray.toList ⟨#[102, 105, 102, 111]⟩) = 1 := by rw [bytes_fifo]; rfl
theorem make_curves (w' : World) : (Instr.makeSlice 22 (.int .i64 8) (.int .i64 8)).run Tryz.prog w' = .ok (.slice (some ⟨w'.heap.size, 0, none⟩) 8 8) (w'.alloc (.cells (madeCells #[.slice none 0 0] 8) 38)) := by
 obtain ⟨i0, hi, hz0, hz1, hz2⟩ := info_parts Tryz.infoLines
 have := run_make (P := Tryz.prog) w' 22 38 i0 (.slice none 0 0) Tryz.underlying22 hi hz0 .i64 .i64 8 8 (by omega) (by omega) (by rw [hz2]; omega) (by omega)
 simpa [hz1, Value.cells] using this
set_option maxRecDepth 100000 in
set_option maxHeartbeats 2000000 in
theorem opens_by (GW : GateWalks) (w : World) (ad : Nat → Addr) (he : Errs9 w ad) : Calls Tryz.prog 9 #[] w fun e w' => e = .returned (.bool true) ∧ Below w.heap.size w w' := by
 have HR : Hid (∀ W pb cb, Below w.heap.size w W → LiesC W (some ⟨cb, 0, none⟩) bare8 → LiesP W (some ⟨pb, 0, none⟩) [gpk1] → Calls Tryz.prog 20 #[.agg #[.slice (some ⟨cb, 0, none⟩) 8 8, .string ⟨#[102, 105, 102, 111]⟩, .int .i64 2, .slice none 0 0], .slice (some ⟨pb, 0, none⟩) 1 1] W fun e w' => ∃ qa qcap b o lcap, e = .returned (.tuple #[.slice qa 1 qcap, .slice (some ⟨b, o, none⟩) 1 lcap, .nilIface]) ∧ w'.cell? ⟨b, o + 2, none⟩ = some (.int .i64 11) ∧ Below W.heap.size W w') := fun W pb cb hb hc hp => by
  refine (GW.good (some ⟨cb, 0, none⟩) 8 bare8 ⟨#[102, 105, 102, 111]⟩ 2 none 0 [] (some ⟨pb, 0, none⟩) 1 [gpk1] W ad (he.below hb) ⟨hc, by decide, by decide, .inl rfl, by decide, by decide, fun _ => ⟨rfl, rfl⟩, slim_bare [] (by decide)⟩ ⟨hp, by decide, by decide, fun h => by cases h⟩ (by rw [kind_fifo]; exact bare_ok) gpk1_ok (never_bare _)).mono ?_
  rintro e w' ⟨qa, qcap, la, lcap, qs, l, rfl, h1, h2, h3, h4⟩
  rw [kind_fifo] at h3
  obtain ⟨rfl, h5⟩ := run_bare gpk1_ok h3
  obtain rfl : l = [⟨0, 5, 11⟩] := by
   rcases h5 with ⟨-, rfl⟩ | ⟨e, -⟩ | ⟨e, -⟩ | ⟨e, -⟩ | ⟨e, -⟩
   · rfl
   all_goals omega
  obtain ⟨b, o, rfl, -, hcl⟩ := h2.sent.place (by simp)
  refine ⟨qa, qcap, b, o, lcap, rfl, ?_, h4⟩
  have := (hcl 0 _ rfl).2.2
  simpa using this
 have hmk := make_curves
 have hs2 : ((w.alloc (.cells (madeCells #[.slice none 0 0] 8) 38)).alloc (.cells #[.slice (some ⟨w.heap.size, 0, none⟩) 8 8, .string ⟨#[102, 105, 102, 111]⟩, .int .i64 2, .slice none 0 0] 32)).heap.size = w.heap.size + 1 + 1 := by simp
 have hb1 : Below w.heap.size w (w.alloc (.cells (madeCells #[.slice none 0 0] 8) 38)) := (Below.refl _ _).alloc (Nat.le_refl _) _
 have hb2 : Below (w.alloc (.cells (madeCells #[.slice none 0 0] 8) 38)).heap.size (w.alloc (.cells (madeCells #[.slice none 0 0] 8) 38)) ((w.alloc (.cells (madeCells #[.slice none 0 0] 8) 38)).alloc (.cells #[.slice (some ⟨w.heap.size, 0, none⟩) 8 8, .string ⟨#[102, 105, 102, 111]⟩, .int .i64 2, .slice none 0 0] 32)) := (Below.refl _ _).alloc (Nat.le_refl _) _
 have hb3 : Below ((w.alloc (.cells (madeCells #[.slice none 0 0] 8) 38)).alloc (.cells #[.slice (some ⟨w.heap.size, 0, none⟩) 8 8, .string ⟨#[102, 105, 102, 111]⟩, .int .i64 2, .slice none 0 0] 32)).heap.size ((w.alloc (.cells (madeCells #[.slice none 0 0] 8) 38)).alloc (.cells #[.slice (some ⟨w.heap.size, 0, none⟩) 8 8, .string ⟨#[102, 105, 102, 111]⟩, .int .i64 2, .slice none 0 0] 32)) (((w.alloc (.cells (madeCells #[.slice none 0 0] 8) 38)).alloc (.cells #[.slice (some ⟨w.heap.size, 0, none⟩) 8 8, .string ⟨#[102, 105, 102, 111]⟩, .int .i64 2, .slice none 0 0] 32)).alloc (.cells #[.int .i64 0, .int .i64 3, .int .i64 5] 52)) := (Below.refl _ _).alloc (Nat.le_refl _) _
 have HV : Hid (Below w.heap.size w (((w.alloc (.cells (madeCells #[.slice none 0 0] 8) 38)).alloc (.cells #[.slice (some ⟨w.heap.size, 0, none⟩) 8 8, .string ⟨#[102, 105, 102, 111]⟩, .int .i64 2, .slice none 0 0] 32)).alloc (.cells #[.int .i64 0, .int .i64 3, .int .i64 5] 52)) ∧ LiesC (((w.alloc (.cells (madeCells #[.slice none 0 0] 8) 38)).alloc (.cells #[.slice (some ⟨w.heap.size, 0, none⟩) 8 8, .string ⟨#[102, 105, 102, 111]⟩, .int .i64 2, .slice none 0 0] 32)).alloc (.cells #[.int .i64 0, .int .i64 3, .int .i64 5] 52)) (some ⟨w.heap.size, 0, none⟩) bare8 ∧ LiesP (((w.alloc (.cells (madeCells #[.slice none 0 0] 8) 38)).alloc (.cells #[.slice (some ⟨w.heap.size, 0, none⟩) 8 8, .string ⟨#[102, 105, 102, 111]⟩, .int .i64 2, .slice none 0 0] 32)).alloc (.cells #[.int .i64 0, .int .i64 3, .int .i64 5] 52)) (some ⟨w.heap.size + 1 + 1, 0, none⟩) [gpk1]) := by
  have h12 := hb1.trans (hb2.mono hb1.size)
  refine ⟨h12.trans (hb3.mono h12.size), ((liesC_bare w 38).below hb2).below hb3, ?_⟩
  have := liesP_new ((w.alloc (.cells (madeCells #[.slice none 0 0] 8) 38)).alloc (.cells #[.slice (some ⟨w.heap.size, 0, none⟩) 8 8, .string ⟨#[102, 105, 102, 111]⟩, .int .i64 2, .slice none 0 0] 32)) 0 3 5
  rwa [hs2] at this
 clear GW he hs2 hb1 hb2 hb3
 go_enter Tryz.func9, Tryz.ntmps9
 go_wp2_with fail
 refine (HR.out _ _ _ HV.out.1 HV.out.2.1 HV.out.2.2).mono ?_
 rintro e w5 ⟨qa, qcap, b, o, lcap, rfl, hcell, hb5⟩
 have HB5 : Hid (Below w.heap.size w w5) := HV.out.1.trans (hb5.mono HV.out.1.size)
 clear hb5
 go_wp2_with fail
 go_ret
 exact ⟨rfl, HB5.out⟩
end Go.Proofs.YtibhkijaafdkoaaGreatDoor

namespace Go.Proofs.YtibhkijaafdkoaaGreatDoor
open Go.RowKit
structure GateRaw (w : World) (ca : Option Addr) (ccap : Nat) (cs : List (List (Int × Int))) (na : Option Addr) (ncap : Nat) (ns : List Int) : Prop where
 curves : LiesC w ca cs
 cfit : cs.length ≤ ccap
 cmax : ccap ≤ maxLen
 nums : LiesN w na ns
 nfit : ns.length ≤ ncap
 nmax : ncap ≤ maxLen
 nnone : na = none → ns = [] ∧ ncap = 0
theorem GateRaw.below {w w' : World} {ca : Option Addr} {ccap : Nat} {cs : List (List (Int × Int))} {na : Option Addr} {ncap : Nat} {ns : List Int} (h : GateRaw w ca ccap cs na ncap ns) (hb : Below w.heap.size w w') : GateRaw w' ca ccap cs na ncap ns := ⟨h.curves.below hb, h.cfit, h.cmax, h.nums.below hb, h.nfit, h.nmax, h.nnone⟩
theorem GateRaw.lies {w : World} {ca : Option Addr} {ccap : Nat} {cs : List (List (Int × Int))} {na : Option Addr} {ncap : Nat} {ns : List Int} (h : GateRaw w ca ccap cs na ncap ns) (hs : Slim cs ns) : GateLies w ca ccap cs na ncap ns := ⟨h.curves, h.cfit, h.cmax, h.nums, h.nfit, h.nmax, h.nnone, hs⟩
end Go.Proofs.YtibhkijaafdkoaaGreatDoor

namespace Go.Proofs.YtibhkijaafdkoaaGreatDoor
open Go.RowKit
structure At2 (W : World) (g : Nat) (x y : Value) : Prop where
 c0 : W.cell? ⟨g, 0, none⟩ = some x
 c1 : W.cell? ⟨g, 1, none⟩ = some y
 f0 : W.frozen? ⟨g, 0, none⟩ = false
 f1 : W.frozen? ⟨g, 1, none⟩ = false
section
variable {W W' : World} {g h : Nat} {x y : Value}
theorem At2.later (k : At2 W g x y) (hb : Below W.heap.size W W') : At2 W' g x y :=
 have l := cell_lt k.c0
 ⟨cell_later hb k.c0, cell_later hb k.c1, by rw [hb.frozen (p := ⟨g, 0, none⟩) l]; exact k.f0, by rw [hb.frozen (p := ⟨g, 1, none⟩) l]; exact k.f1⟩
end
end Go.Proofs.YtibhkijaafdkoaaGreatDoor

namespace Go.Proofs.YtibhkijaafdkoaaGreatDoor
open Go.RowKit
structure DoneAt (w : World) (g n : Nat) (out : List Sn) : Prop where
 cell : ∀ i, i < n → w.cell? ⟨g, i, none⟩ = some (.bool (isDone out i))
 frozen : ∀ i, w.frozen? ⟨g, i, none⟩ = false
 lt : g < w.heap.size
theorem done_made (w : World) (n : Nat) (t : TypeId) : DoneAt (w.alloc (.cells (madeCells #[.bool false] n) t)) w.heap.size n [] := by
 refine ⟨fun i hi => ?_, fun i => World.frozen?_alloc_new w _ _ i, by simp⟩
 rw [World.cell?_alloc_at _ _ _ _ rfl]
 exact made_get _ _ _ hi
theorem DoneAt.of_block {w w' : World} {g n : Nat} {out : List Sn} (h : DoneAt w g n out) (hb : w'.heap[g]? = w.heap[g]?) (hs : w.heap.size ≤ w'.heap.size) : DoneAt w' g n out :=
 ⟨fun i hi => (World.cell?_of_block (a := ⟨g, i, none⟩) hb).trans (h.cell i hi), fun i => (World.frozen?_of_block (a := ⟨g, i, none⟩) hb).trans (h.frozen i), Nat.lt_of_lt_of_le h.lt hs⟩
theorem DoneAt.put {w : World} {g n : Nat} {out : List Sn} (h : DoneAt w g n out) (b : Nat) (hb : b < n) (f t : Int) : DoneAt (w.setCell ⟨g, b, none⟩ (.bool true)) g n (out ++ [⟨b, f, t⟩]) := by
 refine ⟨fun i hi => ?_, fun i => by rw [World.frozen?_setCell]; exact h.frozen i, by simp [World.setCell]; exact h.lt⟩
 rw [isDone_snoc]
 by_cases e : b = i
 ·
  subst e
  rw [World.cell?_setCell_same' _ _ _ (by rw [h.cell b hb]; rfl)]
  simp
 ·
  rw [World.cell?_setCell_other _ _ _ _ (by intro e'; cases e'; exact e rfl), h.cell i hi]
  simp [e]
structure LeastAt (per : Int) (ps : List Pk) (keys : List Int) (w wr : World) (v : Value) (g : Nat) (out : List Sn) (t : Int) (f : Nat) : Prop where
 seeks : Seeks per ps keys out t f
 own : OwnS wr w.heap.size v out
 done : DoneAt wr g ps.length out
 apart : v.ownBlock ≠ some g
 new : w.heap.size ≤ g
 below : Below w.heap.size w wr
section
variable {per : Int} {ps : List Pk} {keys : List Int} {w wr wr' : World} {v : Value} {g : Nat} {out : List Sn} {t : Int} {f : Nat}
theorem LeastAt.later (h : LeastAt per ps keys w wr v g out t f) (hb : Below wr.heap.size wr wr') : LeastAt per ps keys w wr' v g out t f :=
 ⟨h.seeks, ownsRow_of_block h.own (fun g _ hg => hb.block g hg), h.done.of_block (hb.block g h.done.lt) hb.size, h.apart, h.new, h.below.trans (hb.mono h.below.size)⟩
end
end Go.Proofs.YtibhkijaafdkoaaGreatDoor
