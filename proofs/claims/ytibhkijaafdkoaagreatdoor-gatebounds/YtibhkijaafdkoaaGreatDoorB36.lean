/- Own facts, put together: no statement of its own. -/
import Derived.Deep.RegionHeld3
import Derived.Deep.DeepCutAuto
import Derived.Deep.AppendLies
import Derived.Deep.LoopGhost
import Derived.Laws.StructEq
import Derived.Deep.CutRange
import Derived.BigQuiet
import Derived.Test.YtibhkijaafdkoaaGreatDoorB25
import Derived.Test.YtibhkijaafdkoaaGreatDoorB09
import Derived.Test.YtibhkijaafdkoaaGreatDoorB26
import Derived.Test.YtibhkijaafdkoaaGreatDoorB19
import Derived.Test.YtibhkijaafdkoaaGreatDoorB23
import Derived.Test.YtibhkijaafdkoaaGreatDoorB17
import Derived.Test.YtibhkijaafdkoaaGreatDoorB12
import Derived.Test.YtibhkijaafdkoaaGreatDoorB18
import Derived.Test.YtibhkijaafdkoaaGreatDoorB28
import Derived.Test.YtibhkijaafdkoaaGreatDoorB01
import Derived.Test.YtibhkijaafdkoaaGreatDoorB29
import Derived.Test.YtibhkijaafdkoaaGreatDoorB16
import Derived.Test.YtibhkijaafdkoaaGreatDoorB24
import Derived.Test.YtibhkijaafdkoaaGreatDoorB30
import Derived.Test.YtibhkijaafdkoaaGreatDoorB33
import Derived.Test.YtibhkijaafdkoaaGreatDoorB34
import Derived.Test.YtibhkijaafdkoaaGreatDoorB35
import Derived.Test.YtibhkijaafdkoaaGreatDoorB10
import Derived.Test.YtibhkijaafdkoaaGreatDoorB11
import Derived.Test.YtibhkijaafdkoaaGreatDoorB04
import Derived.Test.YtibhkijaafdkoaaGreatDoorB13
namespace Go.Proofs.YtibhkijaafdkoaaGreatDoor
open Go.RowKit
def numBy (Dd Db : Int → List (Int × Int) → Option Int → Prop) (k : Nat) (per : Int) (L : List (Int × Int)) (o : Option Int) : Prop := (k = 1 ∧ Dd per L o) ∨ (k ≠ 1 ∧ Db per L o)
def BoundIs (S : List (Int × Int) → List (Int × Int) → Int → List (Int × Int) → Prop) (Dd Db : Int → List (Int × Int) → Option Int → Prop) (cs : List (List (Int × Int))) (k : Nat) (per : Int) (o : Option Int) : Prop := (CurveNone S cs ∧ o = none) ∨ ∃ L, CurveAll S cs L ∧ numBy Dd Db k per L o
def NumEnd (o : Option Int) (w : World) (e : Ending) (w' : World) : Prop := Below w.heap.size w w' ∧ ((o = none ∧ ∃ E, e = .returned (.tuple #[.int .i64 0, E]) ∧ ErrIs w' E 4 (-1)) ∨ ∃ n, o = some n ∧ e = .returned (.tuple #[.int .i64 n, .nilIface]))
structure BoundWalks (S : List (Int × Int) → List (Int × Int) → Int → List (Int × Int) → Prop) (Dd Db : Int → List (Int × Int) → Option Int → Prop) : Prop where
 way : SumWay S
 sumOf : ∀ (a1 a2 : Option Addr) (cap1 cap2 : Nat) (la lb : List (Int × Int)) (w : World), Lies w a1 la → Lies w a2 lb → okCurve la → okCurve lb → Calls Tryz.prog 42 #[.slice a1 la.length cap1, .slice a2 lb.length cap2] w fun e w' => ∃ a cap code L, e = .returned (.tuple #[.slice a L.length cap, .int .i64 code]) ∧ S la lb code L ∧ Lies w' a L ∧ L.length ≤ cap ∧ cap ≤ maxLen ∧ Below w.heap.size w w'
 delay1 : ∀ per L o o', okCurve L → 1 ≤ per → per ≤ 1000 → Dd per L o → Dd per L o' → o = o'
 busy1 : ∀ per L o o', okCurve L → 1 ≤ per → per ≤ 1000 → Db per L o → Db per L o' → o = o'
 delay : ∀ (a : Option Addr) (cap : Nat) (L : List (Int × Int)) (per : Int) (w : World) (ad : Nat → Addr), Errs9 w ad → Lies w a L → L.length ≤ cap → cap ≤ maxLen → okCurve L → 1 ≤ per → per ≤ 1000 → Calls Tryz.prog 17 #[.slice a L.length cap, .int .i64 per] w fun e w' => ∃ o, Dd per L o ∧ NumEnd o w e w'
 busy : ∀ (a : Option Addr) (cap : Nat) (L : List (Int × Int)) (per : Int) (w : World) (ad : Nat → Addr), Errs9 w ad → Lies w a L → L.length ≤ cap → cap ≤ maxLen → okCurve L → 1 ≤ per → per ≤ 1000 → Calls Tryz.prog 18 #[.slice a L.length cap, .int .i64 per] w fun e w' => ∃ o, Db per L o ∧ NumEnd o w e w'
 bad : ∀ (ca : Option Addr) (ccap : Nat) (cs : List (List (Int × Int))) (kb : ByteArray) (per : Int) (na : Option Addr) (ncap : Nat) (ns : List Int) (w : World) (ad : Nat → Addr) (c p : Int), Errs9 w ad → GateLies w ca ccap cs na ncap ns → GateIs cs (kindOf kb.toList) per ns c p → 0 < c →
  Calls Tryz.prog 11 #[.agg #[.slice ca cs.length ccap, .string kb, .int .i64 per, .slice na ns.length ncap]] w fun e w' => ∃ E, e = .returned (.tuple #[.int .i64 0, E]) ∧ ErrIs w' E c p ∧ Below w.heap.size w w'
 good : ∀ (ca : Option Addr) (ccap : Nat) (cs : List (List (Int × Int))) (kb : ByteArray) (per : Int) (na : Option Addr) (ncap : Nat) (ns : List Int) (w : World) (ad : Nat → Addr), Errs9 w ad → GateLies w ca ccap cs na ncap ns → GateOk cs (kindOf kb.toList) per ns →
  Calls Tryz.prog 11 #[.agg #[.slice ca cs.length ccap, .string kb, .int .i64 per, .slice na ns.length ncap]] w fun e w' => ∃ o, BoundIs S Dd Db cs (kindOf kb.toList) per o ∧ NumEnd o w e w'
theorem boundIs_none {S : List (Int × Int) → List (Int × Int) → Int → List (Int × Int) → Prop} {Dd Db : Int → List (Int × Int) → Option Int → Prop} (hS : SumWay S) {cs : List (List (Int × Int))} (hc : CurvesOk (curveFl cs)) {k : Nat} {per : Int} {o : Option Int} (h : BoundIs S Dd Db cs k per o) (hn : CurveNone S cs) : o = none := by
 rcases h with ⟨-, h⟩ | ⟨L, h, -⟩
 · exact h
 · exact absurd hn (h.no hS hc)
theorem boundIs_all {S : List (Int × Int) → List (Int × Int) → Int → List (Int × Int) → Prop} {Dd Db : Int → List (Int × Int) → Option Int → Prop} (hS : SumWay S) {cs : List (List (Int × Int))} (hc : CurvesOk (curveFl cs)) {k : Nat} {per : Int} {o : Option Int} {L : List (Int × Int)} (h : BoundIs S Dd Db cs k per o) (hL : CurveAll S cs L) : numBy Dd Db k per L o := by
 rcases h with ⟨hn, -⟩ | ⟨L', h, hd⟩
 · exact absurd hn (hL.no hS hc)
 · rw [hL.one hS hc h]; exact hd
section
variable (S : List (Int × Int) → List (Int × Int) → Int → List (Int × Int) → Prop) (Dd Db : Int → List (Int × Int) → Option Int → Prop) (ca : Option Addr) (ccap : Nat) (cs : List (List (Int × Int))) (kb : ByteArray) (per : Int) (na : Option Addr) (ncap : Nat) (ns : List Int) (w : World) (ad : Nat → Addr)
set_option maxRecDepth 100000 in
set_option maxHeartbeats 4000000 in
theorem gateBounds_any (GW : GateWalks) (BW : BoundWalks S Dd Db) (he : Errs9 w ad) (hg : GateRaw w ca ccap cs na ncap ns) :
  Calls Tryz.prog 3 #[.agg #[.slice ca cs.length ccap, .string kb, .int .i64 per, .slice na ns.length ncap]] w fun e w' => e = .returned (.bool true) ∧ Below w.heap.size w w' := by
 have HOp : Hid (∀ W, Below w.heap.size w W → Calls Tryz.prog 9 #[] W fun e w' => e = .returned (.bool true) ∧ Below W.heap.size W w') := fun W hb => opens_by GW W ad (he.below hb)
 have HWi : Hid (∀ W, Below w.heap.size w W → Calls Tryz.prog 10 #[.agg #[.slice ca cs.length ccap, .string kb, .int .i64 per, .slice na ns.length ncap]] W fun e w' => WideEnd cs ns W e w') := fun W hb => wide_any ca ccap cs kb per na ncap ns W (hg.curves.below hb) hg.cfit hg.cmax hg.nfit hg.nmax
 have HOg : Hid (Slim cs ns → ∀ W, Below w.heap.size w W → Calls Tryz.prog 12 #[.agg #[.slice ca cs.length ccap, .string kb, .int .i64 per, .slice na ns.length ncap]] W fun e w' => ∃ c6 k6 n6 m6, e = .returned (.agg #[.slice c6 cs.length k6, .string kb, .int .i64 per, .slice n6 ns.length m6]) ∧ GateLies w' c6 k6 cs n6 m6 ns ∧ Below W.heap.size W w') := fun hs W hb => (ownGate_any ca ccap cs kb per na ncap ns W (hg.curves.below hb) (hg.nums.below hb) hg.nnone hs).mono fun e w' ⟨c6, k6, n6, m6, h1, h2, h3, h4, h5, h6, h7, h8, h9⟩ => ⟨c6, k6, n6, m6, h1, ⟨h2, h3, h4, h5, h6, h7, h8, hs⟩, h9⟩
 obtain ⟨gc, gp, hgi⟩ := gateIs_is cs (kindOf_le kb.toList) per ns
 have HGf : Hid (Slim cs ns → ∀ W, Below w.heap.size w W → Calls Tryz.prog 13 #[.agg #[.slice ca cs.length ccap, .string kb, .int .i64 per, .slice na ns.length ncap]] W fun e w' => GfEnd gc gp W e w') := fun hs W hb => refGateFault_is ca ccap cs kb per na ncap ns W gc gp (hg.curves.below hb) (by have := hs.curves; omega) (hg.nums.below hb) (by have := hs.nums; omega) hgi
 have HBad : Hid (∀ W c6 k6 n6 m6, Below w.heap.size w W → GateLies W c6 k6 cs n6 m6 ns → 0 < gc → Calls Tryz.prog 11 #[.agg #[.slice c6 cs.length k6, .string kb, .int .i64 per, .slice n6 ns.length m6]] W fun e w' => ∃ E, e = .returned (.tuple #[.int .i64 0, E]) ∧ ErrIs w' E gc gp ∧ Below W.heap.size W w') := fun W c6 k6 n6 m6 hb h6 h0 => BW.bad c6 k6 cs kb per n6 m6 ns W ad gc gp (he.below hb) h6 hgi h0
 have HGood : Hid (∀ W c6 k6 n6 m6, Below w.heap.size w W → GateLies W c6 k6 cs n6 m6 ns → GateOk cs (kindOf kb.toList) per ns → Calls Tryz.prog 11 #[.agg #[.slice c6 cs.length k6, .string kb, .int .i64 per, .slice n6 ns.length m6]] W fun e w' => ∃ o, BoundIs S Dd Db cs (kindOf kb.toList) per o ∧ NumEnd o W e w') := fun W c6 k6 n6 m6 hb h6 hok => BW.good c6 k6 cs kb per n6 m6 ns W ad (he.below hb) h6 hok
 have HAll : Hid (∀ W, Below w.heap.size w W → GateOk cs (kindOf kb.toList) per ns → Calls Tryz.prog 15 #[.agg #[.slice ca cs.length ccap, .string kb, .int .i64 per, .slice na ns.length ncap]] W fun e w' => AllEnd S cs W e w') := fun W hb hok => refCurveOf_by S BW.way BW.sumOf ca ccap cs kb per na _ ncap W (hg.curves.below hb) hok.len hok.curves
 have HBW : Hid (BoundWalks S Dd Db ∧ Errs9 w ad) := ⟨BW, he⟩
 have HGi : Hid ((gc = 0 ∧ gp = -1 ∧ GateOk cs (kindOf kb.toList) per ns) ∨ (0 < gc ∧ gc ≤ 9)) := hgi.num
 have hb1 : Below w.heap.size w (w.alloc (.cells #[.slice ca cs.length ccap, .string kb, .int .i64 per, .slice na ns.length ncap] 25)) := (Below.refl _ _).alloc (Nat.le_refl _) _
 have hga := gateAt_new w (.slice ca cs.length ccap) kb per (.slice na ns.length ncap) 25
 obtain ⟨V, hV⟩ : ∃ V, w.alloc (.cells #[.slice ca cs.length ccap, .string kb, .int .i64 per, .slice na ns.length ncap] 25) = V := ⟨_, rfl⟩
 rw [hV] at hb1 hga
 have HV : Hid (Below w.heap.size w V ∧ GateAt V w.heap.size (.slice ca cs.length ccap) kb per (.slice na ns.length ncap)) := ⟨hb1, hga⟩
 obtain ⟨m, hm⟩ : ∃ m, cs.length = m := ⟨_, rfl⟩
 obtain ⟨r, hr⟩ : ∃ r, ns.length = r := ⟨_, rfl⟩
 rw [hm, hr] at HWi HOg HGf HBad HGood HAll HV hV
 rw [hm, hr]
 have HKt := (show Hid _ from kindTests kb)
 clear he hg hgi hb1 hga hm hr GW BW
 go_enter Tryz.func3, Tryz.ntmps3
 go_wp2_with fail
 refine (HOp.out _ HV.out.1).mono ?_
 rintro e w1 ⟨rfl, hb⟩
 have HB1 : Hid (Below w.heap.size w w1) := HV.out.1.trans (hb.mono HV.out.1.size)
 obtain ⟨x0, x1, x2, x3⟩ := HV.out.2.later hb
 have HX1 : Hid (GateAt w1 w.heap.size (.slice ca m ccap) kb per (.slice na r ncap)) := HV.out.2.later hb
 clear hb hV
 go_wp2_with fail
 refine (HWi.out _ HB1.out).mono ?_
 rintro e w2 ⟨rfl | ⟨rfl, hs⟩, hb⟩
 ·
  have HB2 : Hid (Below w.heap.size w w2) := HB1.out.trans (hb.mono HB1.out.size)
  clear hb
  go_wp2_with fail
  go_ret
  exact ⟨rfl, HB2.out⟩
 have HB2 : Hid (Below w.heap.size w w2) := HB1.out.trans (hb.mono HB1.out.size)
 have HX2 : Hid (GateAt w2 w.heap.size (.slice ca m ccap) kb per (.slice na r ncap)) := HX1.out.later hb
 have HSl : Hid (Slim cs ns) := hs
 clear hs x0 x1 x2 x3
 obtain ⟨x0, x1, x2, x3⟩ := HX1.out.later hb
 clear hb
 go_wp2_with fail
 refine (HOg.out HSl.out _ HB2.out).mono ?_
 rintro e w6 ⟨c6, k6, n6, m6, rfl, hg6, hb6⟩
 have HB6 : Hid (Below w.heap.size w w6 ∧ GateLies w6 c6 k6 cs n6 m6 ns ∧ GateAt w6 w.heap.size (.slice ca m ccap) kb per (.slice na r ncap)) := ⟨HB2.out.trans (hb6.mono HB2.out.size), hg6, HX2.out.later hb6⟩
 clear hg6 hb6 x0 x1 x2 x3
 rcases HGi.out with ⟨rfl, rfl, hok⟩ | ⟨hc0, -⟩
 ·
  have HOk : Hid (GateOk cs (kindOf kb.toList) per ns) := hok
  clear hok HBad HGi
  go_wp2_with fail
  refine (HGood.out _ c6 k6 n6 m6 HB6.out.1 HB6.out.2.1 HOk.out).mono ?_
  rintro e w7 ⟨o, ho, hb7, hend⟩
  have HB7 : Hid (Below w.heap.size w w7 ∧ GateAt w7 w.heap.size (.slice ca m ccap) kb per (.slice na r ncap) ∧ BoundIs S Dd Db cs (kindOf kb.toList) per o) := ⟨HB6.out.1.trans (hb7.mono HB6.out.1.size), HB6.out.2.2.later hb7, ho⟩
  obtain ⟨N, E, rfl, hNE⟩ : ∃ N E, e = .returned (.tuple #[.int .i64 N, E]) ∧ ((o = none ∧ N = 0 ∧ ErrIs w7 E 4 (-1)) ∨ (o = some N ∧ E = .nilIface)) := by
   rcases hend with ⟨h1, E, h2, h3⟩ | ⟨n, h1, h2⟩
   · exact ⟨0, E, h2, .inl ⟨h1, rfl, h3⟩⟩
   · exact ⟨n, .nilIface, h2, .inr ⟨h1, rfl⟩⟩
  have HNE : Hid ((o = none ∧ N = 0 ∧ ErrIs w7 E 4 (-1)) ∨ (o = some N ∧ E = .nilIface)) := hNE
  obtain ⟨x0, x1, x2, x3⟩ := HB7.out.2.1
  clear ho hb7 hend hNE HGood
  go_wp2_with fail
  refine (HGf.out HSl.out _ HB7.out.1).mono ?_
  rintro e w8 ⟨rfl, hb8⟩
  have hbA : Below w7.heap.size w7 (w8.alloc (.cells #[.int .i64 0, .int .i64 (-1)] 35)) := hb8.alloc hb8.size _
  obtain ⟨f0, f1, -, -⟩ := at2_new w8 (.int .i64 0) (.int .i64 (-1)) 35
  obtain ⟨WA, hWA⟩ : ∃ WA, w8.alloc (.cells #[.int .i64 0, .int .i64 (-1)] 35) = WA := ⟨_, rfl⟩
  rw [hWA] at hbA f0 f1
  clear x0 x1 x2 x3
  obtain ⟨x0, x1, x2, x3⟩ := HB7.out.2.1.later hbA
  have HBA : Hid (Below w.heap.size w WA ∧ GateAt WA w.heap.size (.slice ca m ccap) kb per (.slice na r ncap) ∧ (ErrIs w7 E 4 (-1) → ErrIs WA E 4 (-1))) := ⟨HB7.out.1.trans (hbA.mono HB7.out.1.size), HB7.out.2.1.later hbA, fun h => h.below hbA⟩
  clear hb8 hbA
  go_wp2_with fail
  refine (HAll.out _ HBA.out.1 HOk.out).mono ?_
  rintro e w9 ⟨hb9, ⟨hno, rfl⟩ | ⟨a9, cap9, L9, hall, hokL, rfl, hl9, hc9, hm9⟩⟩
  ·
   have HE9 : Hid (N = 0 ∧ ErrIs w9 E 4 (-1) ∧ Below w.heap.size w w9) := by
    have e := boundIs_none HBW.out.1.way HOk.out.curves.ok HB7.out.2.2 hno
    rcases HNE.out with ⟨-, h1, h2⟩ | ⟨h1, -⟩
    · exact ⟨h1, (HBA.out.2.2 h2).below hb9, HBA.out.1.trans (hb9.mono HBA.out.1.size)⟩
    · rw [e] at h1; cases h1
   have hN := HE9.out.1
   subst hN
   clear hb9 hno
   go_wp2_with fail
   refine (coded_yes E 4 _ HE9.out.2.1.code).mono ?_
   rintro e wB ⟨rfl, hbB⟩
   have HBB : Hid (Below w.heap.size w wB) := HE9.out.2.2.trans (hbB.mono HE9.out.2.2.size)
   clear hbB
   go_wp2_with fail
   go_ret
   exact ⟨rfl, HBB.out⟩
  ·
   clear x0 x1 x2 x3
   obtain ⟨x0, x1, x2, x3⟩ := HBA.out.2.1.later hb9
   have H9 : Hid (Below w.heap.size w w9 ∧ (ErrIs w7 E 4 (-1) → ErrIs w9 E 4 (-1)) ∧ numBy Dd Db (kindOf kb.toList) per L9 o ∧ okCurve L9 ∧ Lies w9 a9 L9 ∧ L9.length ≤ cap9 ∧ cap9 ≤ maxLen) := ⟨HBA.out.1.trans (hb9.mono HBA.out.1.size), fun h => (HBA.out.2.2 h).below hb9, boundIs_all HBW.out.1.way HOk.out.curves.ok HB7.out.2.2 hall, hokL, hl9, hc9, hm9⟩
   obtain ⟨q, hq⟩ : ∃ q, L9.length = q := ⟨_, rfl⟩
   have HQ : Hid (L9.length = q) := hq
   rw [hq]
   clear hb9 hall hokL hl9 hc9 hm9 hq
   have kt := HKt.out
   have u1 := kt.u1
   have t1 := kt.t1
   clear kt
   by_cases hk : kindOf kb.toList = 1
   ·
    rw [decide_eq_true hk] at u1 t1
    have HD : Hid (Calls Tryz.prog 17 #[.slice a9 q cap9, .int .i64 per] w9 fun e w' => NumEnd o w9 e w') := by
     have := HBW.out.1.delay a9 cap9 L9 per w9 ad (HBW.out.2.below H9.out.1) H9.out.2.2.2.2.1 H9.out.2.2.2.2.2.1 H9.out.2.2.2.2.2.2 H9.out.2.2.2.1 HOk.out.per.1 HOk.out.per.2
     rw [HQ.out] at this
     refine this.mono fun e w' ⟨o', h1, h2⟩ => ?_
     rcases H9.out.2.2.1 with ⟨-, h⟩ | ⟨h, -⟩
     · rw [HBW.out.1.delay1 per L9 o o' H9.out.2.2.2.1 HOk.out.per.1 HOk.out.per.2 h h1]; exact h2
     · exact absurd hk h
    go_wp2_with fail
    refine HD.out.mono ?_
    rintro e wD ⟨hbD, ⟨hnone, E', rfl, hE'⟩ | ⟨n', hsome, rfl⟩⟩
    ·
     have HE9 : Hid (N = 0 ∧ ErrIs wD E 4 (-1) ∧ Below w.heap.size w wD) := by
      rcases HNE.out with ⟨-, h1, h2⟩ | ⟨h1, -⟩
      · exact ⟨h1, (H9.out.2.1 h2).below hbD, H9.out.1.trans (hbD.mono H9.out.1.size)⟩
      · rw [hnone] at h1; cases h1
     obtain ⟨ty', v', rfl⟩ := hE'.some_ (by decide)
     have hN := HE9.out.1
     subst hN
     clear hbD hE' x0 x1 x2 x3
     go_wp2_with fail
     refine (coded_yes E 4 _ HE9.out.2.1.code).mono ?_
     rintro e wB ⟨rfl, hbB⟩
     have HBB : Hid (Below w.heap.size w wB) := HE9.out.2.2.trans (hbB.mono HE9.out.2.2.size)
     clear hbB
     go_wp2_with fail
     go_ret
     exact ⟨rfl, HBB.out⟩
    ·
     obtain ⟨rfl, rfl⟩ : N = n' ∧ E = .nilIface := by
      rcases HNE.out with ⟨h1, -⟩ | ⟨h1, h2⟩
      · rw [h1] at hsome; cases hsome
      · rw [h1] at hsome; exact ⟨Option.some.inj hsome, h2⟩
     have HBB : Hid (Below w.heap.size w wD) := H9.out.1.trans (hbD.mono H9.out.1.size)
     clear hbD hsome x0 x1 x2 x3
     go_wp2_with fail
     go_ret
     exact ⟨rfl, HBB.out⟩
   ·
    rw [decide_eq_false hk] at u1 t1
    have HD : Hid (Calls Tryz.prog 18 #[.slice a9 q cap9, .int .i64 per] w9 fun e w' => NumEnd o w9 e w') := by
     have := HBW.out.1.busy a9 cap9 L9 per w9 ad (HBW.out.2.below H9.out.1) H9.out.2.2.2.2.1 H9.out.2.2.2.2.2.1 H9.out.2.2.2.2.2.2 H9.out.2.2.2.1 HOk.out.per.1 HOk.out.per.2
     rw [HQ.out] at this
     refine this.mono fun e w' ⟨o', h1, h2⟩ => ?_
     rcases H9.out.2.2.1 with ⟨h, -⟩ | ⟨-, h⟩
     · exact absurd h hk
     · rw [HBW.out.1.busy1 per L9 o o' H9.out.2.2.2.1 HOk.out.per.1 HOk.out.per.2 h h1]; exact h2
    go_wp2_with fail
    refine HD.out.mono ?_
    rintro e wD ⟨hbD, ⟨hnone, E', rfl, hE'⟩ | ⟨n', hsome, rfl⟩⟩
    ·
     have HE9 : Hid (N = 0 ∧ ErrIs wD E 4 (-1) ∧ Below w.heap.size w wD) := by
      rcases HNE.out with ⟨-, h1, h2⟩ | ⟨h1, -⟩
      · exact ⟨h1, (H9.out.2.1 h2).below hbD, H9.out.1.trans (hbD.mono H9.out.1.size)⟩
      · rw [hnone] at h1; cases h1
     obtain ⟨ty', v', rfl⟩ := hE'.some_ (by decide)
     have hN := HE9.out.1
     subst hN
     clear hbD hE' x0 x1 x2 x3
     go_wp2_with fail
     refine (coded_yes E 4 _ HE9.out.2.1.code).mono ?_
     rintro e wB ⟨rfl, hbB⟩
     have HBB : Hid (Below w.heap.size w wB) := HE9.out.2.2.trans (hbB.mono HE9.out.2.2.size)
     clear hbB
     go_wp2_with fail
     go_ret
     exact ⟨rfl, HBB.out⟩
    ·
     obtain ⟨rfl, rfl⟩ : N = n' ∧ E = .nilIface := by
      rcases HNE.out with ⟨h1, -⟩ | ⟨h1, h2⟩
      · rw [h1] at hsome; cases hsome
      · rw [h1] at hsome; exact ⟨Option.some.inj hsome, h2⟩
     have HBB : Hid (Below w.heap.size w wD) := H9.out.1.trans (hbD.mono H9.out.1.size)
     clear hbD hsome x0 x1 x2 x3
     go_wp2_with fail
     go_ret
     exact ⟨rfl, HBB.out⟩
 ·
  have hgc : decide (0 < gc) = true := decide_eq_true hc0
  go_wp2_with fail
  refine (HBad.out _ c6 k6 n6 m6 HB6.out.1 HB6.out.2.1 hc0).mono ?_
  rintro e w7 ⟨E, rfl, hE, hb7⟩
  obtain ⟨x0, x1, x2, x3⟩ := HB6.out.2.2.later hb7
  have HB7 : Hid (Below w.heap.size w w7 ∧ ErrIs w7 E gc gp) := ⟨HB6.out.1.trans (hb7.mono HB6.out.1.size), hE⟩
  clear hb7 hE
  go_wp2_with fail
  refine (HGf.out HSl.out _ HB7.out.1).mono ?_
  rintro e w8 ⟨rfl, hb8⟩
  have hbA : Below w7.heap.size w7 (w8.alloc (.cells #[.int .i64 gc, .int .i64 gp] 35)) := hb8.alloc hb8.size _
  obtain ⟨f0, f1, -, -⟩ := at2_new w8 (.int .i64 gc) (.int .i64 gp) 35
  have HBA : Hid (Below w.heap.size w (w8.alloc (.cells #[.int .i64 gc, .int .i64 gp] 35)) ∧ CodeIs (w8.alloc (.cells #[.int .i64 gc, .int .i64 gp] 35)) E gc gp) := ⟨HB7.out.1.trans (hbA.mono HB7.out.1.size), HB7.out.2.code.below hbA⟩
  clear hb8 hbA x0 x1 x2 x3
  go_wp2_with fail
  refine (faulted_yes E gc gp _ HBA.out.2).mono ?_
  rintro e wB ⟨rfl, hbB⟩
  have HBB : Hid (Below w.heap.size w wB) := HBA.out.1.trans (hbB.mono HBA.out.1.size)
  clear hbB
  go_wp2_with fail
  go_ret
  exact ⟨rfl, HBB.out⟩
end
end Go.Proofs.YtibhkijaafdkoaaGreatDoor

namespace Go.Proofs.YtibhkijaafdkoaaGreatDoor
open Go.RowKit
def CurvesUpTo (cs : List (List (Int × Int))) (j : Nat) : Prop := j ≤ 8 ∧ (∀ i, i < j → curveFl cs i ≠ []) ∧ (j = 8 ∨ curveFl cs j = [])
section
end
end Go.Proofs.YtibhkijaafdkoaaGreatDoor

namespace Go.Proofs.YtibhkijaafdkoaaGreatDoor
open Go.RowKit
def leL (x y : Int × Int) : Bool := decide (y.2 < x.2 ∨ (y.2 = x.2 ∧ y.1 ≤ x.1))
theorem sorted_is (L : List (Int × Int)) : ∃ l, l.Perm L ∧ SortedL l := by
 refine ⟨L.mergeSort leL, List.mergeSort_perm L leL, fun i j x y hij hx hy => ?_⟩
 have hp := List.pairwise_mergeSort (le := leL) (fun a b c h1 h2 => by simp only [leL, decide_eq_true_eq] at *; omega) (fun a b => by simp only [leL, Bool.or_eq_true, decide_eq_true_eq]; omega) L
 have := List.pairwise_iff_getElem.1 hp i j (lt_of_get hx) (lt_of_get hy) hij
 rw [(List.getElem?_eq_some_iff.1 hx).2, (List.getElem?_eq_some_iff.1 hy).2] at this
 exact of_decide_eq_true this
theorem tidyIs_of {L R : List (Int × Int)} (h : KeptTo L L.length R) : TidyIs L R := by
 obtain ⟨l, hp, hs⟩ := sorted_is L
 exact ⟨l, hp, hs, kept_low h hp hs⟩
theorem TidyIs.one {P L L' : List (Int × Int)} (h : TidyIs P L) (h' : TidyIs P L') : L = L' := by
 obtain ⟨l, hp, hs, rfl⟩ := h
 obtain ⟨l', hp', hs', rfl⟩ := h'
 refine falls_same (low_falls hs) (low_falls hs') fun a => ?_
 rw [List.mem_reverse, List.mem_reverse, mem_low hp hs, mem_low hp' hs']
theorem sumWay : SumWay SumRel where
 ok := fun la lb L h1 h2 h => by
  rcases h with ⟨-, h, -⟩ | ⟨hok, R, ⟨l, hp, hs, rfl⟩, ⟨-, h, -⟩ | ⟨h6, -, rfl⟩⟩
  · omega
  · omega
  ·
   have hpos := low_nonempty hs (by rw [hp.length_eq]; exact eachL_pos h1.1 h2.1)
   refine ⟨by rw [List.length_reverse]; exact hpos, h6, fun a ha => ?_⟩
   rcases lowT_sub l [] a (List.mem_reverse.1 ha) with h | h
   · cases h
   · exact hok a (hp.mem_iff.1 h)
 num := fun la lb c L h => by
  rcases sumRel_num h with h | h | h <;> omega
 one := fun la lb c L c' L' _ _ h h' => by
  rcases h with ⟨h, rfl, rfl⟩ | ⟨hok, R, ht, h⟩
  ·
   rcases h' with ⟨-, rfl, rfl⟩ | ⟨hok', -⟩
   · exact ⟨rfl, rfl⟩
   · exact absurd hok' h
  ·
   rcases h' with ⟨hn, -⟩ | ⟨-, R', ht', h'⟩
   · exact absurd hok hn
   ·
    obtain rfl := ht.one ht'
    rcases h with ⟨h6, rfl, rfl⟩ | ⟨h6, rfl, rfl⟩
    ·
     rcases h' with ⟨-, rfl, rfl⟩ | ⟨h6', -⟩
     · exact ⟨rfl, rfl⟩
     · omega
    ·
     rcases h' with ⟨h6', -⟩ | ⟨-, rfl, rfl⟩
     · omega
     · exact ⟨rfl, rfl⟩
def DelayBy (per : Int) (L : List (Int × Int)) (o : Option Int) : Prop := (∃ d, o = some d ∧ DelayIs per L d ∧ leastR L * per ≤ 1000) ∨ (o = none ∧ 1000 < leastR L * per)
def BusyBy (per : Int) (L : List (Int × Int)) (o : Option Int) : Prop := (∃ n, o = some (per * n) ∧ BusyIs per L n) ∨ (o = none ∧ BusyNot per L)
theorem DelayIs.le {per d d' : Int} {L : List (Int × Int)} (hL : okCurve L) (h1 : 1 ≤ per) (h : DelayIs per L d) (h' : DelayIs per L d') : d ≤ d' := by
 obtain ⟨k, e, hh, -, -, -⟩ := h.at_
 obtain ⟨c0, c1⟩ := has_at L k hL hh
 have u := h'.upper _ c0
 have m := Int.mul_le_mul_of_nonneg_left c1 (show 0 ≤ per by omega)
 unfold waitOf at e
 omega
theorem delay_one_by (per : Int) (L : List (Int × Int)) (o o' : Option Int) (hL : okCurve L) (h1 : 1 ≤ per) (_ : per ≤ 1000) (h : DelayBy per L o) (h' : DelayBy per L o') : o = o' := by
 rcases h with ⟨d, rfl, hd, hs⟩ | ⟨rfl, hs⟩
 ·
  rcases h' with ⟨d', rfl, hd', -⟩ | ⟨-, hs'⟩
  ·
   have a1 := hd.le hL h1 hd'
   have a2 := hd'.le hL h1 hd
   rw [show d = d' by omega]
  · omega
 ·
  rcases h' with ⟨d', -, -, hs'⟩ | ⟨rfl, -⟩
  · omega
  · rfl
theorem BusyIs.le {per n m : Int} {L : List (Int × Int)} (hL : okCurve L) (h1 : 1 ≤ per) (h : BusyIs per L n) (h' : BusyIs per L m) : n ≤ m := by
 rcases Int.lt_or_le m n with hlt | hle
 ·
  rcases h.least with h2 | h2
  · have := h'.one; omega
  ·
   have := busy_le hL h1 h'.one (show m ≤ n - 1 by omega) h'.is_
   rw [this] at h2
   cases h2
 · exact hle
theorem busy_one_by (per : Int) (L : List (Int × Int)) (o o' : Option Int) (hL : okCurve L) (h1 : 1 ≤ per) (_ : per ≤ 1000) (h : BusyBy per L o) (h' : BusyBy per L o') : o = o' := by
 rcases h with ⟨n, rfl, hn⟩ | ⟨rfl, hn⟩
 ·
  rcases h' with ⟨m, rfl, hm⟩ | ⟨-, hm⟩
  ·
   have a1 := hn.le hL h1 hm
   have a2 := hm.le hL h1 hn
   rw [show n = m by omega]
  ·
   have := hm n hn.one hn.most
   rw [hn.is_] at this
   cases this
 ·
  rcases h' with ⟨m, -, hm⟩ | ⟨rfl, -⟩
  ·
   have := hn m hm.one hm.most
   rw [hm.is_] at this
   cases this
  · rfl
end Go.Proofs.YtibhkijaafdkoaaGreatDoor

namespace Go.Proofs.YtibhkijaafdkoaaGreatDoor
open Go.RowKit
def AtEnd (p : Int) (v : Value) (w : World) (e : Ending) (w' : World) : Prop := ∃ B, e = .returned (.iface 110 (.pointer (some ⟨B, 0, none⟩))) ∧ w'.cell? ⟨B, 0, none⟩ = some (.int .i64 p) ∧ w'.cell? ⟨B, 1, none⟩ = some v ∧ w.heap.size ≤ B ∧ Below w.heap.size w w'
theorem atEnd_made {p : Int} {v : Value} {w W : World} {t : TypeId} (h : Below w.heap.size w W) : AtEnd p v w (.returned (.iface 110 (.pointer (some ⟨W.heap.size, 0, none⟩)))) (W.alloc (.cells #[.int .i64 p, v] t)) :=
 ⟨W.heap.size, rfl, by simp, by simp, h.size, h.alloc h.size _⟩
set_option maxHeartbeats 1000000 in
theorem faultAt_fault (p : Int) (pb : Nat) (ty : TypeId) (x : Value) (w : World) (ad : Nat → Addr) (he : Errs9 w ad) (hp1 : w.cell? ⟨pb, 1, none⟩ = some (.iface ty x)) :
  Calls Tryz.prog 103 #[.int .i64 p, .iface 110 (.pointer (some ⟨pb, 0, none⟩))] w (AtEnd p (.iface ty x) w) := by
 have HB0 : Hid (Below w.heap.size w (w.alloc (.cells #[.pointer none] 110))) := (Below.refl _ _).alloc (Nat.le_refl _) _
 have HE : Hid (Errs9 w ad) := he
 have HP1 : Hid (w.cell? ⟨pb, 1, none⟩ = some (.iface ty x)) := hp1
 clear he hp1
 go_enter Tryz.func103, Tryz.ntmps103
 go_wp2_with fail
 refine (as_hit ⟨pb, 0, none⟩ ⟨w.heap.size, 0, none⟩ (.pointer none) _ (HE.out.below HB0.out).typ (by simp) (by simp)).mono ?_
 rintro e w1 ⟨rfl, hw1⟩
 have hb1 : Below w.heap.size w w1 := by
  rw [hw1]
  exact ((((HB0.out.alloc (by simp) _).alloc (by simp; omega) _).alloc (by simp; omega) _).alloc (by simp; omega) _).setCell (Nat.le_refl _) _
 have ht1 : w1.cell? ⟨w.heap.size, 0, none⟩ = some (.pointer (some ⟨pb, 0, none⟩)) := by
  rw [hw1]
  exact set_at w _ _ _ _ _
 have HB1 : Hid (Below w.heap.size w w1) := hb1
 have hq1 : w1.cell? ⟨pb, 1, none⟩ = some (.iface ty x) := cell_later hb1 HP1.out
 clear hw1 hb1
 go_wp2_with fail
 go_ret
 exact atEnd_made HB1.out
set_option maxHeartbeats 1000000 in
theorem faultAt_sent (p : Int) (e : Addr) (w : World) (ad : Nat → Addr) (he : Errs9 w ad) :
  Calls Tryz.prog 103 #[.int .i64 p, .iface 271 (.pointer (some e))] w (AtEnd p (.iface 271 (.pointer (some e))) w) := by
 have HB0 : Hid (Below w.heap.size w (w.alloc (.cells #[.pointer none] 110))) := (Below.refl _ _).alloc (Nat.le_refl _) _
 have HE : Hid (Errs9 w ad) := he
 clear he
 go_enter Tryz.func103, Tryz.ntmps103
 go_wp2_with fail
 refine (as_miss e ⟨w.heap.size, 0, none⟩ _ (HE.out.below HB0.out).typ).mono ?_
 rintro e w1 ⟨rfl, hw1⟩
 have HB1 : Hid (Below w.heap.size w w1) := by
  show Below _ _ _
  rw [hw1]
  exact ((HB0.out.alloc (by simp) _).alloc (by simp; omega) _).alloc (by simp; omega) _
 clear hw1
 go_wp2_with fail
 go_ret
 exact atEnd_made HB1.out
end Go.Proofs.YtibhkijaafdkoaaGreatDoor
