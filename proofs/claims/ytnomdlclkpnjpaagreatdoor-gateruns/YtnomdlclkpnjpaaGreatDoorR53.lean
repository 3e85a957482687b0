/- Own facts, put together: no statement of its own. -/
import Derived.Deep.RegionHeld3
import Derived.Deep.DeepCutAuto
import Derived.Test.YtnomdlclkpnjpaaGreatDoorR31
import Derived.Test.YtnomdlclkpnjpaaGreatDoorR02
import Derived.Test.YtnomdlclkpnjpaaGreatDoorR52
import Derived.Test.YtnomdlclkpnjpaaGreatDoorR28
import Derived.Test.YtnomdlclkpnjpaaGreatDoorR46
import Derived.Test.YtnomdlclkpnjpaaGreatDoorR44
import Derived.Test.YtnomdlclkpnjpaaGreatDoorTie
import Derived.ProofKit
import Derived.OpenShut
import Derived.ShutString
import Derived.ChangeOld
import Derived.ChangeVars
import Derived.Deep.SlicePairs
import Derived.Lib.SmallJoins
import Derived.LaidMore
import Derived.LaidLaws
import Derived.LaidHandle
import Derived.Stop.LaidErr
import Derived.Stop.Joined
import Derived.Test.YtnomdlclkpnjpaaGreatDoorR01
import Derived.Deep.Slices
import Derived.Test.YtnomdlclkpnjpaaGreatDoorR10
namespace Go.Proofs.YtnomdlclkpnjpaaGreatDoor
open Go.RowKit
theorem refRunOf_bad (ca : Option Addr) (ccap : Nat) (cs : List (List (Int × Int))) (kb : ByteArray) (per : Int) (na : Option Addr) (ncap : Nat) (ns : List Int) (pa : Option Addr) (pcap : Nat) (ps : List Pk) (w : World) (c p : Int) (hg : GateLies w ca ccap cs na ncap ns) (hp : PksLie w pa pcap ps) (h : RunIs cs (kindOf kb.toList) per ns ps c p) (h0 : 0 < c) :
  Calls Tryz.prog 29 #[.agg #[.slice ca cs.length ccap, .string kb, .int .i64 per, .slice na ns.length ncap], .slice pa ps.length pcap] w fun e w' => RunBad c p w e w' := by
 have hs := hg.slim
 have hc20 := hs.curves
 have hn30 := hs.nums
 rcases h with ⟨h, -⟩ | ⟨hok, h, -⟩ | ⟨hok, ho, i, h1, h2, rfl, rfl⟩ | ⟨-, -, -, h, -⟩
 · exact refRunOf_gate ca _ ccap kb per na _ ncap pa _ pcap w c p h0 fun W hb => refGateFault_is ca ccap cs kb per na ncap ns W c p (hg.curves.below hb) (by omega) (hg.nums.below hb) (by omega) h
 · exact refRunOf_pks ca _ ccap kb per na _ ncap pa _ pcap w c p h0 (fun W hb => refGateFault_is ca ccap cs kb per na ncap ns W 0 (-1) (hg.curves.below hb) (by omega) (hg.nums.below hb) (by omega) (.inr (.inr ⟨hok.len, hok.curves, rfl, .inr ⟨hok.kind.1, hok.kind.2, .inr ⟨hok.per.1, hok.per.2, 0, hok.nums, rfl⟩⟩⟩))) (fun W hb => pfault_is pa pcap ps W (hp.pks.below hb) hp.cap hp.max c p h)
 ·
  refine (refRunOf_main ca ccap cs kb per na ncap ns pa pcap ps w hg.curves hg.nums (by omega) hp.pks hp.cap hp.max ho hok).mono ?_
  rintro e w' ⟨hb, ⟨j, j1, j2, rfl⟩ | ⟨hno, -⟩⟩
  ·
   have : i = j := by
    rcases Nat.lt_trichotomy i j with h | h | h
    · exact absurd h1 (j2 i h)
    · exact h
    · exact absurd j1 (h2 j h)
   rw [this]
   exact ⟨rfl, hb⟩
  · exact absurd h1 (hno i)
 · omega
section
variable (ca : Option Addr) (ccap : Nat) (cs : List (List (Int × Int))) (kb : ByteArray) (per : Int) (na : Option Addr) (ncap : Nat) (ns : List Int) (pa : Option Addr) (pcap : Nat) (ps : List Pk) (w : World) (ad : Nat → Addr)
set_option maxRecDepth 100000 in
set_option maxHeartbeats 4000000 in
theorem gateRuns_main (GW : GateWalks) (he : Errs9 w ad) (hg : GateLies w ca ccap cs na ncap ns) (hp : PksLie w pa pcap ps) (hfit : ps.length ≤ 60 ∨ ps.length = 301) :
  Calls Tryz.prog 7 #[.agg #[.slice ca cs.length ccap, .string kb, .int .i64 per, .slice na ns.length ncap], .slice pa ps.length pcap] w fun e w' => e = .returned (.bool true) ∧ Below w.heap.size w w' := by
 have HOp : Hid (∀ W, Below w.heap.size w W → Calls Tryz.prog 8 #[] W fun e w' => e = .returned (.bool true) ∧ Below W.heap.size W w') := fun W hb => opens_by GW W ad (he.below hb)
 have HWi : Hid (∀ W, Below w.heap.size w W → Calls Tryz.prog 9 #[.agg #[.slice ca cs.length ccap, .string kb, .int .i64 per, .slice na ns.length ncap]] W fun e w' => WideEnd cs ns W e w') := fun W hb => wide_any ca ccap cs kb per na ncap ns W (hg.curves.below hb) hg.cfit hg.cmax hg.nfit hg.nmax
 have HFit : Hid (∀ w', Calls Tryz.prog 18 #[.slice pa ps.length pcap, .int .i64 60] w' fun e w'' => e = .returned (.bool true) ∧ w'' = w') := fun w' => fitPkts_yes pa ps.length pcap 60 w' (Nat.le_trans hp.cap hp.max) (by omega)
 have HOg : Hid (∀ W, Below w.heap.size w W → Calls Tryz.prog 11 #[.agg #[.slice ca cs.length ccap, .string kb, .int .i64 per, .slice na ns.length ncap]] W fun e w' => ∃ c6 k6 n6 m6, e = .returned (.agg #[.slice c6 cs.length k6, .string kb, .int .i64 per, .slice n6 ns.length m6]) ∧ GateLies w' c6 k6 cs n6 m6 ns ∧ Below W.heap.size W w') := fun W hb => (ownGate_any ca ccap cs kb per na ncap ns W (hg.curves.below hb) (hg.nums.below hb) hg.nnone hg.slim).mono fun e w' ⟨c6, k6, n6, m6, h1, h2, h3, h4, h5, h6, h7, h8, h9⟩ => ⟨c6, k6, n6, m6, h1, ⟨h2, h3, h4, h5, h6, h7, h8, hg.slim⟩, h9⟩
 have HOp2 : Hid (∀ W, Below w.heap.size w W → Calls Tryz.prog 20 #[.slice pa ps.length pcap] W fun e w' => ∃ a' cap', e = .returned (.slice a' ps.length cap') ∧ PksLie w' a' cap' ps ∧ Below W.heap.size W w') := fun W hb => (ownPackets_any pa pcap ps W (hp.pks.below hb) (by omega) hp.none_).mono fun e w' ⟨v, h1, h2, h3⟩ => by
  obtain ⟨a', cap', rfl, g1, g2, g3, -, g5⟩ := OwnP.open h2
  exact ⟨a', cap', h1, ⟨g3, g1, g2, g5⟩, h3⟩
 obtain ⟨gc, gp, hgi⟩ := gateIs_is cs (kindOf_le kb.toList) per ns
 have HCk : Hid (∀ W c6 k6 n6 m6, Below w.heap.size w W → GateLies W c6 k6 cs n6 m6 ns → Calls Tryz.prog 28 #[.agg #[.slice c6 cs.length k6, .string kb, .int .i64 per, .slice n6 ns.length m6]] W fun e w' => ∃ E, e = .returned E ∧ ErrIs w' E gc gp ∧ Below W.heap.size W w') := fun W c6 k6 n6 m6 hb h6 => GW.check c6 k6 cs kb per n6 m6 ns W ad gc gp (he.below hb) h6 hgi
 have HGf : Hid (∀ W, Below w.heap.size w W → Calls Tryz.prog 12 #[.agg #[.slice ca cs.length ccap, .string kb, .int .i64 per, .slice na ns.length ncap]] W fun e w' => GfEnd gc gp W e w') := fun W hb => refGateFault_is ca ccap cs kb per na ncap ns W gc gp (hg.curves.below hb) (by have := hg.slim.curves; omega) (hg.nums.below hb) (by have := hg.slim.nums; omega) hgi
 have hb1 : Below w.heap.size w (w.alloc (.cells #[.slice ca cs.length ccap, .string kb, .int .i64 per, .slice na ns.length ncap] 25)) := (Below.refl _ _).alloc (Nat.le_refl _) _
 have hga := gateAt_new w (.slice ca cs.length ccap) kb per (.slice na ns.length ncap) 25
 obtain ⟨V, hV⟩ : ∃ V, w.alloc (.cells #[.slice ca cs.length ccap, .string kb, .int .i64 per, .slice na ns.length ncap] 25) = V := ⟨_, rfl⟩
 rw [hV] at hb1 hga
 have HV : Hid (Below w.heap.size w V ∧ GateAt V w.heap.size (.slice ca cs.length ccap) kb per (.slice na ns.length ncap)) := ⟨hb1, hga⟩
 have HGl : Hid (Errs9 w ad ∧ GateLies w ca ccap cs na ncap ns ∧ PksLie w pa pcap ps) := ⟨he, hg, hp⟩
 have HGW : Hid GateWalks := GW
 obtain ⟨m, hm⟩ : ∃ m, cs.length = m := ⟨_, rfl⟩
 obtain ⟨r, hr⟩ : ∃ r, ns.length = r := ⟨_, rfl⟩
 obtain ⟨n, hn⟩ : ∃ n, ps.length = n := ⟨_, rfl⟩
 have HM : Hid (cs.length = m ∧ ns.length = r ∧ ps.length = n) := ⟨hm, hr, hn⟩
 rw [hm, hr] at HWi HOg HCk HGf HV
 rw [hn] at HFit HOp2
 rw [hm, hr] at hV
 rw [hm, hr, hn]
 clear he hg hp hfit hgi hb1 hga hm hr hn GW
 go_enter Tryz.func7, Tryz.ntmps7
 go_wp2_with fail
 refine (HOp.out _ HV.out.1).mono ?_
 rintro e w1 ⟨rfl, hb⟩
 have HB1 : Hid (Below w.heap.size w w1) := HV.out.1.trans (hb.mono HV.out.1.size)
 obtain ⟨x0, x1, x2, x3⟩ := HV.out.2.later hb
 have HX1 : Hid (GateAt w1 w.heap.size (.slice ca m ccap) kb per (.slice na r ncap)) := HV.out.2.later hb
 clear hb hV
 go_wp2_with fail
 refine (HWi.out _ HB1.out).mono ?_
 rintro e w2 ⟨rfl | ⟨rfl, -⟩, hb⟩
 ·
  have HB2 : Hid (Below w.heap.size w w2) := HB1.out.trans (hb.mono HB1.out.size)
  clear hb
  go_wp2_with fail
  go_ret
  exact ⟨rfl, HB2.out⟩
 have HB2 : Hid (Below w.heap.size w w2) := HB1.out.trans (hb.mono HB1.out.size)
 have HX2 : Hid (GateAt w2 w.heap.size (.slice ca m ccap) kb per (.slice na r ncap)) := HX1.out.later hb
 clear hb x0 x1 x2 x3
 go_wp2_with fail
 refine (HFit.out _).mono ?_
 rintro e w3 ⟨rfl, rfl⟩
 obtain ⟨x0, x1, x2, x3⟩ := HX2.out
 go_wp2_with fail
 have HD : Hid (Below w.heap.size w w3.drew) := below_drewN HB2.out 1
 have HSb : Hid (∀ W, Below w3.heap.size w3 W → W.cell? ⟨w.heap.size, 0, none⟩ = some (.slice ca m ccap) ∧ W.cell? ⟨w.heap.size, 1, none⟩ = some (.string kb) ∧ W.cell? ⟨w.heap.size, 2, none⟩ = some (.int .i64 per) ∧ W.cell? ⟨w.heap.size, 3, none⟩ = some (.slice na r ncap)) := fun W hW => ⟨cell_later hW HX2.out.c0, cell_later hW HX2.out.c1, cell_later hW HX2.out.c2, cell_later hW HX2.out.c3⟩
 have HTr : Hid (∀ W, Below w3.heap.size w3 W → Below w.heap.size w W) := fun W hW => HB2.out.trans (hW.mono HB2.out.size)
 have HD3 : Hid (Below w3.heap.size w3 w3.drew) := below_drewN (Below.refl _ _) 1
 go_cut [31] (fun s31 wx => s31 = .bool false ∧ Below w3.heap.size w3 wx)
 case first =>
  go_region_held3 (fun w' => w'.cell? ⟨w.heap.size, 0, none⟩ = some (.slice ca m ccap) ∧ w'.cell? ⟨w.heap.size, 1, none⟩ = some (.string kb) ∧ w'.cell? ⟨w.heap.size, 2, none⟩ = some (.int .i64 per) ∧ w'.cell? ⟨w.heap.size, 3, none⟩ = some (.slice na r ncap))
   (first | exact hS | exact HSb.out _ HD3.out)
   (first
   | (go_at_call 11; refine (HOg.out _ (HTr.out _ (by first | exact HD3.out | exact HB8.out))).mono ?_; rintro e w6 ⟨c6, k6, n6, m6, rfl, hg6, hb6⟩; have HB6 : Hid (Below w3.heap.size w3 w6) := (by first | exact HD3.out.trans (hb6.mono HD3.out.size) | exact HB8.out.trans (hb6.mono HB8.out.size)); have hS := HSb.out w6 HB6.out; have HG6 : Hid (GateLies w6 c6 k6 cs n6 m6 ns) := hg6; clear hg6 hb6)
   | (go_at_call 28; refine (HCk.out _ c6 k6 n6 m6 (HTr.out _ (by first | exact HB6.out | exact HB8.out)) (by first | exact HG6.out | exact HG6.out.below HS8.out)).mono ?_; rintro e w7 ⟨E7, rfl, hE7, hb7⟩; have HB7 : Hid (Below w3.heap.size w3 w7) := (by first | exact HB6.out.trans (hb7.mono HB6.out.size) | exact HB8.out.trans (hb7.mono HB8.out.size)); have hS := HSb.out w7 HB7.out; have HX7 : Hid (ErrIs w7 E7 gc gp) := hE7; clear hE7 hb7)
   | (go_at_call 12; refine (HGf.out _ (HTr.out _ (by first | exact HB7.out | exact HB6.out | exact HD3.out))).mono ?_; rintro e w8 ⟨rfl, hb8⟩; have HB8 : Hid (Below w3.heap.size w3 w8) := (by first | exact HB7.out.trans (hb8.mono HB7.out.size) | exact HB6.out.trans (hb8.mono HB6.out.size) | exact HD3.out.trans (hb8.mono HD3.out.size)); have hS := HSb.out w8 HB8.out; have HS8 := (show Hid _ from hb8); clear hb8)
   | (go_at_call 13; refine (faulted_yes E7 gc gp _ (by first | exact HX7.out.code | exact HX7.out.code.below HS8.out)).mono ?_; rintro e w9 ⟨rfl, hb9⟩; have HB9 : Hid (Below w3.heap.size w3 w9) := (by first | exact HB7.out.trans (hb9.mono HB7.out.size) | exact HB8.out.trans (hb9.mono HB8.out.size)); have hS := HSb.out w9 HB9.out; clear hb9))
  all_goals (go_wp2_with fail; go_meet; exact ⟨rfl, HB9.out⟩)
 case rest =>
 obtain ⟨rfl, hbc⟩ := hcut
 have HBc : Hid (Below w.heap.size w wc) := HTr.out wc hbc
 obtain ⟨y0, y1, y2, y3⟩ := HSb.out wc hbc
 have HXc : Hid (GateAt wc w.heap.size (.slice ca m ccap) kb per (.slice na r ncap)) := HX2.out.later hbc
 obtain ⟨c, p, hri⟩ := runIs_is cs (kindOf_le kb.toList) per ns ps
 have HRi : Hid (RunIs cs (kindOf kb.toList) per ns ps c p) := hri
 clear hbc x0 x1 x2 x3 hri
 go_wp2_with fail
 refine (HOg.out _ HBc.out).mono ?_
 rintro e w6 ⟨c6, k6, n6, m6, rfl, hg6, hb6⟩
 have HB6 : Hid (Below w.heap.size w w6 ∧ GateLies w6 c6 k6 cs n6 m6 ns ∧ GateAt w6 w.heap.size (.slice ca m ccap) kb per (.slice na r ncap)) := ⟨HBc.out.trans (hb6.mono HBc.out.size), hg6, HXc.out.later hb6⟩
 clear hg6 hb6 y0 y1 y2 y3
 go_wp2_with fail
 refine (HOp2.out _ HB6.out.1).mono ?_
 rintro e w7 ⟨a7, k7, rfl, hp7, hb7⟩
 have HB7 : Hid (Below w.heap.size w w7 ∧ GateLies w7 c6 k6 cs n6 m6 ns ∧ PksLie w7 a7 k7 ps ∧ GateAt w7 w.heap.size (.slice ca m ccap) kb per (.slice na r ncap)) := ⟨HB6.out.1.trans (hb7.mono HB6.out.1.size), HB6.out.2.1.below hb7, hp7, HB6.out.2.2.later hb7⟩
 clear hp7 hb7
 by_cases hc : 0 < c
 ·
  have HRun : Hid (Calls Tryz.prog 19 #[.agg #[.slice c6 m k6, .string kb, .int .i64 per, .slice n6 r m6], .slice a7 n k7] w7 fun e w' => GateBad c p w7 e w') := by
   have := HGW.out.bad c6 k6 cs kb per n6 m6 ns a7 k7 ps w7 ad c p (HGl.out.1.below HB7.out.1) HB7.out.2.1 HB7.out.2.2.1 HRi.out hc
   rwa [HM.out.1, HM.out.2.1, HM.out.2.2] at this
  have HRef : Hid (∀ W, Below w.heap.size w W → Calls Tryz.prog 29 #[.agg #[.slice ca m ccap, .string kb, .int .i64 per, .slice na r ncap], .slice pa n pcap] W fun e w' => RunBad c p W e w') := fun W hb => by
   have := refRunOf_bad ca ccap cs kb per na ncap ns pa pcap ps W c p (HGl.out.2.1.below hb) (HGl.out.2.2.below hb) HRi.out hc
   rwa [HM.out.1, HM.out.2.1, HM.out.2.2] at this
  go_wp2_with fail
  refine HRun.out.mono ?_
  rintro e w8 ⟨qa, qcap, la, lcap, E, rfl, hE, hb8⟩
  have HB8 : Hid (Below w.heap.size w w8 ∧ ErrIs w8 E c p) := ⟨HB7.out.1.trans (hb8.mono HB7.out.1.size), hE⟩
  obtain ⟨y0, y1, y2, y3⟩ := HB7.out.2.2.2.later hb8
  clear hb8 hE
  go_wp2_with fail
  refine (HRef.out _ HB8.out.1).mono ?_
  rintro e w9 ⟨rfl, hb9⟩
  have hbA : Below w8.heap.size w8 (w9.alloc (.cells #[.int .i64 c, .int .i64 p] 35)) := hb9.alloc hb9.size _
  obtain ⟨f0, f1, -, -⟩ := at2_new w9 (.int .i64 c) (.int .i64 p) 35
  have HBA : Hid (Below w.heap.size w (w9.alloc (.cells #[.int .i64 c, .int .i64 p] 35)) ∧ CodeIs (w9.alloc (.cells #[.int .i64 c, .int .i64 p] 35)) E c p) := ⟨HB8.out.1.trans (hbA.mono HB8.out.1.size), HB8.out.2.code.below hbA⟩
  clear hb9 hbA y0 y1 y2 y3
  go_wp2_with fail
  refine (faulted_yes E c p _ HBA.out.2).mono ?_
  rintro e wB ⟨rfl, hbB⟩
  have HBB : Hid (Below w.heap.size w wB) := HBA.out.1.trans (hbB.mono HBA.out.1.size)
  clear hbB
  go_wp2_with fail
  refine (samePkts_any qa none qcap 0 [] [] _ (.inl rfl) (.inl rfl) rfl (by decide)).mono ?_
  rintro e wC ⟨rfl, hbC⟩
  have HBC : Hid (Below w.heap.size w wC) := HBB.out.trans (hbC.mono HBB.out.size)
  have hsb : sameB [] [] = true := rfl
  rw [hsb]
  clear hbC
  go_wp2_with fail
  refine (sameSent_yes la none lcap 0 [] _ (.inl rfl) (.inl rfl) (by decide)).mono ?_
  rintro e wD ⟨rfl, hbD⟩
  have HBD : Hid (Below w.heap.size w wD) := HBC.out.trans (hbD.mono HBC.out.size)
  clear hbD
  go_wp2_with fail
  go_ret
  exact ⟨rfl, HBD.out⟩
 ·
  have hok : GateOk cs (kindOf kb.toList) per ns ∧ OkPks ps ∧ ∀ i, ¬ NeverAt (curveFl cs) ps i := by
   rcases HRi.out with ⟨-, h⟩ | ⟨-, -, h⟩ | ⟨-, -, i, -, -, h, -⟩ | ⟨h1, h2, h3, -, -⟩
   · exact absurd h hc
   · exact absurd h hc
   · omega
   · exact ⟨h1, h2, h3⟩
  have HOk : Hid (GateOk cs (kindOf kb.toList) per ns ∧ OkPks ps ∧ ∀ i, ¬ NeverAt (curveFl cs) ps i) := hok
  have HRun : Hid (Calls Tryz.prog 19 #[.agg #[.slice c6 m k6, .string kb, .int .i64 per, .slice n6 r m6], .slice a7 n k7] w7 fun e w' => GateGood cs (kindOf kb.toList) per ns ps w7 e w') := by
   have := HGW.out.good c6 k6 cs kb per n6 m6 ns a7 k7 ps w7 ad (HGl.out.1.below HB7.out.1) HB7.out.2.1 HB7.out.2.2.1 hok.1 hok.2.1 hok.2.2
   rwa [HM.out.1, HM.out.2.1, HM.out.2.2] at this
  have HRef : Hid (∀ W, Below w.heap.size w W → Calls Tryz.prog 29 #[.agg #[.slice ca m ccap, .string kb, .int .i64 per, .slice na r ncap], .slice pa n pcap] W fun e w' => RunEnd (curveFl cs) (kindOf kb.toList) per ns ps W e w') := fun W hb => by
   have := refRunOf_main ca ccap cs kb per na ncap ns pa pcap ps W (HGl.out.2.1.curves.below hb) (HGl.out.2.1.nums.below hb) (by have := HGl.out.2.1.slim.nums; omega) (HGl.out.2.2.pks.below hb) HGl.out.2.2.cap HGl.out.2.2.max hok.2.1 hok.1
   rwa [HM.out.1, HM.out.2.1, HM.out.2.2] at this
  clear hok hc
  go_wp2_with fail
  refine HRun.out.mono ?_
  rintro e w8 ⟨qa, qcap, la, lcap, qs, l, rfl, hq, hl, hrun, hb8⟩
  have HB8 : Hid (Below w.heap.size w w8 ∧ PksLie w8 qa qcap qs ∧ SntLie w8 la lcap l ∧ GateRun (curveFl cs) (kindOf kb.toList) per ns ps qs l) := ⟨HB7.out.1.trans (hb8.mono HB7.out.1.size), hq, hl, hrun⟩
  obtain ⟨y0, y1, y2, y3⟩ := HB7.out.2.2.2.later hb8
  obtain ⟨ql, hql⟩ : ∃ q, qs.length = q := ⟨_, rfl⟩
  obtain ⟨ll, hll⟩ : ∃ q, l.length = q := ⟨_, rfl⟩
  have HLl : Hid (qs.length = ql ∧ l.length = ll) := ⟨hql, hll⟩
  rw [hql, hll]
  clear hb8 hq hl hrun hql hll
  go_wp2_with fail
  refine (HRef.out _ HB8.out.1).mono ?_
  rintro e w9 ⟨hb9, ⟨i, h1, -, -⟩ | ⟨-, qv, lv, qs', l', rfl, hq', hl', hrun'⟩⟩
  · exact absurd h1 (HOk.out.2.2 i)
  obtain ⟨rfl, rfl⟩ := HB8.out.2.2.2.same HOk.out.2.1 hrun'
  have hlen := HB8.out.2.2.2.ok HOk.out.2.1 HOk.out.1.curves.ok
  have hfew := hlen.1.few
  have hll2 := (hlen.2.2.may HOk.out.1.nums hlen.1 HOk.out.1.per.1).2.2
  obtain ⟨qa2, qc2, rfl, -, -, hqL, -, -⟩ := OwnP.open hq'
  obtain ⟨la2, lc2, rfl, -, -, hlL, -, -⟩ := OwnS.open hl'
  have hbA : Below w9.heap.size w9 (w9.alloc (.cells #[.int .i64 0, .int .i64 (-1)] 35)) := (Below.refl _ _).alloc (Nat.le_refl _) _
  have hbB : Below w8.heap.size w8 (w9.alloc (.cells #[.int .i64 0, .int .i64 (-1)] 35)) := hb9.trans (hbA.mono hb9.size)
  obtain ⟨f0, f1, -, -⟩ := at2_new w9 (.int .i64 0) (.int .i64 (-1)) 35
  have HBA : Hid (Below w.heap.size w (w9.alloc (.cells #[.int .i64 0, .int .i64 (-1)] 35)) ∧ (LiesP (w9.alloc (.cells #[.int .i64 0, .int .i64 (-1)] 35)) qa qs ∧ LiesP (w9.alloc (.cells #[.int .i64 0, .int .i64 (-1)] 35)) qa2 qs) ∧ (LiesS (w9.alloc (.cells #[.int .i64 0, .int .i64 (-1)] 35)) la l ∧ LiesS (w9.alloc (.cells #[.int .i64 0, .int .i64 (-1)] 35)) la2 l) ∧ qs.length ≤ 1000 ∧ l.length ≤ 1000) := ⟨HB8.out.1.trans (hbB.mono HB8.out.1.size), ⟨HB8.out.2.1.pks.below hbB, hqL.below hbA⟩, ⟨HB8.out.2.2.1.sent.below hbB, hlL.below hbA⟩, by omega, by omega⟩
  have HSp : Hid (∀ W, Below (w9.alloc (.cells #[.int .i64 0, .int .i64 (-1)] 35)).heap.size (w9.alloc (.cells #[.int .i64 0, .int .i64 (-1)] 35)) W → Calls Tryz.prog 26 #[.slice qa ql qcap, .slice qa2 ql qc2] W fun e w' => e = .returned (.bool true) ∧ Below W.heap.size W w') := fun W hW => by
   have := samePkts_any qa qa2 qcap qc2 qs qs W (HBA.out.2.1.1.below hW) (HBA.out.2.1.2.below hW) rfl HBA.out.2.2.2.1
   rwa [HLl.out.1, (sameB_iff qs qs).2 rfl] at this
  have HSs : Hid (∀ W, Below (w9.alloc (.cells #[.int .i64 0, .int .i64 (-1)] 35)).heap.size (w9.alloc (.cells #[.int .i64 0, .int .i64 (-1)] 35)) W → Calls Tryz.prog 27 #[.slice la ll lcap, .slice la2 ll lc2] W fun e w' => e = .returned (.bool true) ∧ Below W.heap.size W w') := fun W hW => by
   have := sameSent_yes la la2 lcap lc2 l W (HBA.out.2.2.1.1.below hW) (HBA.out.2.2.1.2.below hW) HBA.out.2.2.2.2
   rwa [HLl.out.2] at this
  rw [HLl.out.1, HLl.out.2]
  clear hb9 hq' hl' hrun' hlen hfew hll2 hqL hlL hbA hbB y0 y1 y2 y3
  go_wp2_with fail
  refine (faulted_yes .nilIface 0 (-1) _ (codeIs_nil _)).mono ?_
  rintro e wB ⟨rfl, hbB⟩
  have HBB : Hid (Below (w9.alloc (.cells #[.int .i64 0, .int .i64 (-1)] 35)).heap.size (w9.alloc (.cells #[.int .i64 0, .int .i64 (-1)] 35)) wB) := hbB
  clear hbB
  go_wp2_with fail
  refine (HSp.out _ HBB.out).mono ?_
  rintro e wC ⟨rfl, hbC⟩
  have HBC : Hid (Below (w9.alloc (.cells #[.int .i64 0, .int .i64 (-1)] 35)).heap.size (w9.alloc (.cells #[.int .i64 0, .int .i64 (-1)] 35)) wC) := HBB.out.trans (hbC.mono HBB.out.size)
  clear hbC
  go_wp2_with fail
  refine (HSs.out _ HBC.out).mono ?_
  rintro e wD ⟨rfl, hbD⟩
  have HBD : Hid (Below w.heap.size w wD) := HBA.out.1.trans ((HBC.out.trans (hbD.mono HBC.out.size)).mono HBA.out.1.size)
  clear hbD
  go_wp2_with fail
  go_ret
  exact ⟨rfl, HBD.out⟩
end
end Go.Proofs.YtnomdlclkpnjpaaGreatDoor

namespace Go.Proofs.YtnomdlclkpnjpaaGreatDoor
open Go.RowKit
section
variable (ca : Option Addr) (ccap : Nat) (cs : List (List (Int × Int))) (kb : ByteArray) (per : Int) (na : Option Addr) (ncap : Nat) (ns : List Int) (pa : Option Addr) (pcap : Nat) (n : Nat) (w : World) (ad : Nat → Addr)
set_option maxRecDepth 100000 in
set_option maxHeartbeats 4000000 in
theorem gateRuns_out (GW : GateWalks) (he : Errs9 w ad) (hg : GateRaw w ca ccap cs na ncap ns) (h : ¬ Slim cs ns ∨ ¬ (n ≤ 60 ∨ n = 301)) :
  Calls Tryz.prog 7 #[.agg #[.slice ca cs.length ccap, .string kb, .int .i64 per, .slice na ns.length ncap], .slice pa n pcap] w fun e w' => e = .returned (.bool true) ∧ Below w.heap.size w w' := by
 have HOp : Hid (∀ W, Below w.heap.size w W → Calls Tryz.prog 8 #[] W fun e w' => e = .returned (.bool true) ∧ Below W.heap.size W w') := fun W hb => opens_by GW W ad (he.below hb)
 have HWi : Hid (∀ W, Below w.heap.size w W → Calls Tryz.prog 9 #[.agg #[.slice ca cs.length ccap, .string kb, .int .i64 per, .slice na ns.length ncap]] W fun e w' => WideEnd cs ns W e w') := fun W hb => wide_any ca ccap cs kb per na ncap ns W (hg.curves.below hb) hg.cfit hg.cmax hg.nfit hg.nmax
 have HFit : Hid (Slim cs ns → ∀ w', Calls Tryz.prog 18 #[.slice pa n pcap, .int .i64 60] w' fun e w'' => e = .returned (.bool false) ∧ w'' = w') := fun hs w' => by
  rcases h with h | h
  · exact absurd hs h
  · exact fitPkts_no pa n pcap 60 w' (by omega) (by omega)
 have hb1 : Below w.heap.size w (w.alloc (.cells #[.slice ca cs.length ccap, .string kb, .int .i64 per, .slice na ns.length ncap] 25)) := (Below.refl _ _).alloc (Nat.le_refl _) _
 have hga := gateAt_new w (.slice ca cs.length ccap) kb per (.slice na ns.length ncap) 25
 obtain ⟨V, hV⟩ : ∃ V, w.alloc (.cells #[.slice ca cs.length ccap, .string kb, .int .i64 per, .slice na ns.length ncap] 25) = V := ⟨_, rfl⟩
 rw [hV] at hb1 hga
 have HV : Hid (Below w.heap.size w V ∧ GateAt V w.heap.size (.slice ca cs.length ccap) kb per (.slice na ns.length ncap)) := ⟨hb1, hga⟩
 obtain ⟨m, hm⟩ : ∃ m, cs.length = m := ⟨_, rfl⟩
 obtain ⟨r, hr⟩ : ∃ r, ns.length = r := ⟨_, rfl⟩
 rw [hm, hr] at HWi HV hV
 rw [hm, hr]
 clear he hg hb1 hga hm hr GW h
 go_enter Tryz.func7, Tryz.ntmps7
 go_wp2_with fail
 refine (HOp.out _ HV.out.1).mono ?_
 rintro e w1 ⟨rfl, hb⟩
 have HB1 : Hid (Below w.heap.size w w1) := HV.out.1.trans (hb.mono HV.out.1.size)
 obtain ⟨x0, x1, x2, x3⟩ := HV.out.2.later hb
 clear hb hV
 go_wp2_with fail
 refine (HWi.out _ HB1.out).mono ?_
 rintro e w2 ⟨rfl | ⟨rfl, hs⟩, hb⟩
 ·
  have HB2 : Hid (Below w.heap.size w w2) := HB1.out.trans (hb.mono HB1.out.size)
  clear hb
  go_wp2_with fail
  go_ret
  exact ⟨rfl, HB2.out⟩
 have HB2 : Hid (Below w.heap.size w w2) := HB1.out.trans (hb.mono HB1.out.size)
 have HF : Hid (∀ w', Calls Tryz.prog 18 #[.slice pa n pcap, .int .i64 60] w' fun e w'' => e = .returned (.bool false) ∧ w'' = w') := HFit.out hs
 clear hb hs x0 x1 x2 x3
 go_wp2_with fail
 refine (HF.out _).mono ?_
 rintro e w3 ⟨rfl, rfl⟩
 go_wp2_with fail
 go_ret
 exact ⟨rfl, HB2.out⟩
end
theorem gateRuns_any (GW : GateWalks) (ca : Option Addr) (ccap : Nat) (cs : List (List (Int × Int))) (kb : ByteArray) (per : Int) (na : Option Addr) (ncap : Nat) (ns : List Int) (pa : Option Addr) (pcap : Nat) (ps : List Pk) (w : World) (ad : Nat → Addr) (he : Errs9 w ad) (hg : GateRaw w ca ccap cs na ncap ns) (hp : PksLie w pa pcap ps) :
  Calls Tryz.prog 7 #[.agg #[.slice ca cs.length ccap, .string kb, .int .i64 per, .slice na ns.length ncap], .slice pa ps.length pcap] w fun e w' => e = .returned (.bool true) ∧ Below w.heap.size w w' := by
 by_cases hs : Slim cs ns
 ·
  by_cases hfit : ps.length ≤ 60 ∨ ps.length = 301
  · exact gateRuns_main ca ccap cs kb per na ncap ns pa pcap ps w ad GW he (hg.lies hs) hp hfit
  · exact gateRuns_out ca ccap cs kb per na ncap ns pa pcap _ w ad GW he hg (.inr hfit)
 · exact gateRuns_out ca ccap cs kb per na ncap ns pa pcap _ w ad GW he hg (.inl hs)
end Go.Proofs.YtnomdlclkpnjpaaGreatDoor

namespace Go.Proofs.YtnomdlclkpnjpaaGreatDoor
open Go.ChangeShapes Go.WideShapes Go.ChangeAt Go.RowKit
theorem Tryz.own : ownKnob Tryz.prog.godebug = none := by kernel_rfl
theorem Tryz.laidOut : laidOutB Tryz.prog = true := by kernel_rfl
theorem Tryz.cellsInt : Tryz.prog.cellsOf 3 = 1 := by kernel_rfl
theorem Tryz.cellsES : Tryz.prog.cellsOf 281 = 1 := by kernel_rfl
theorem Tryz.cellsStr : Tryz.prog.cellsOf 9 = 1 := by kernel_rfl
def nameES : String := match (Rows.laid_floodgate_api_ErrBound : DataW Unit) with | .iface n _ => n | _ => "none"
theorem rows_star {P : Program} {tp : TypeId} {s : String} (hs : s = nameES) (h : ((List.range P.types.size).all fun u => P.typeName? 3 u != some nameES || u == tp) = true) : ((List.range P.types.size).all fun u => P.typeName? 3 u != some s || u == tp) = true := by
 rw [hs]
 exact h
theorem Tryz.rowPES (u : TypeId) (h : Tryz.prog.typeName? 3 u = some nameES) : u = 261 :=
 typeName_ptr_named (P := Tryz.prog) (nm := "errors.errorString") (tp := 261) (rows_star (by decide) (by kernel_rfl)) (by kernel_rfl) (by decide) u (h.trans (congrArg some (by decide)))
set_option maxRecDepth 100000 in
theorem sentinel_of_laid {n nm : String} {text : List UInt8} {r : List (String × DataW Unit)} {W : World} {g : Nat}
  (h : laidMet Tryz.prog ((n, .iface nm (.ptr (.agg [.lit (.string text)]))) :: r) W)
  (hnm : nm = nameES) (hg : Tryz.prog.globalNamed n = some g) (ht : (Tryz.prog.globals[g]?).map (·.type) = some 29) :
  ∃ (a : Addr) (s : ByteArray), W.cell? ⟨g, 0, none⟩ = some (.iface 261 (.pointer (some a))) ∧ W.cell? a = some (.string s) ∧ s.data.toList = text ∧ ∃ c t, W.heap[a.block]? = some (.cells c t (0, 0)) := by
 obtain ⟨ps, ⟨g0, t0, cs0, f0, p0, q0, hg0, ht0, hv0, hd0, _, e0⟩, _, hrows⟩ := h
 obtain rfl := Option.some.inj (hg.symm.trans hg0)
 obtain rfl := Option.some.inj (ht.symm.trans ht0)
 subst e0
 obtain ⟨l0⟩ := cs0
 have ok0 : ∀ u v, l0 = [.iface u v] → Value.okWide Tryz.prog W .any 0 u v := fun u v e => by
  subst e
  exact (hrows g 0 (by simp [MemPlace.row])).2 u v (by simpa using World.var?_cell hg0 hv0 0)
 obtain ⟨a0, s0, rfl, hc0, hs0, hz0, rfl⟩ := errorString_of_trod Tryz.underlying29 (fun u hu => Tryz.rowPES u (by rw [← hnm]; exact hu)) Tryz.underlying261 Tryz.underlying281 rfl rfl Tryz.underlying9 Tryz.cellsES Tryz.cellsStr hd0 ok0
 exact ⟨a0, s0, by simpa using World.var?_cell hg0 hv0 0, hc0, hs0, (hrows a0.block a0.off (by simp [MemPlace.row])).1⟩
end Go.Proofs.YtnomdlclkpnjpaaGreatDoor

namespace Go.Proofs.YtnomdlclkpnjpaaGreatDoor
open Go.ChangeShapes Go.WideShapes Go.ChangeAt Go.RowKit Go.Deep
theorem open_slice_three {H : Type} {enc : TypeId × Value → H} {P : Program} {w : World} {base : Nat} {spare : Nat → Bool} {held : Bool} {t e : TypeId} {f0 f1 f2 : Field} {fuel : Nat} {cs : List Value} {x : DataW H × List MemPlace}
  (ht : P.underlying t = some (.slice e)) (he : P.underlying e = some (.struct #[f0, f1, f2])) (ce : P.cellsOf e = 3) (o0 : f0.offset = 0) (o1 : f1.offset = 1) (o2 : f2.offset = 2) (c0 : P.cellsOf f0.type = 1) (c1 : P.cellsOf f1.type = 1) (c2 : P.cellsOf f2.type = 1)
  (h : DataW.trod enc P w base spare held fuel t cs = some x) :
  cs = [.slice none 0 0] ∨
  ∃ (a : Addr) (len cap n : Nat), cs = [.slice (some a) len cap] ∧ len ≤ cap ∧ cap ≤ maxLen ∧
   ∀ i, i < len → ∃ (v0 v1 v2 : Value) (y0 y1 y2 : DataW H × List MemPlace), w.cell? (a.add (i * 3)) = some v0 ∧ w.cell? (a.add (i * 3 + 1)) = some v1 ∧ w.cell? (a.add (i * 3 + 2)) = some v2 ∧
    DataW.trod enc P w base spare held n f0.type [v0] = some y0 ∧ DataW.trod enc P w base spare held n f1.type [v1] = some y1 ∧ DataW.trod enc P w base spare held n f2.type [v2] = some y2 := by
 rcases open_slice ht h with h0 | ⟨a, len, cap, m, n, D, Pl, rfl, hb, hl, hm, hmm, -, hx⟩
 · exact .inl h0.1
 right
 have hlm : len ≤ m := by rw [hmm]; split <;> omega
 refine ⟨a, len, cap, n - 1, rfl, hl, hm, fun i hi => ?_⟩
 obtain ⟨cs', h1, h2⟩ := hx i (by omega)
 rw [ce] at h1
 obtain ⟨_, hlen, hcell⟩ := World.cells?_some h1
 obtain ⟨xs, k, hk, hxy, _, hxl, hf⟩ := DataW.trod_struct he h2
 have hk' : k = n - 1 := by omega
 subst hk'
 match xs, hxl, cs', hlen with
 | [y0, y1, y2], _, [v0, v1, v2], _ =>
  have g0 := hf 0 f0 rfl
  have g1 := hf 1 f1 rfl
  have g2 := hf 2 f2 rfl
  simp [o0, o1, o2, c0, c1, c2] at g0 g1 g2
  have e0 := hcell 0 (by omega)
  have e1 := hcell 1 (by omega)
  have e2 := hcell 2 (by omega)
  rw [add_add] at e0 e1 e2
  exact ⟨v0, v1, v2, y0, y1, y2, by simpa using e0, by simpa using e1, by simpa using e2, g0, g1, g2⟩
theorem Tryz.cellsPkt : Tryz.prog.cellsOf 52 = 3 := by kernel_rfl
set_option maxRecDepth 100000 in
theorem open_pkts {H : Type} {enc : TypeId × Value → H} {W : World} {base : Nat} {v : Value} {d : DataW H} {p : List MemPlace} (hv : Value.okWide Tryz.prog W .any base 43 v)
  (h : DataW.Trod enc Tryz.prog W 0 (fun _ => true) true 43 v d p) :
  ∃ a cap ps, v = .slice a ps.length cap ∧ LiesP W a ps ∧ ps.length ≤ cap ∧ cap ≤ maxLen ∧ (a = none → ps = [] ∧ cap = 0) := by
 obtain ⟨a0, len0, cap0, rfl⟩ := okWide_slice Tryz.underlying43 hv
 obtain ⟨fuel, hf⟩ := h
 rcases open_slice_three Tryz.underlying43 Tryz.underlying52 Tryz.cellsPkt rfl rfl rfl Tryz.cellsInt Tryz.cellsInt Tryz.cellsInt hf with hcs | ⟨x, l, c, n, hcs, hl, hm, hcell⟩
 ·
  simp [Value.cells] at hcs
  obtain ⟨rfl, rfl, rfl⟩ := hcs
  exact ⟨none, 0, [], rfl, .inl rfl, by simp, by simp [maxLen], fun _ => ⟨rfl, rfl⟩⟩
 ·
  simp [Value.cells] at hcs
  obtain ⟨rfl, rfl, rfl⟩ := hcs
  have each : ∀ i, i < len0 → ∃ q : Int × Int × Int, W.cell? (x.add (i * 3)) = some (.int .i64 q.1) ∧ W.cell? (x.add (i * 3 + 1)) = some (.int .i64 q.2.1) ∧ W.cell? (x.add (i * 3 + 2)) = some (.int .i64 q.2.2) := by
   intro i hi
   obtain ⟨v0, v1, v2, y0, y1, y2, h0, h1, h2, g0, g1, g2⟩ := hcell i hi
   obtain ⟨k0, e0, _, _⟩ := DataW.trod_int Tryz.underlying3 g0
   obtain ⟨k1, e1, _, _⟩ := DataW.trod_int Tryz.underlying3 g1
   obtain ⟨k2, e2, _, _⟩ := DataW.trod_int Tryz.underlying3 g2
   simp at e0 e1 e2
   subst e0 e1 e2
   exact ⟨(k0, k1, k2), h0, h1, h2⟩
  obtain ⟨q, hq⟩ := choose_lt each
  refine ⟨some x, cap0, (List.range len0).map fun i => ⟨(q i).1, (q i).2.1, (q i).2.2⟩, by simp, ?_, by simpa using hl, hm, fun h => by cases h⟩
  by_cases h0 : len0 = 0
  · subst h0; exact .inl (by simp)
  ·
   obtain ⟨b, off, spot⟩ := x
   have hc0 := (hq 0 (by omega)).1
   have hspot : spot = none := by simpa [Addr.add] using World.cell?_spot hc0
   subst hspot
   refine .inr ⟨b, off, rfl, by simpa [Addr.add] using cell_lt hc0, fun i p hi => ?_⟩
   have hil : i < len0 := by
    rcases Nat.lt_or_ge i len0 with h | h
    · exact h
    · simp [h] at hi
   simp [hil] at hi
   subst hi
   obtain ⟨h0, h1, h2⟩ := hq i hil
   rw [Addr.add_lit] at h0 h1 h2
   exact ⟨h0, by rw [Nat.add_assoc]; exact h1, by rw [Nat.add_assoc]; exact h2⟩
end Go.Proofs.YtnomdlclkpnjpaaGreatDoor
