/- Proved: for every gate and every slice of packets, the call of floodgatelaw3.GateRuns returns true (what goes through is what the document's answer tells), and each argument reads afterwards as it read before. Conditions: the row's own (the listed variables (the nine errors, and package errors' own type) read as the program's text lays them, which the card ties). -/
import Derived.Deep.RegionHeld3
import Derived.Deep.DeepCutAuto
import Derived.Test.YtibhkijaafdkoaaGreatDoorR18
import Derived.Test.YtibhkijaafdkoaaGreatDoorR02
import Derived.Test.YtibhkijaafdkoaaGreatDoorR32
import Derived.Test.YtibhkijaafdkoaaGreatDoorR17
import Derived.Test.YtibhkijaafdkoaaGreatDoorR27
import Derived.Test.YtibhkijaafdkoaaGreatDoorR26
import Derived.Test.YtibhkijaafdkoaaGreatDoorTie
import Derived.ProofKit
import Derived.OpenShut
import Derived.ShutString
import Derived.ChangeOld
import Derived.ChangeVars
import Derived.Deep.SlicePairs
import Derived.Lib.SmallJoins
import Derived.LaidMore
import Derived.LaidLaws
import Derived.LaidHandle
import Derived.Stop.LaidErr
import Derived.Stop.Joined
import Derived.Test.YtibhkijaafdkoaaGreatDoorR01
import Derived.Deep.Slices
import Derived.Test.YtibhkijaafdkoaaGreatDoorR07
import Derived.Test.YtibhkijaafdkoaaGreatDoorR06
import Derived.Test.YtibhkijaafdkoaaGreatDoorCards
namespace Go.Proofs.YtibhkijaafdkoaaGreatDoor
open Go.RowKit
theorem refRunOf_bad (ca : Option Addr) (ccap : Nat) (cs : List (List (Int × Int))) (kb : ByteArray) (per : Int) (na : Option Addr) (ncap : Nat) (ns : List Int) (pa : Option Addr) (pcap : Nat) (ps : List Pk) (w : World) (c p : Int) (hg : GateLies w ca ccap cs na ncap ns) (hp : PksLie w pa pcap ps) (h : RunIs cs (kindOf kb.toList) per ns ps c p) (h0 : 0 < c) :
  Calls Tryz.prog 30 #[.agg #[.slice ca cs.length ccap, .string kb, .int .i64 per, .slice na ns.length ncap], .slice pa ps.length pcap] w fun e w' => RunBad c p w e w' := by
 have hs := hg.slim
 have hc20 := hs.curves
 have hn30 := hs.nums
 rcases h with ⟨h, -⟩ | ⟨hok, h, -⟩ | ⟨hok, ho, i, h1, h2, rfl, rfl⟩ | ⟨-, -, -, h, -⟩
 · exact refRunOf_gate ca _ ccap kb per na _ ncap pa _ pcap w c p h0 fun W hb => refGateFault_is ca ccap cs kb per na ncap ns W c p (hg.curves.below hb) (by omega) (hg.nums.below hb) (by omega) h
 · exact refRunOf_pks ca _ ccap kb per na _ ncap pa _ pcap w c p h0 (fun W hb => refGateFault_is ca ccap cs kb per na ncap ns W 0 (-1) (hg.curves.below hb) (by omega) (hg.nums.below hb) (by omega) (.inr (.inr ⟨hok.len, hok.curves, rfl, .inr ⟨hok.kind.1, hok.kind.2, .inr ⟨hok.per.1, hok.per.2, 0, hok.nums, rfl⟩⟩⟩))) (fun W hb => pfault_is pa pcap ps W (hp.pks.below hb) hp.cap hp.max c p h)
 ·
  refine (refRunOf_main ca ccap cs kb per na ncap ns pa pcap ps w hg.curves hg.nums (by omega) hp.pks hp.cap hp.max ho hok).mono ?_
  rintro e w' ⟨hb, ⟨j, j1, j2, rfl⟩ | ⟨hno, -⟩⟩
  ·
   have : i = j := by
    rcases Nat.lt_trichotomy i j with h | h | h
    · exact absurd h1 (j2 i h)
    · exact h
    · exact absurd j1 (h2 j h)
   rw [this]
   exact ⟨rfl, hb⟩
  · exact absurd h1 (hno i)
 · omega
section
variable (ca : Option Addr) (ccap : Nat) (cs : List (List (Int × Int))) (kb : ByteArray) (per : Int) (na : Option Addr) (ncap : Nat) (ns : List Int) (pa : Option Addr) (pcap : Nat) (ps : List Pk) (w : World) (ad : Nat → Addr)
set_option maxRecDepth 100000 in
set_option maxHeartbeats 4000000 in
theorem gateRuns_main (GW : GateWalks) (he : Errs9 w ad) (hg : GateLies w ca ccap cs na ncap ns) (hp : PksLie w pa pcap ps) (hfit : ps.length ≤ 60 ∨ ps.length = 301) :
  Calls Tryz.prog 7 #[.agg #[.slice ca cs.length ccap, .string kb, .int .i64 per, .slice na ns.length ncap], .slice pa ps.length pcap] w fun e w' => e = .returned (.bool true) ∧ Below w.heap.size w w' := by
 have HOp : Hid (∀ W, Below w.heap.size w W → Calls Tryz.prog 9 #[] W fun e w' => e = .returned (.bool true) ∧ Below W.heap.size W w') := fun W hb => opens_by GW W ad (he.below hb)
 have HWi : Hid (∀ W, Below w.heap.size w W → Calls Tryz.prog 10 #[.agg #[.slice ca cs.length ccap, .string kb, .int .i64 per, .slice na ns.length ncap]] W fun e w' => WideEnd cs ns W e w') := fun W hb => wide_any ca ccap cs kb per na ncap ns W (hg.curves.below hb) hg.cfit hg.cmax hg.nfit hg.nmax
 have HFit : Hid (∀ w', Calls Tryz.prog 19 #[.slice pa ps.length pcap, .int .i64 60] w' fun e w'' => e = .returned (.bool true) ∧ w'' = w') := fun w' => fitPkts_yes pa ps.length pcap 60 w' (Nat.le_trans hp.cap hp.max) (by omega)
 have HOg : Hid (∀ W, Below w.heap.size w W → Calls Tryz.prog 12 #[.agg #[.slice ca cs.length ccap, .string kb, .int .i64 per, .slice na ns.length ncap]] W fun e w' => ∃ c6 k6 n6 m6, e = .returned (.agg #[.slice c6 cs.length k6, .string kb, .int .i64 per, .slice n6 ns.length m6]) ∧ GateLies w' c6 k6 cs n6 m6 ns ∧ Below W.heap.size W w') := fun W hb => (ownGate_any ca ccap cs kb per na ncap ns W (hg.curves.below hb) (hg.nums.below hb) hg.nnone hg.slim).mono fun e w' ⟨c6, k6, n6, m6, h1, h2, h3, h4, h5, h6, h7, h8, h9⟩ => ⟨c6, k6, n6, m6, h1, ⟨h2, h3, h4, h5, h6, h7, h8, hg.slim⟩, h9⟩
 have HOp2 : Hid (∀ W, Below w.heap.size w W → Calls Tryz.prog 21 #[.slice pa ps.length pcap] W fun e w' => ∃ a' cap', e = .returned (.slice a' ps.length cap') ∧ PksLie w' a' cap' ps ∧ Below W.heap.size W w') := fun W hb => (ownPackets_any pa pcap ps W (hp.pks.below hb) (by omega) hp.none_).mono fun e w' ⟨v, h1, h2, h3⟩ => by
  obtain ⟨a', cap', rfl, g1, g2, g3, -, g5⟩ := OwnP.open h2
  exact ⟨a', cap', h1, ⟨g3, g1, g2, g5⟩, h3⟩
 obtain ⟨gc, gp, hgi⟩ := gateIs_is cs (kindOf_le kb.toList) per ns
 have HCk : Hid (∀ W c6 k6 n6 m6, Below w.heap.size w W → GateLies W c6 k6 cs n6 m6 ns → Calls Tryz.prog 29 #[.agg #[.slice c6 cs.length k6, .string kb, .int .i64 per, .slice n6 ns.length m6]] W fun e w' => ∃ E, e = .returned E ∧ ErrIs w' E gc gp ∧ Below W.heap.size W w') := fun W c6 k6 n6 m6 hb h6 => GW.check c6 k6 cs kb per n6 m6 ns W ad gc gp (he.below hb) h6 hgi
 have HGf : Hid (∀ W, Below w.heap.size w W → Calls Tryz.prog 13 #[.agg #[.slice ca cs.length ccap, .string kb, .int .i64 per, .slice na ns.length ncap]] W fun e w' => GfEnd gc gp W e w') := fun W hb => refGateFault_is ca ccap cs kb per na ncap ns W gc gp (hg.curves.below hb) (by have := hg.slim.curves; omega) (hg.nums.below hb) (by have := hg.slim.nums; omega) hgi
 have hb1 : Below w.heap.size w (w.alloc (.cells #[.slice ca cs.length ccap, .string kb, .int .i64 per, .slice na ns.length ncap] 25)) := (Below.refl _ _).alloc (Nat.le_refl _) _
 have hga := gateAt_new w (.slice ca cs.length ccap) kb per (.slice na ns.length ncap) 25
 obtain ⟨V, hV⟩ : ∃ V, w.alloc (.cells #[.slice ca cs.length ccap, .string kb, .int .i64 per, .slice na ns.length ncap] 25) = V := ⟨_, rfl⟩
 rw [hV] at hb1 hga
 have HV : Hid (Below w.heap.size w V ∧ GateAt V w.heap.size (.slice ca cs.length ccap) kb per (.slice na ns.length ncap)) := ⟨hb1, hga⟩
 have HGl : Hid (Errs9 w ad ∧ GateLies w ca ccap cs na ncap ns ∧ PksLie w pa pcap ps) := ⟨he, hg, hp⟩
 have HGW : Hid GateWalks := GW
 obtain ⟨m, hm⟩ : ∃ m, cs.length = m := ⟨_, rfl⟩
 obtain ⟨r, hr⟩ : ∃ r, ns.length = r := ⟨_, rfl⟩
 obtain ⟨n, hn⟩ : ∃ n, ps.length = n := ⟨_, rfl⟩
 have HM : Hid (cs.length = m ∧ ns.length = r ∧ ps.length = n) := ⟨hm, hr, hn⟩
 rw [hm, hr] at HWi HOg HCk HGf HV
 rw [hn] at HFit HOp2
 rw [hm, hr] at hV
 rw [hm, hr, hn]
 clear he hg hp hfit hgi hb1 hga hm hr hn GW
 go_enter Tryz.func7, Tryz.ntmps7
 go_wp2_with fail
 refine (HOp.out _ HV.out.1).mono ?_
 rintro e w1 ⟨rfl, hb⟩
 have HB1 : Hid (Below w.heap.size w w1) := HV.out.1.trans (hb.mono HV.out.1.size)
 obtain ⟨x0, x1, x2, x3⟩ := HV.out.2.later hb
 have HX1 : Hid (GateAt w1 w.heap.size (.slice ca m ccap) kb per (.slice na r ncap)) := HV.out.2.later hb
 clear hb hV
 go_wp2_with fail
 refine (HWi.out _ HB1.out).mono ?_
 rintro e w2 ⟨rfl | ⟨rfl, -⟩, hb⟩
 ·
  have HB2 : Hid (Below w.heap.size w w2) := HB1.out.trans (hb.mono HB1.out.size)
  clear hb
  go_wp2_with fail
  go_ret
  exact ⟨rfl, HB2.out⟩
 have HB2 : Hid (Below w.heap.size w w2) := HB1.out.trans (hb.mono HB1.out.size)
 have HX2 : Hid (GateAt w2 w.heap.size (.slice ca m ccap) kb per (.slice na r ncap)) := HX1.out.later hb
 clear hb x0 x1 x2 x3
 go_wp2_with fail
 refine (HFit.out _).mono ?_
 rintro e w3 ⟨rfl, rfl⟩
 obtain ⟨x0, x1, x2, x3⟩ := HX2.out
 go_wp2_with fail
 have HD : Hid (Below w.heap.size w w3.drew) := below_drewN HB2.out 1
 have HSb : Hid (∀ W, Below w3.heap.size w3 W → W.cell? ⟨w.heap.size, 0, none⟩ = some (.slice ca m ccap) ∧ W.cell? ⟨w.heap.size, 1, none⟩ = some (.string kb) ∧ W.cell? ⟨w.heap.size, 2, none⟩ = some (.int .i64 per) ∧ W.cell? ⟨w.heap.size, 3, none⟩ = some (.slice na r ncap)) := fun W hW => ⟨cell_later hW HX2.out.c0, cell_later hW HX2.out.c1, cell_later hW HX2.out.c2, cell_later hW HX2.out.c3⟩
 have HTr : Hid (∀ W, Below w3.heap.size w3 W → Below w.heap.size w W) := fun W hW => HB2.out.trans (hW.mono HB2.out.size)
 have HD3 : Hid (Below w3.heap.size w3 w3.drew) := below_drewN (Below.refl _ _) 1
 go_cut [31] (fun s31 wx => s31 = .bool false ∧ Below w3.heap.size w3 wx)
 case first =>
  go_region_held3 (fun w' => w'.cell? ⟨w.heap.size, 0, none⟩ = some (.slice ca m ccap) ∧ w'.cell? ⟨w.heap.size, 1, none⟩ = some (.string kb) ∧ w'.cell? ⟨w.heap.size, 2, none⟩ = some (.int .i64 per) ∧ w'.cell? ⟨w.heap.size, 3, none⟩ = some (.slice na r ncap))
   (first | exact hS | exact HSb.out _ HD3.out)
   (first
   | (go_at_call 12; refine (HOg.out _ (HTr.out _ (by first | exact HD3.out | exact HB8.out))).mono ?_; rintro e w6 ⟨c6, k6, n6, m6, rfl, hg6, hb6⟩; have HB6 : Hid (Below w3.heap.size w3 w6) := (by first | exact HD3.out.trans (hb6.mono HD3.out.size) | exact HB8.out.trans (hb6.mono HB8.out.size)); have hS := HSb.out w6 HB6.out; have HG6 : Hid (GateLies w6 c6 k6 cs n6 m6 ns) := hg6; clear hg6 hb6)
   | (go_at_call 29; refine (HCk.out _ c6 k6 n6 m6 (HTr.out _ (by first | exact HB6.out | exact HB8.out)) (by first | exact HG6.out | exact HG6.out.below HS8.out)).mono ?_; rintro e w7 ⟨E7, rfl, hE7, hb7⟩; have HB7 : Hid (Below w3.heap.size w3 w7) := (by first | exact HB6.out.trans (hb7.mono HB6.out.size) | exact HB8.out.trans (hb7.mono HB8.out.size)); have hS := HSb.out w7 HB7.out; have HX7 : Hid (ErrIs w7 E7 gc gp) := hE7; clear hE7 hb7)
   | (go_at_call 13; refine (HGf.out _ (HTr.out _ (by first | exact HB7.out | exact HB6.out | exact HD3.out))).mono ?_; rintro e w8 ⟨rfl, hb8⟩; have HB8 : Hid (Below w3.heap.size w3 w8) := (by first | exact HB7.out.trans (hb8.mono HB7.out.size) | exact HB6.out.trans (hb8.mono HB6.out.size) | exact HD3.out.trans (hb8.mono HD3.out.size)); have hS := HSb.out w8 HB8.out; have HS8 := (show Hid _ from hb8); clear hb8)
   | (go_at_call 14; refine (faulted_yes E7 gc gp _ (by first | exact HX7.out.code | exact HX7.out.code.below HS8.out)).mono ?_; rintro e w9 ⟨rfl, hb9⟩; have HB9 : Hid (Below w3.heap.size w3 w9) := (by first | exact HB7.out.trans (hb9.mono HB7.out.size) | exact HB8.out.trans (hb9.mono HB8.out.size)); have hS := HSb.out w9 HB9.out; clear hb9))
  all_goals (go_wp2_with fail; go_meet; exact ⟨rfl, HB9.out⟩)
 case rest =>
 obtain ⟨rfl, hbc⟩ := hcut
 have HBc : Hid (Below w.heap.size w wc) := HTr.out wc hbc
 obtain ⟨y0, y1, y2, y3⟩ := HSb.out wc hbc
 have HXc : Hid (GateAt wc w.heap.size (.slice ca m ccap) kb per (.slice na r ncap)) := HX2.out.later hbc
 obtain ⟨c, p, hri⟩ := runIs_is cs (kindOf_le kb.toList) per ns ps
 have HRi : Hid (RunIs cs (kindOf kb.toList) per ns ps c p) := hri
 clear hbc x0 x1 x2 x3 hri
 go_wp2_with fail
 refine (HOg.out _ HBc.out).mono ?_
 rintro e w6 ⟨c6, k6, n6, m6, rfl, hg6, hb6⟩
 have HB6 : Hid (Below w.heap.size w w6 ∧ GateLies w6 c6 k6 cs n6 m6 ns ∧ GateAt w6 w.heap.size (.slice ca m ccap) kb per (.slice na r ncap)) := ⟨HBc.out.trans (hb6.mono HBc.out.size), hg6, HXc.out.later hb6⟩
 clear hg6 hb6 y0 y1 y2 y3
 go_wp2_with fail
 refine (HOp2.out _ HB6.out.1).mono ?_
 rintro e w7 ⟨a7, k7, rfl, hp7, hb7⟩
 have HB7 : Hid (Below w.heap.size w w7 ∧ GateLies w7 c6 k6 cs n6 m6 ns ∧ PksLie w7 a7 k7 ps ∧ GateAt w7 w.heap.size (.slice ca m ccap) kb per (.slice na r ncap)) := ⟨HB6.out.1.trans (hb7.mono HB6.out.1.size), HB6.out.2.1.below hb7, hp7, HB6.out.2.2.later hb7⟩
 clear hp7 hb7
 by_cases hc : 0 < c
 ·
  have HRun : Hid (Calls Tryz.prog 20 #[.agg #[.slice c6 m k6, .string kb, .int .i64 per, .slice n6 r m6], .slice a7 n k7] w7 fun e w' => GateBad c p w7 e w') := by
   have := HGW.out.bad c6 k6 cs kb per n6 m6 ns a7 k7 ps w7 ad c p (HGl.out.1.below HB7.out.1) HB7.out.2.1 HB7.out.2.2.1 HRi.out hc
   rwa [HM.out.1, HM.out.2.1, HM.out.2.2] at this
  have HRef : Hid (∀ W, Below w.heap.size w W → Calls Tryz.prog 30 #[.agg #[.slice ca m ccap, .string kb, .int .i64 per, .slice na r ncap], .slice pa n pcap] W fun e w' => RunBad c p W e w') := fun W hb => by
   have := refRunOf_bad ca ccap cs kb per na ncap ns pa pcap ps W c p (HGl.out.2.1.below hb) (HGl.out.2.2.below hb) HRi.out hc
   rwa [HM.out.1, HM.out.2.1, HM.out.2.2] at this
  go_wp2_with fail
  refine HRun.out.mono ?_
  rintro e w8 ⟨qa, qcap, la, lcap, E, rfl, hE, hb8⟩
  have HB8 : Hid (Below w.heap.size w w8 ∧ ErrIs w8 E c p) := ⟨HB7.out.1.trans (hb8.mono HB7.out.1.size), hE⟩
  obtain ⟨y0, y1, y2, y3⟩ := HB7.out.2.2.2.later hb8
  clear hb8 hE
  go_wp2_with fail
  refine (HRef.out _ HB8.out.1).mono ?_
  rintro e w9 ⟨rfl, hb9⟩
  have hbA : Below w8.heap.size w8 (w9.alloc (.cells #[.int .i64 c, .int .i64 p] 35)) := hb9.alloc hb9.size _
  obtain ⟨f0, f1, -, -⟩ := at2_new w9 (.int .i64 c) (.int .i64 p) 35
  have HBA : Hid (Below w.heap.size w (w9.alloc (.cells #[.int .i64 c, .int .i64 p] 35)) ∧ CodeIs (w9.alloc (.cells #[.int .i64 c, .int .i64 p] 35)) E c p) := ⟨HB8.out.1.trans (hbA.mono HB8.out.1.size), HB8.out.2.code.below hbA⟩
  clear hb9 hbA y0 y1 y2 y3
  go_wp2_with fail
  refine (faulted_yes E c p _ HBA.out.2).mono ?_
  rintro e wB ⟨rfl, hbB⟩
  have HBB : Hid (Below w.heap.size w wB) := HBA.out.1.trans (hbB.mono HBA.out.1.size)
  clear hbB
  go_wp2_with fail
  refine (samePkts_any qa none qcap 0 [] [] _ (.inl rfl) (.inl rfl) rfl (by decide)).mono ?_
  rintro e wC ⟨rfl, hbC⟩
  have HBC : Hid (Below w.heap.size w wC) := HBB.out.trans (hbC.mono HBB.out.size)
  have hsb : sameB [] [] = true := rfl
  rw [hsb]
  clear hbC
  go_wp2_with fail
  refine (sameSent_yes la none lcap 0 [] _ (.inl rfl) (.inl rfl) (by decide)).mono ?_
  rintro e wD ⟨rfl, hbD⟩
  have HBD : Hid (Below w.heap.size w wD) := HBC.out.trans (hbD.mono HBC.out.size)
  clear hbD
  go_wp2_with fail
  go_ret
  exact ⟨rfl, HBD.out⟩
 ·
  have hok : GateOk cs (kindOf kb.toList) per ns ∧ OkPks ps ∧ ∀ i, ¬ NeverAt (curveFl cs) ps i := by
   rcases HRi.out with ⟨-, h⟩ | ⟨-, -, h⟩ | ⟨-, -, i, -, -, h, -⟩ | ⟨h1, h2, h3, -, -⟩
   · exact absurd h hc
   · exact absurd h hc
   · omega
   · exact ⟨h1, h2, h3⟩
  have HOk : Hid (GateOk cs (kindOf kb.toList) per ns ∧ OkPks ps ∧ ∀ i, ¬ NeverAt (curveFl cs) ps i) := hok
  have HRun : Hid (Calls Tryz.prog 20 #[.agg #[.slice c6 m k6, .string kb, .int .i64 per, .slice n6 r m6], .slice a7 n k7] w7 fun e w' => GateGood cs (kindOf kb.toList) per ns ps w7 e w') := by
   have := HGW.out.good c6 k6 cs kb per n6 m6 ns a7 k7 ps w7 ad (HGl.out.1.below HB7.out.1) HB7.out.2.1 HB7.out.2.2.1 hok.1 hok.2.1 hok.2.2
   rwa [HM.out.1, HM.out.2.1, HM.out.2.2] at this
  have HRef : Hid (∀ W, Below w.heap.size w W → Calls Tryz.prog 30 #[.agg #[.slice ca m ccap, .string kb, .int .i64 per, .slice na r ncap], .slice pa n pcap] W fun e w' => RunEnd (curveFl cs) (kindOf kb.toList) per ns ps W e w') := fun W hb => by
   have := refRunOf_main ca ccap cs kb per na ncap ns pa pcap ps W (HGl.out.2.1.curves.below hb) (HGl.out.2.1.nums.below hb) (by have := HGl.out.2.1.slim.nums; omega) (HGl.out.2.2.pks.below hb) HGl.out.2.2.cap HGl.out.2.2.max hok.2.1 hok.1
   rwa [HM.out.1, HM.out.2.1, HM.out.2.2] at this
  clear hok hc
  go_wp2_with fail
  refine HRun.out.mono ?_
  rintro e w8 ⟨qa, qcap, la, lcap, qs, l, rfl, hq, hl, hrun, hb8⟩
  have HB8 : Hid (Below w.heap.size w w8 ∧ PksLie w8 qa qcap qs ∧ SntLie w8 la lcap l ∧ GateRun (curveFl cs) (kindOf kb.toList) per ns ps qs l) := ⟨HB7.out.1.trans (hb8.mono HB7.out.1.size), hq, hl, hrun⟩
  obtain ⟨y0, y1, y2, y3⟩ := HB7.out.2.2.2.later hb8
  obtain ⟨ql, hql⟩ : ∃ q, qs.length = q := ⟨_, rfl⟩
  obtain ⟨ll, hll⟩ : ∃ q, l.length = q := ⟨_, rfl⟩
  have HLl : Hid (qs.length = ql ∧ l.length = ll) := ⟨hql, hll⟩
  rw [hql, hll]
  clear hb8 hq hl hrun hql hll
  go_wp2_with fail
  refine (HRef.out _ HB8.out.1).mono ?_
  rintro e w9 ⟨hb9, ⟨i, h1, -, -⟩ | ⟨-, qv, lv, qs', l', rfl, hq', hl', hrun'⟩⟩
  · exact absurd h1 (HOk.out.2.2 i)
  obtain ⟨rfl, rfl⟩ := HB8.out.2.2.2.same HOk.out.2.1 hrun'
  have hlen := HB8.out.2.2.2.ok HOk.out.2.1 HOk.out.1.curves.ok
  have hfew := hlen.1.few
  have hll2 := (hlen.2.2.may HOk.out.1.nums hlen.1 HOk.out.1.per.1).2.2
  obtain ⟨qa2, qc2, rfl, -, -, hqL, -, -⟩ := OwnP.open hq'
  obtain ⟨la2, lc2, rfl, -, -, hlL, -, -⟩ := OwnS.open hl'
  have hbA : Below w9.heap.size w9 (w9.alloc (.cells #[.int .i64 0, .int .i64 (-1)] 35)) := (Below.refl _ _).alloc (Nat.le_refl _) _
  have hbB : Below w8.heap.size w8 (w9.alloc (.cells #[.int .i64 0, .int .i64 (-1)] 35)) := hb9.trans (hbA.mono hb9.size)
  obtain ⟨f0, f1, -, -⟩ := at2_new w9 (.int .i64 0) (.int .i64 (-1)) 35
  have HBA : Hid (Below w.heap.size w (w9.alloc (.cells #[.int .i64 0, .int .i64 (-1)] 35)) ∧ (LiesP (w9.alloc (.cells #[.int .i64 0, .int .i64 (-1)] 35)) qa qs ∧ LiesP (w9.alloc (.cells #[.int .i64 0, .int .i64 (-1)] 35)) qa2 qs) ∧ (LiesS (w9.alloc (.cells #[.int .i64 0, .int .i64 (-1)] 35)) la l ∧ LiesS (w9.alloc (.cells #[.int .i64 0, .int .i64 (-1)] 35)) la2 l) ∧ qs.length ≤ 1000 ∧ l.length ≤ 1000) := ⟨HB8.out.1.trans (hbB.mono HB8.out.1.size), ⟨HB8.out.2.1.pks.below hbB, hqL.below hbA⟩, ⟨HB8.out.2.2.1.sent.below hbB, hlL.below hbA⟩, by omega, by omega⟩
  have HSp : Hid (∀ W, Below (w9.alloc (.cells #[.int .i64 0, .int .i64 (-1)] 35)).heap.size (w9.alloc (.cells #[.int .i64 0, .int .i64 (-1)] 35)) W → Calls Tryz.prog 27 #[.slice qa ql qcap, .slice qa2 ql qc2] W fun e w' => e = .returned (.bool true) ∧ Below W.heap.size W w') := fun W hW => by
   have := samePkts_any qa qa2 qcap qc2 qs qs W (HBA.out.2.1.1.below hW) (HBA.out.2.1.2.below hW) rfl HBA.out.2.2.2.1
   rwa [HLl.out.1, (sameB_iff qs qs).2 rfl] at this
  have HSs : Hid (∀ W, Below (w9.alloc (.cells #[.int .i64 0, .int .i64 (-1)] 35)).heap.size (w9.alloc (.cells #[.int .i64 0, .int .i64 (-1)] 35)) W → Calls Tryz.prog 28 #[.slice la ll lcap, .slice la2 ll lc2] W fun e w' => e = .returned (.bool true) ∧ Below W.heap.size W w') := fun W hW => by
   have := sameSent_yes la la2 lcap lc2 l W (HBA.out.2.2.1.1.below hW) (HBA.out.2.2.1.2.below hW) HBA.out.2.2.2.2
   rwa [HLl.out.2] at this
  rw [HLl.out.1, HLl.out.2]
  clear hb9 hq' hl' hrun' hlen hfew hll2 hqL hlL hbA hbB y0 y1 y2 y3
  go_wp2_with fail
  refine (faulted_yes .nilIface 0 (-1) _ (codeIs_nil _)).mono ?_
  rintro e wB ⟨rfl, hbB⟩
  have HBB : Hid (Below (w9.alloc (.cells #[.int .i64 0, .int .i64 (-1)] 35)).heap.size (w9.alloc (.cells #[.int .i64 0, .int .i64 (-1)] 35)) wB) := hbB
  clear hbB
  go_wp2_with fail
  refine (HSp.out _ HBB.out).mono ?_
  rintro e wC ⟨rfl, hbC⟩
  have HBC : Hid (Below (w9.alloc (.cells #[.int .i64 0, .int .i64 (-1)] 35)).heap.size (w9.alloc (.cells #[.int .i64 0, .int .i64 (-1)] 35)) wC) := HBB.out.trans (hbC.mono HBB.out.size)
  clear hbC
  go_wp2_with fail
  refine (HSs.out _ HBC.out).mono ?_
  rintro e wD ⟨rfl, hbD⟩
  have HBD : Hid (Below w.heap.size w wD) := HBA.out.1.trans ((HBC.out.trans (hbD.mono HBC.out.size)).mono HBA.out.1.size)
  clear hbD
  go_wp2_with fail
  go_ret
  exact ⟨rfl, HBD.out⟩
end
end Go.Proofs.YtibhkijaafdkoaaGreatDoor

namespace Go.Proofs.YtibhkijaafdkoaaGreatDoor
open Go.RowKit
section
variable (ca : Option Addr) (ccap : Nat) (cs : List (List (Int × Int))) (kb : ByteArray) (per : Int) (na : Option Addr) (ncap : Nat) (ns : List Int) (pa : Option Addr) (pcap : Nat) (n : Nat) (w : World) (ad : Nat → Addr)
set_option maxRecDepth 100000 in
set_option maxHeartbeats 4000000 in
theorem gateRuns_out (GW : GateWalks) (he : Errs9 w ad) (hg : GateRaw w ca ccap cs na ncap ns) (h : ¬ Slim cs ns ∨ ¬ (n ≤ 60 ∨ n = 301)) :
  Calls Tryz.prog 7 #[.agg #[.slice ca cs.length ccap, .string kb, .int .i64 per, .slice na ns.length ncap], .slice pa n pcap] w fun e w' => e = .returned (.bool true) ∧ Below w.heap.size w w' := by
 have HOp : Hid (∀ W, Below w.heap.size w W → Calls Tryz.prog 9 #[] W fun e w' => e = .returned (.bool true) ∧ Below W.heap.size W w') := fun W hb => opens_by GW W ad (he.below hb)
 have HWi : Hid (∀ W, Below w.heap.size w W → Calls Tryz.prog 10 #[.agg #[.slice ca cs.length ccap, .string kb, .int .i64 per, .slice na ns.length ncap]] W fun e w' => WideEnd cs ns W e w') := fun W hb => wide_any ca ccap cs kb per na ncap ns W (hg.curves.below hb) hg.cfit hg.cmax hg.nfit hg.nmax
 have HFit : Hid (Slim cs ns → ∀ w', Calls Tryz.prog 19 #[.slice pa n pcap, .int .i64 60] w' fun e w'' => e = .returned (.bool false) ∧ w'' = w') := fun hs w' => by
  rcases h with h | h
  · exact absurd hs h
  · exact fitPkts_no pa n pcap 60 w' (by omega) (by omega)
 have hb1 : Below w.heap.size w (w.alloc (.cells #[.slice ca cs.length ccap, .string kb, .int .i64 per, .slice na ns.length ncap] 25)) := (Below.refl _ _).alloc (Nat.le_refl _) _
 have hga := gateAt_new w (.slice ca cs.length ccap) kb per (.slice na ns.length ncap) 25
 obtain ⟨V, hV⟩ : ∃ V, w.alloc (.cells #[.slice ca cs.length ccap, .string kb, .int .i64 per, .slice na ns.length ncap] 25) = V := ⟨_, rfl⟩
 rw [hV] at hb1 hga
 have HV : Hid (Below w.heap.size w V ∧ GateAt V w.heap.size (.slice ca cs.length ccap) kb per (.slice na ns.length ncap)) := ⟨hb1, hga⟩
 obtain ⟨m, hm⟩ : ∃ m, cs.length = m := ⟨_, rfl⟩
 obtain ⟨r, hr⟩ : ∃ r, ns.length = r := ⟨_, rfl⟩
 rw [hm, hr] at HWi HV hV
 rw [hm, hr]
 clear he hg hb1 hga hm hr GW h
 go_enter Tryz.func7, Tryz.ntmps7
 go_wp2_with fail
 refine (HOp.out _ HV.out.1).mono ?_
 rintro e w1 ⟨rfl, hb⟩
 have HB1 : Hid (Below w.heap.size w w1) := HV.out.1.trans (hb.mono HV.out.1.size)
 obtain ⟨x0, x1, x2, x3⟩ := HV.out.2.later hb
 clear hb hV
 go_wp2_with fail
 refine (HWi.out _ HB1.out).mono ?_
 rintro e w2 ⟨rfl | ⟨rfl, hs⟩, hb⟩
 ·
  have HB2 : Hid (Below w.heap.size w w2) := HB1.out.trans (hb.mono HB1.out.size)
  clear hb
  go_wp2_with fail
  go_ret
  exact ⟨rfl, HB2.out⟩
 have HB2 : Hid (Below w.heap.size w w2) := HB1.out.trans (hb.mono HB1.out.size)
 have HF : Hid (∀ w', Calls Tryz.prog 19 #[.slice pa n pcap, .int .i64 60] w' fun e w'' => e = .returned (.bool false) ∧ w'' = w') := HFit.out hs
 clear hb hs x0 x1 x2 x3
 go_wp2_with fail
 refine (HF.out _).mono ?_
 rintro e w3 ⟨rfl, rfl⟩
 go_wp2_with fail
 go_ret
 exact ⟨rfl, HB2.out⟩
end
theorem gateRuns_any (GW : GateWalks) (ca : Option Addr) (ccap : Nat) (cs : List (List (Int × Int))) (kb : ByteArray) (per : Int) (na : Option Addr) (ncap : Nat) (ns : List Int) (pa : Option Addr) (pcap : Nat) (ps : List Pk) (w : World) (ad : Nat → Addr) (he : Errs9 w ad) (hg : GateRaw w ca ccap cs na ncap ns) (hp : PksLie w pa pcap ps) :
  Calls Tryz.prog 7 #[.agg #[.slice ca cs.length ccap, .string kb, .int .i64 per, .slice na ns.length ncap], .slice pa ps.length pcap] w fun e w' => e = .returned (.bool true) ∧ Below w.heap.size w w' := by
 by_cases hs : Slim cs ns
 ·
  by_cases hfit : ps.length ≤ 60 ∨ ps.length = 301
  · exact gateRuns_main ca ccap cs kb per na ncap ns pa pcap ps w ad GW he (hg.lies hs) hp hfit
  · exact gateRuns_out ca ccap cs kb per na ncap ns pa pcap _ w ad GW he hg (.inr hfit)
 · exact gateRuns_out ca ccap cs kb per na ncap ns pa pcap _ w ad GW he hg (.inl hs)
end Go.Proofs.YtibhkijaafdkoaaGreatDoor

namespace Go.Proofs.YtibhkijaafdkoaaGreatDoor
open Go.ChangeShapes Go.WideShapes Go.ChangeAt Go.RowKit
theorem Tryz.own : ownKnob Tryz.prog.godebug = none := by kernel_rfl
theorem Tryz.laidOut : laidOutB Tryz.prog = true := by kernel_rfl
theorem Tryz.cellsInt : Tryz.prog.cellsOf 3 = 1 := by kernel_rfl
theorem Tryz.cellsES : Tryz.prog.cellsOf 291 = 1 := by kernel_rfl
theorem Tryz.cellsStr : Tryz.prog.cellsOf 9 = 1 := by kernel_rfl
def nameES : String := match (Rows.laid_floodgate_api_ErrBound : DataW Unit) with | .iface n _ => n | _ => "none"
theorem rows_star {P : Program} {tp : TypeId} {s : String} (hs : s = nameES) (h : ((List.range P.types.size).all fun u => P.typeName? 3 u != some nameES || u == tp) = true) : ((List.range P.types.size).all fun u => P.typeName? 3 u != some s || u == tp) = true := by
 rw [hs]
 exact h
theorem Tryz.rowPES (u : TypeId) (h : Tryz.prog.typeName? 3 u = some nameES) : u = 271 :=
 typeName_ptr_named (P := Tryz.prog) (nm := "errors.errorString") (tp := 271) (rows_star (by decide) (by kernel_rfl)) (by kernel_rfl) (by decide) u (h.trans (congrArg some (by decide)))
set_option maxRecDepth 100000 in
theorem sentinel_of_laid {n nm : String} {text : List UInt8} {r : List (String × DataW Unit)} {W : World} {g : Nat}
  (h : laidMet Tryz.prog ((n, .iface nm (.ptr (.agg [.lit (.string text)]))) :: r) W)
  (hnm : nm = nameES) (hg : Tryz.prog.globalNamed n = some g) (ht : (Tryz.prog.globals[g]?).map (·.type) = some 29) :
  ∃ (a : Addr) (s : ByteArray), W.cell? ⟨g, 0, none⟩ = some (.iface 271 (.pointer (some a))) ∧ W.cell? a = some (.string s) ∧ s.data.toList = text ∧ ∃ c t, W.heap[a.block]? = some (.cells c t (0, 0)) := by
 obtain ⟨ps, ⟨g0, t0, cs0, f0, p0, q0, hg0, ht0, hv0, hd0, _, e0⟩, _, hrows⟩ := h
 obtain rfl := Option.some.inj (hg.symm.trans hg0)
 obtain rfl := Option.some.inj (ht.symm.trans ht0)
 subst e0
 obtain ⟨l0⟩ := cs0
 have ok0 : ∀ u v, l0 = [.iface u v] → Value.okWide Tryz.prog W .any 0 u v := fun u v e => by
  subst e
  exact (hrows g 0 (by simp [MemPlace.row])).2 u v (by simpa using World.var?_cell hg0 hv0 0)
 obtain ⟨a0, s0, rfl, hc0, hs0, hz0, rfl⟩ := errorString_of_trod Tryz.underlying29 (fun u hu => Tryz.rowPES u (by rw [← hnm]; exact hu)) Tryz.underlying271 Tryz.underlying291 rfl rfl Tryz.underlying9 Tryz.cellsES Tryz.cellsStr hd0 ok0
 exact ⟨a0, s0, by simpa using World.var?_cell hg0 hv0 0, hc0, hs0, (hrows a0.block a0.off (by simp [MemPlace.row])).1⟩
end Go.Proofs.YtibhkijaafdkoaaGreatDoor

namespace Go.Proofs.YtibhkijaafdkoaaGreatDoor
open Go.ChangeShapes Go.WideShapes Go.ChangeAt Go.RowKit Go.Deep
theorem open_slice_three {H : Type} {enc : TypeId × Value → H} {P : Program} {w : World} {base : Nat} {spare : Nat → Bool} {held : Bool} {t e : TypeId} {f0 f1 f2 : Field} {fuel : Nat} {cs : List Value} {x : DataW H × List MemPlace}
  (ht : P.underlying t = some (.slice e)) (he : P.underlying e = some (.struct #[f0, f1, f2])) (ce : P.cellsOf e = 3) (o0 : f0.offset = 0) (o1 : f1.offset = 1) (o2 : f2.offset = 2) (c0 : P.cellsOf f0.type = 1) (c1 : P.cellsOf f1.type = 1) (c2 : P.cellsOf f2.type = 1)
  (h : DataW.trod enc P w base spare held fuel t cs = some x) :
  cs = [.slice none 0 0] ∨
  ∃ (a : Addr) (len cap n : Nat), cs = [.slice (some a) len cap] ∧ len ≤ cap ∧ cap ≤ maxLen ∧
   ∀ i, i < len → ∃ (v0 v1 v2 : Value) (y0 y1 y2 : DataW H × List MemPlace), w.cell? (a.add (i * 3)) = some v0 ∧ w.cell? (a.add (i * 3 + 1)) = some v1 ∧ w.cell? (a.add (i * 3 + 2)) = some v2 ∧
    DataW.trod enc P w base spare held n f0.type [v0] = some y0 ∧ DataW.trod enc P w base spare held n f1.type [v1] = some y1 ∧ DataW.trod enc P w base spare held n f2.type [v2] = some y2 := by
 rcases open_slice ht h with h0 | ⟨a, len, cap, m, n, D, Pl, rfl, hb, hl, hm, hmm, -, hx⟩
 · exact .inl h0.1
 right
 have hlm : len ≤ m := by rw [hmm]; split <;> omega
 refine ⟨a, len, cap, n - 1, rfl, hl, hm, fun i hi => ?_⟩
 obtain ⟨cs', h1, h2⟩ := hx i (by omega)
 rw [ce] at h1
 obtain ⟨_, hlen, hcell⟩ := World.cells?_some h1
 obtain ⟨xs, k, hk, hxy, _, hxl, hf⟩ := DataW.trod_struct he h2
 have hk' : k = n - 1 := by omega
 subst hk'
 match xs, hxl, cs', hlen with
 | [y0, y1, y2], _, [v0, v1, v2], _ =>
  have g0 := hf 0 f0 rfl
  have g1 := hf 1 f1 rfl
  have g2 := hf 2 f2 rfl
  simp [o0, o1, o2, c0, c1, c2] at g0 g1 g2
  have e0 := hcell 0 (by omega)
  have e1 := hcell 1 (by omega)
  have e2 := hcell 2 (by omega)
  rw [add_add] at e0 e1 e2
  exact ⟨v0, v1, v2, y0, y1, y2, by simpa using e0, by simpa using e1, by simpa using e2, g0, g1, g2⟩
theorem Tryz.cellsPkt : Tryz.prog.cellsOf 52 = 3 := by kernel_rfl
set_option maxRecDepth 100000 in
theorem open_pkts {H : Type} {enc : TypeId × Value → H} {W : World} {base : Nat} {v : Value} {d : DataW H} {p : List MemPlace} (hv : Value.okWide Tryz.prog W .any base 43 v)
  (h : DataW.Trod enc Tryz.prog W 0 (fun _ => true) true 43 v d p) :
  ∃ a cap ps, v = .slice a ps.length cap ∧ LiesP W a ps ∧ ps.length ≤ cap ∧ cap ≤ maxLen ∧ (a = none → ps = [] ∧ cap = 0) := by
 obtain ⟨a0, len0, cap0, rfl⟩ := okWide_slice Tryz.underlying43 hv
 obtain ⟨fuel, hf⟩ := h
 rcases open_slice_three Tryz.underlying43 Tryz.underlying52 Tryz.cellsPkt rfl rfl rfl Tryz.cellsInt Tryz.cellsInt Tryz.cellsInt hf with hcs | ⟨x, l, c, n, hcs, hl, hm, hcell⟩
 ·
  simp [Value.cells] at hcs
  obtain ⟨rfl, rfl, rfl⟩ := hcs
  exact ⟨none, 0, [], rfl, .inl rfl, by simp, by simp [maxLen], fun _ => ⟨rfl, rfl⟩⟩
 ·
  simp [Value.cells] at hcs
  obtain ⟨rfl, rfl, rfl⟩ := hcs
  have each : ∀ i, i < len0 → ∃ q : Int × Int × Int, W.cell? (x.add (i * 3)) = some (.int .i64 q.1) ∧ W.cell? (x.add (i * 3 + 1)) = some (.int .i64 q.2.1) ∧ W.cell? (x.add (i * 3 + 2)) = some (.int .i64 q.2.2) := by
   intro i hi
   obtain ⟨v0, v1, v2, y0, y1, y2, h0, h1, h2, g0, g1, g2⟩ := hcell i hi
   obtain ⟨k0, e0, _, _⟩ := DataW.trod_int Tryz.underlying3 g0
   obtain ⟨k1, e1, _, _⟩ := DataW.trod_int Tryz.underlying3 g1
   obtain ⟨k2, e2, _, _⟩ := DataW.trod_int Tryz.underlying3 g2
   simp at e0 e1 e2
   subst e0 e1 e2
   exact ⟨(k0, k1, k2), h0, h1, h2⟩
  obtain ⟨q, hq⟩ := choose_lt each
  refine ⟨some x, cap0, (List.range len0).map fun i => ⟨(q i).1, (q i).2.1, (q i).2.2⟩, by simp, ?_, by simpa using hl, hm, fun h => by cases h⟩
  by_cases h0 : len0 = 0
  · subst h0; exact .inl (by simp)
  ·
   obtain ⟨b, off, spot⟩ := x
   have hc0 := (hq 0 (by omega)).1
   have hspot : spot = none := by simpa [Addr.add] using World.cell?_spot hc0
   subst hspot
   refine .inr ⟨b, off, rfl, by simpa [Addr.add] using cell_lt hc0, fun i p hi => ?_⟩
   have hil : i < len0 := by
    rcases Nat.lt_or_ge i len0 with h | h
    · exact h
    · simp [h] at hi
   simp [hil] at hi
   subst hi
   obtain ⟨h0, h1, h2⟩ := hq i hil
   rw [Addr.add_lit] at h0 h1 h2
   exact ⟨h0, by rw [Nat.add_assoc]; exact h1, by rw [Nat.add_assoc]; exact h2⟩
end Go.Proofs.YtibhkijaafdkoaaGreatDoor

namespace Go.Proofs.YtibhkijaafdkoaaGreatDoor
open Go.ChangeShapes Go.WideShapes Go.ChangeAt Go.RowKit Go.Deep
section
variable {H : Type} {enc : TypeId × Value → H} {W : World} {fuel : Nat} {cs : List Value} {x : DataW H × List MemPlace}
theorem Tryz.cellsLine2 : Tryz.prog.cellsOf 133 = 2 := by kernel_rfl
theorem Tryz.cellsLines : Tryz.prog.cellsOf 38 = 1 := by kernel_rfl
theorem Tryz.cellsInts : Tryz.prog.cellsOf 23 = 1 := by kernel_rfl
theorem Tryz.cellsStr1 : Tryz.prog.cellsOf 9 = 1 := by kernel_rfl
theorem Tryz.cellsRGate : Tryz.prog.cellsOf 25 = 4 := by kernel_rfl
theorem Tryz.cellsCurves : Tryz.prog.cellsOf 22 = 1 := by kernel_rfl
set_option maxRecDepth 100000 in
theorem trod_lines (h : DataW.trod enc Tryz.prog W 0 (fun _ => true) true fuel 38 cs = some x) :
  ∃ a cap ls, cs = [.slice a ls.length cap] ∧ Lies W a ls ∧ ls.length ≤ cap ∧ cap ≤ maxLen ∧ (a = none → ls = [] ∧ cap = 0) := by
 rcases open_slice_pairs Tryz.underlying38 Tryz.underlying133 Tryz.cellsLine2 rfl rfl Tryz.cellsInt Tryz.cellsInt h with ⟨rfl, _⟩ | ⟨x, len0, cap0, m, n, V0, V1, D0, D1, P0, P1, rfl, _, hl, hm, hmm, _, hcell⟩
 · exact ⟨none, 0, [], rfl, .inl rfl, by simp, by simp [maxLen], fun _ => ⟨rfl, rfl⟩⟩
 ·
  have hm' : m = cap0 := by simpa using hmm
  refine ⟨some x, cap0, (List.range len0).map fun i => (intOf (V0 i), intOf (V1 i)), by simp, ?_, by simpa using hl, hm, fun h => by cases h⟩
  by_cases h0 : len0 = 0
  · subst h0; exact .inl (by simp)
  ·
   have hint : ∀ i, i < len0 → V0 i = .int .i64 (intOf (V0 i)) ∧ V1 i = .int .i64 (intOf (V1 i)) := by
    intro i hi
    obtain ⟨_, _, h2, h3⟩ := hcell i (by omega)
    obtain ⟨k0, e0, _, _⟩ := DataW.trod_int Tryz.underlying3 h2
    obtain ⟨k1, e1, _, _⟩ := DataW.trod_int Tryz.underlying3 h3
    simp at e0 e1
    rw [e0, e1]
    exact ⟨rfl, rfl⟩
   obtain ⟨b, off, spot⟩ := x
   have hc0 := (hcell 0 (by omega)).1
   have hspot : spot = none := by simpa [Addr.add] using World.cell?_spot hc0
   subst hspot
   refine .inr ⟨b, off, rfl, by simpa [Addr.add] using cell_lt hc0, fun i x y hi => ?_⟩
   have hil : i < len0 := by
    rcases Nat.lt_or_ge i len0 with h | h
    · exact h
    · simp [h] at hi
   simp [hil] at hi
   obtain ⟨h0, h1, _, _⟩ := hcell i (by omega)
   have := hint i hil
   rw [this.1, hi.1] at h0
   rw [this.2, hi.2] at h1
   rw [Addr.add_lit] at h0 h1
   exact ⟨h0, by rw [Nat.add_assoc]; exact h1⟩
set_option maxRecDepth 100000 in
theorem trod_nums (h : DataW.trod enc Tryz.prog W 0 (fun _ => true) true fuel 23 cs = some x) :
  ∃ a cap ns, cs = [.slice a ns.length cap] ∧ LiesN W a ns ∧ ns.length ≤ cap ∧ cap ≤ maxLen ∧ (a = none → ns = [] ∧ cap = 0) := by
 rcases open_ints Tryz.underlying23 Tryz.underlying3 Tryz.cellsInt h with ⟨rfl, _⟩ | ⟨x, len0, cap0, zs, rfl, _, hl, hm, hz, _, hcell, hwz⟩
 · exact ⟨none, 0, [], rfl, .inl rfl, by simp, by simp [maxLen], fun _ => ⟨rfl, rfl⟩⟩
 ·
  have hz' : zs.length = cap0 := by simpa using hz
  refine ⟨some x, cap0, zs.take len0, by rw [List.length_take, hz', Nat.min_eq_left hl], ?_, by rw [List.length_take]; omega, hm, fun e => by cases e⟩
  by_cases h0 : len0 = 0
  · subst h0; exact .inl (by simp)
  ·
   obtain ⟨b, off, spot⟩ := x
   have hc0 := hcell 0 (by omega)
   have hspot : spot = none := by simpa [Addr.add] using World.cell?_spot hc0
   subst hspot
   refine .inr ⟨b, off, rfl, by simpa [Addr.add] using cell_lt hc0, fun i y hi => ?_⟩
   rw [List.getElem?_take] at hi
   split at hi
   ·
    next hil =>
    have := hcell i (by omega)
    rw [Addr.add_lit, List.getD, hi] at this
    exact this
   · cases hi
set_option maxRecDepth 100000 in
theorem trod_curves (h : DataW.trod enc Tryz.prog W 0 (fun _ => true) true fuel 22 cs = some x) :
  ∃ a cap css, cs = [.slice a css.length cap] ∧ LiesC W a css ∧ css.length ≤ cap ∧ cap ≤ maxLen := by
 rcases open_slice Tryz.underlying22 h with ⟨rfl, _⟩ | ⟨ad, len, cap, m, n, D, Pl, rfl, hb, hl, hm, hmm, -, hx⟩
 · exact ⟨none, 0, [], rfl, .inl rfl, by simp, by simp [maxLen]⟩
 ·
  have hlm : len ≤ m := by rw [hmm]; split <;> omega
  have each : ∀ i, i < len → ∃ q : Option Addr × Nat × List (Int × Int), W.cell? (ad.add i) = some (.slice q.1 q.2.2.length q.2.1) ∧ Lies W q.1 q.2.2 ∧ q.2.2.length ≤ q.2.1 ∧ q.2.1 ≤ maxLen ∧ (q.1 = none → q.2.2 = [] ∧ q.2.1 = 0) := by
   intro i hi
   obtain ⟨cs', h1, h2⟩ := hx i (by omega)
   rw [Tryz.cellsLines] at h1
   obtain ⟨a', cap', ls, rfl, h3, h4⟩ := trod_lines h2
   obtain ⟨_, _, hcell⟩ := World.cells?_some h1
   have hc := hcell 0 (by omega)
   rw [add_add, Nat.mul_one, Nat.add_zero] at hc
   exact ⟨(a', cap', ls), by simpa using hc, h3, h4⟩
  obtain ⟨q, hq⟩ : ∃ q : Nat → Option Addr × Nat × List (Int × Int), ∀ i, i < len → W.cell? (ad.add i) = some (.slice (q i).1 (q i).2.2.length (q i).2.1) ∧ Lies W (q i).1 (q i).2.2 ∧ (q i).2.2.length ≤ (q i).2.1 ∧ (q i).2.1 ≤ maxLen ∧ ((q i).1 = none → (q i).2.2 = [] ∧ (q i).2.1 = 0) :=
   ⟨fun i => if h : i < len then Classical.choose (each i h) else (none, 0, []), fun i hi => by simp only [dif_pos hi]; exact Classical.choose_spec (each i hi)⟩
  refine ⟨some ad, cap, (List.range len).map fun i => (q i).2.2, by simp, ?_, by simpa using hl, hm⟩
  by_cases h0 : len = 0
  · subst h0; exact .inl (by simp)
  ·
   obtain ⟨b, off, spot⟩ := ad
   have hc0 := (hq 0 (by omega)).1
   have hspot : spot = none := by simpa [Addr.add] using World.cell?_spot hc0
   subst hspot
   refine .inr ⟨b, off, rfl, by simpa [Addr.add] using cell_lt hc0, fun i ls hi => ?_⟩
   have hil : i < len := by
    rcases Nat.lt_or_ge i len with h | h
    · exact h
    · simp [h] at hi
   simp [hil] at hi
   obtain ⟨g1, g2, g3, g4, g5⟩ := hq i hil
   rw [hi] at g1 g2 g3 g5
   rw [Addr.add_lit] at g1
   exact ⟨(q i).1, (q i).2.1, g1, g2, g3, g4, g5⟩
set_option maxRecDepth 100000 in
theorem open_rgate {base : Nat} {v : Value} {d : DataW H} {p : List MemPlace} (hv : Value.okWide Tryz.prog W .any base 25 v)
  (h : DataW.Trod enc Tryz.prog W 0 (fun _ => true) true 25 v d p) :
  ∃ ca ccap cs kb per na ncap ns, v = .agg #[.slice ca (cs : List (List (Int × Int))).length ccap, .string kb, .int .i64 per, .slice na (ns : List Int).length ncap] ∧ GateRaw W ca ccap cs na ncap ns := by
 obtain ⟨vs, rfl, hsz⟩ := okWide_struct Tryz.underlying25 hv
 obtain ⟨fuel, hf⟩ := h
 obtain ⟨xs, k, -, -, -, hxl, hfl⟩ := DataW.trod_struct Tryz.underlying25 hf
 rw [Tryz.cellsRGate] at hsz
 obtain ⟨l⟩ := vs
 match l, hsz, xs, hxl with
 | [v0, v1, v2, v3], _, [x0, x1, x2, x3], _ =>
  have g0 := hfl 0 _ rfl
  have g1 := hfl 1 _ rfl
  have g2 := hfl 2 _ rfl
  have g3 := hfl 3 _ rfl
  simp [Value.cells, Tryz.cellsCurves, Tryz.cellsStr1, Tryz.cellsInt, Tryz.cellsInts] at g0 g1 g2 g3
  obtain ⟨ca, ccap, css, e0, h1, h2, h3⟩ := trod_curves g0
  obtain ⟨kb, e1, -, -⟩ := DataW.trod_string Tryz.underlying9 g1
  obtain ⟨per, e2, -, -⟩ := DataW.trod_int Tryz.underlying3 g2
  obtain ⟨na, ncap, ns, e3, h4, h5, h6, h7⟩ := trod_nums g3
  simp at e0 e1 e2 e3
  subst e0 e1 e2 e3
  exact ⟨ca, ccap, css, kb, per, na, ncap, ns, rfl, h1, h2, h3, h4, h5, h6, h7⟩
end
end Go.Proofs.YtibhkijaafdkoaaGreatDoor

namespace Go.Proofs.YtibhkijaafdkoaaGreatDoor
open Go.ChangeShapes Go.WideShapes Go.ChangeAt Go.RowKit
theorem Tryz.oneRow : ((List.range 303).filter fun t => Tryz.prog.rowNamed t [101, 114, 114, 111, 114]) = [29] := by kernel_rfl
theorem Tryz.sizeTypes : Tryz.prog.types.size = 303 := by kernel_rfl
theorem Tryz.handleErr : typeHandle Tryz.prog 29 = .pointer (some ⟨10, 29, none⟩) := by kernel_rfl
theorem Tryz.gType : Tryz.prog.globalNamed "errors.errorType" = some 9 := by kernel_rfl
def nth9 (a0 a1 a2 a3 a4 a5 a6 a7 a8 : Addr) : Nat → Addr
 | 0 => a0 | 1 => a1 | 2 => a2 | 3 => a3 | 4 => a4 | 5 => a5 | 6 => a6 | 7 => a7 | _ => a8
theorem errs9_of_laid {W : World} (h : laidMetH Tryz.prog Rows.gateRunsRow.laid W) : ∃ ad, Errs9 W ad := by
 have h' : laidMet Tryz.prog Rows.gateRunsRow.laid.tail W ∧ handlesMet Tryz.prog [("errors.errorType", Rows.laid_errors_errorType)] W := h
 obtain ⟨h1, h2⟩ := h'
 have hty : W.cell? ⟨9, 0, none⟩ = some (.iface 207 (.agg #[.pointer (some ⟨10, 29, none⟩)])) := by
  obtain ⟨name, u, ty, e1, e2, e3, e4, e5⟩ := h2 _ (List.mem_singleton.2 rfl)
  have en : name = [101, 114, 114, 111, 114] := (Option.some.inj e1).symm
  subst en
  obtain rfl : u = 207 := Option.some.inj (e2.symm.trans (by kernel_rfl))
  have hm : ty ∈ (List.range 303).filter fun t => Tryz.prog.rowNamed t [101, 114, 114, 111, 114] := List.mem_filter.2 ⟨List.mem_range.2 (by rw [← Tryz.sizeTypes]; exact e3), e4⟩
  rw [Tryz.oneRow] at hm
  obtain rfl := List.mem_singleton.1 hm
  rw [Tryz.handleErr] at e5
  simpa using World.var?_cell Tryz.gType e5 0
 obtain ⟨a0, s0, v0, c0, t0, b0⟩ := sentinel_of_laid (g := 2) h1 rfl (by kernel_rfl) (by kernel_rfl)
 obtain ⟨a1, s1, v1, c1, t1, b1⟩ := sentinel_of_laid (g := 3) h1.tail rfl (by kernel_rfl) (by kernel_rfl)
 obtain ⟨a2, s2, v2, c2, t2, b2⟩ := sentinel_of_laid (g := 4) h1.tail.tail rfl (by kernel_rfl) (by kernel_rfl)
 obtain ⟨a3, s3, v3, c3, t3, b3⟩ := sentinel_of_laid (g := 0) h1.tail.tail.tail rfl (by kernel_rfl) (by kernel_rfl)
 obtain ⟨a4, s4, v4, c4, t4, b4⟩ := sentinel_of_laid (g := 5) h1.tail.tail.tail.tail rfl (by kernel_rfl) (by kernel_rfl)
 obtain ⟨a5, s5, v5, c5, t5, b5⟩ := sentinel_of_laid (g := 6) h1.tail.tail.tail.tail.tail rfl (by kernel_rfl) (by kernel_rfl)
 obtain ⟨a6, s6, v6, c6, t6, b6⟩ := sentinel_of_laid (g := 7) h1.tail.tail.tail.tail.tail.tail rfl (by kernel_rfl) (by kernel_rfl)
 obtain ⟨a7, s7, v7, c7, t7, b7⟩ := sentinel_of_laid (g := 8) h1.tail.tail.tail.tail.tail.tail.tail rfl (by kernel_rfl) (by kernel_rfl)
 obtain ⟨a8, s8, v8, c8, t8, b8⟩ := sentinel_of_laid (g := 1) h1.tail.tail.tail.tail.tail.tail.tail.tail rfl (by kernel_rfl) (by kernel_rfl)
 have hc : ∀ i, i < 9 → ∃ s : ByteArray, W.cell? (nth9 a0 a1 a2 a3 a4 a5 a6 a7 a8 i) = some (.string s) ∧ some s.data.toList = [s0, s1, s2, s3, s4, s5, s6, s7, s8][i]?.map fun s => s.data.toList := by
  intro i hi
  match i, hi with
  | 0, _ => exact ⟨s0, c0, rfl⟩
  | 1, _ => exact ⟨s1, c1, rfl⟩
  | 2, _ => exact ⟨s2, c2, rfl⟩
  | 3, _ => exact ⟨s3, c3, rfl⟩
  | 4, _ => exact ⟨s4, c4, rfl⟩
  | 5, _ => exact ⟨s5, c5, rfl⟩
  | 6, _ => exact ⟨s6, c6, rfl⟩
  | 7, _ => exact ⟨s7, c7, rfl⟩
  | 8, _ => exact ⟨s8, c8, rfl⟩
  | i + 9, h => omega
 refine ⟨nth9 a0 a1 a2 a3 a4 a5 a6 a7 a8, hty, v0, v1, v2, v3, v4, v5, v6, v7, v8, ?_, ?_⟩
 ·
  have hl : [s0, s1, s2, s3, s4, s5, s6, s7, s8].map (fun s => s.data.toList) = (Rows.gateRunsRow.laid.tail.map fun x => match x.2 with | .iface _ (.ptr (.agg [.lit (.string t)])) => t | _ => []) := by
   simp only [List.map_cons, List.map_nil, t0, t1, t2, t3, t4, t5, t6, t7, t8]
   rfl
  have hnd : ((Rows.gateRunsRow.laid.tail.map fun x => match x.2 with | .iface _ (.ptr (.agg [.lit (.string t)])) => t | _ => []) : List (List UInt8)).Nodup := by decide
  intro i j hi hj hij he
  obtain ⟨s, h1, h2⟩ := hc i hi
  obtain ⟨u, h3, h4⟩ := hc j hj
  rw [he, h3] at h1
  injection h1 with h1
  injection h1 with h1
  subst h1
  rw [← List.getElem?_map, hl] at h2 h4
  exact hij ((List.getElem?_inj (by rw [← hl]; simpa using hi) hnd).1 (h2.symm.trans h4))
 ·
  intro i hi
  match i, hi with
  | 0, _ => exact b0
  | 1, _ => exact b1
  | 2, _ => exact b2
  | 3, _ => exact b3
  | 4, _ => exact b4
  | 5, _ => exact b5
  | 6, _ => exact b6
  | 7, _ => exact b7
  | 8, _ => exact b8
  | i + 9, h => omega
theorem door_met9 (os : Os) (args : Array Value) : laidMetH Tryz.prog Rows.gateRunsRow.laid ((World.doorLaid Tryz.prog 187 os).forCall (fun _ _ => 0) ⟨#[], args, []⟩).memory :=
 laidMetH_of_parts3 (fuel := 8) (laidMet_of_run' 8 (by kernel_rfl) (by kernel_rfl)) (by kernel_rfl) (by kernel_rfl)
end Go.Proofs.YtibhkijaafdkoaaGreatDoor

namespace Go.Proofs.YtibhkijaafdkoaaGreatDoor
open Go.ChangeShapes Go.WideShapes Go.ChangeAt Go.RowKit
set_option maxRecDepth 100000 in
theorem gruns_lifted (os : Os) (started : os.Started) (H : Type) (enc : TypeId × Value → H) :
  ReturnsInHanded {} Tryz.checked os 7 .any (fun w args => (Rows.gateRunsSpec.pre enc Tryz.prog Tryz.f7 [] false w args ∧ laidMetH Tryz.prog Rows.gateRunsRow.laid w) ∧ sizedMet enc Tryz.prog Tryz.f7 (OpenSpec.ofChange Rows.gateRunsSpec) false w args)
   (Rows.gateRunsSpec.post enc Tryz.prog Tryz.f7 false true false false) := by
 refine returnsInHanded_of_change_and (C := Tryz.checked) (X := fun w _ => laidMetH Tryz.prog Rows.gateRunsRow.laid w) (fun _ _ _ hh h => h.of_heap hh) Tryz.own started (by kernel_rfl) Tryz.func7
  (ChangeSpec.witness_shaped (enc := enc) (C := Tryz.checked) (os := os) (X := fun w _ => laidMetH Tryz.prog Rows.gateRunsRow.laid w) false (World.doorLaid Tryz.prog 187 os) #[.agg #[.slice none 0 0, .string ⟨#[]⟩, .int .i64 0, .slice none 0 0], .slice none 0 0] 8 rfl (World.shaped_of_RefB (by kernel_rfl) (by kernel_rfl)) (by kernel_rfl) (by kernel_rfl) (by kernel_rfl) (door_met9 os _)) ?_
 intro W base args ds gs before hval0 hW _ _ hL _
 have hval : ∀ (j : Nat) t v, Tryz.f7.params[j]? = some t → args[j]? = some v → Value.okWide Tryz.prog W .any base t v := hval0
 have hW' := hW
 obtain ⟨p, q, hA0, hV, rfl, hfz, hnd⟩ := hW
 have hA : DataW.TrodAll enc Tryz.prog W 0 (fun _ => true) true Tryz.f7.params.toList args.toList ds p := hA0
 rw [Tryz.params7] at hA hval
 obtain ⟨v0, v1, d0, d1, p0, p1, rfl, rfl, rfl, h0, h1⟩ := trodAll_two hA
 obtain ⟨rfl, rfl⟩ := trodVars_none hV
 have lt0 : ∀ x ∈ p0, x.block < W.heap.size := by obtain ⟨m, hm⟩ := h0; exact DataW.trod_lt m _ _ _ hm
 have lt1 : ∀ x ∈ p1, x.block < W.heap.size := by obtain ⟨m, hm⟩ := h1; exact DataW.trod_lt m _ _ _ hm
 have k0 := h0
 have k1 := h1
 obtain ⟨ca0, ccap0, cs0, kb0, per0, na0, ncap0, ns0, rfl, hg0⟩ := open_rgate (hval 0 25 v0 rfl rfl) h0
 obtain ⟨a1, cap1, l1, rfl, hl1, hc1, hm1, ha1⟩ := open_pkts (hval 1 43 v1 rfl rfl) h1
 obtain ⟨ad, he⟩ := errs9_of_laid hL
 refine (gateRuns_any gateWalks ca0 ccap0 cs0 kb0 per0 na0 ncap0 ns0 a1 cap1 l1 W ad he hg0 ⟨hl1, hc1, hm1, ha1⟩).mono fun e W' ⟨he', bel⟩ => ?_
 subst he'
 exact ⟨_, rfl, _, _, _, [], _, [], hW', trodAll_mk1 (shut_bool Tryz.underlying4 _),
  (trodAll_cons_mk (Below.trod Tryz.laidOut (by kernel_rfl) (of_decide_eq_true (by kernel_rfl)) k0 bel lt0) (trodAll_cons_mk (Below.trod Tryz.laidOut (by kernel_rfl) (of_decide_eq_true (by kernel_rfl)) k1 bel lt1) trodAll_mk0)), rfl, bel.frame _, fun h => by cases h⟩
theorem gruns_row : Rows.GateRunsSaid :=
 OpenClaim.holds_of_wide 7 Tryz.f7 rfl rfl rfl rfl rfl rfl rfl ⟨rfl, rfl, rfl, rfl, rfl⟩ rfl rfl rfl rfl rfl (by kernel_rfl) Tryz.func7 (by kernel_rfl)
  (of_decide_eq_true (by kernel_rfl)) (by unfold Func.isWrapper; rw [if_neg (of_decide_eq_false (by kernel_rfl))]; exact ⟨rfl, rfl⟩)
  (fun os started H enc _ => gruns_lifted os started H enc)
theorem gateRuns_holds : Rows.GateRunsCardSaid :=
 Claim7.holds_tied_plain_at .later [] Rows.gateRunsCard.laidKinds true Rows.gateRunsCard.stood.harness true
  gruns_row (fun _ h => by cases h) (by kernel_rfl) (fun _ h => by cases h) gateRuns_row_tie rfl ⟨rfl, rfl⟩ (by kernel_rfl) rfl
  (fun f fn hf hfn => by
   obtain rfl : f = 7 := Option.some.inj ((show Tryz.prog.funcNamed Rows.gateRunsRow.func = some 7 by kernel_rfl).symm.trans hf) |>.symm
   obtain rfl : fn = Tryz.f7 := (Option.some.inj (Tryz.func7.symm.trans hfn)).symm
   exact ⟨by kernel_rfl, fun j t ht => by
    rw [Tryz.params7] at ht
    have h3 : t = 25 ∨ t = 43 := by
     match j, ht with
     | 0, ht => exact .inl (by simpa using ht.symm)
     | 1, ht => exact .inr (by simpa using ht.symm)
     | j + 2, ht => simp at ht
    rcases h3 with rfl | rfl
    · exact (show Tryz.prog.wantsStandIn 25 = false by kernel_rfl)
    · exact (show Tryz.prog.wantsStandIn 43 = false by kernel_rfl)⟩)
  (by kernel_rfl)
#print axioms gateRuns_holds
end Go.Proofs.YtibhkijaafdkoaaGreatDoor
