/- Own facts, put together: no statement of its own. -/
import Derived.Test.YtibhkijaafdkoaaGreatDoorK31
import Derived.Test.YtibhkijaafdkoaaGreatDoorK04
import Derived.Test.YtibhkijaafdkoaaGreatDoorK13
namespace Go.Proofs.YtibhkijaafdkoaaGreatDoor
open Go.RowKit
def CurvesUpTo (cs : List (List (Int × Int))) (j : Nat) : Prop := j ≤ 8 ∧ (∀ i, i < j → curveFl cs i ≠ []) ∧ (j = 8 ∨ curveFl cs j = [])
structure KeepWalks (S : List (Int × Int) → List (Int × Int) → Int → List (Int × Int) → Prop) (Dd Db : Int → List (Int × Int) → Option Int → Prop) : Prop where
 audit : ∀ (a : Option Addr) (cap : Nat) (ps : List Pk) (per : Int) (b : Option Addr) (bcap : Nat) (l : List Sn) (w : World) (ad : Nat → Addr), Errs9 w ad → LiesP w a ps → ps.length ≤ cap → cap ≤ maxLen → LiesS w b l → OkPks ps → 1 ≤ per → per ≤ 1000 → Conv per ps l → Turns ps l → l.length = ps.length →
  Calls Tryz.prog 22 #[.slice a ps.length cap, .int .i64 per, .slice b l.length bcap] w fun e w' => e = .returned .nilIface ∧ Below w.heap.size w w'
 delays : ∀ (a : Option Addr) (cap : Nat) (ps : List Pk) (per : Int) (b : Option Addr) (bcap : Nat) (l : List Sn) (w : World) (ad : Nat → Addr), Errs9 w ad → LiesP w a ps → LiesS w b l → OkPks ps → 1 ≤ per → per ≤ 1000 → Conv per ps l → l.length = ps.length →
  Calls Tryz.prog 24 #[.slice a ps.length cap, .slice b l.length bcap] w fun e w' => ∃ D, e = .returned (.tuple #[.slice (some ⟨D, 0, none⟩) l.length l.length, .nilIface]) ∧ (∀ (i : Nat) x, l[i]? = some x → w'.cell? ⟨D, i, none⟩ = some (.int .i64 (x.fin - tickOf ps x.num.toNat))) ∧ Below w.heap.size w w'
 keep : ∀ (cs : List (List (Int × Int))) (k : Nat) (per : Int) (ns : List Int) (ps qs : List Pk) (l : List Sn) (n : Int) (j : Nat), GateOk cs k per ns → OkPks ps → GateRun (curveFl cs) k per ns ps qs l → BoundIs S Dd Db cs k per (some n) → CurvesUpTo cs j → (∀ (i : Nat) p, ps[i]? = some p → p.flow < j) → ∀ (i : Nat) x, l[i]? = some x → x.fin - tickOf qs x.num.toNat ≤ n
section
variable (S : List (Int × Int) → List (Int × Int) → Int → List (Int × Int) → Prop) (Dd Db : Int → List (Int × Int) → Option Int → Prop) (ca : Option Addr) (ccap : Nat) (cs : List (List (Int × Int))) (kb : ByteArray) (per : Int) (na : Option Addr) (ncap : Nat) (ns : List Int) (pa : Option Addr) (pcap : Nat) (ps : List Pk) (w : World) (ad : Nat → Addr)
set_option maxRecDepth 100000 in
set_option maxHeartbeats 8000000 in
theorem gateKeeps_main (GW : GateWalks) (BW : BoundWalks S Dd Db) (KW : KeepWalks S Dd Db) (he : Errs9 w ad) (hg : GateLies w ca ccap cs na ncap ns) (hp : PksLie w pa pcap ps) (hfit : ps.length ≤ 120 ∨ ps.length = 301) :
  Calls Tryz.prog 4 #[.agg #[.slice ca cs.length ccap, .string kb, .int .i64 per, .slice na ns.length ncap], .slice pa ps.length pcap] w fun e w' => e = .returned (.bool true) ∧ Below w.heap.size w w' := by
 have HOp : Hid (∀ W, Below w.heap.size w W → Calls Tryz.prog 9 #[] W fun e w' => e = .returned (.bool true) ∧ Below W.heap.size W w') := fun W hb => opens_by GW W ad (he.below hb)
 have HWi : Hid (∀ W, Below w.heap.size w W → Calls Tryz.prog 10 #[.agg #[.slice ca cs.length ccap, .string kb, .int .i64 per, .slice na ns.length ncap]] W fun e w' => WideEnd cs ns W e w') := fun W hb => wide_any ca ccap cs kb per na ncap ns W (hg.curves.below hb) hg.cfit hg.cmax hg.nfit hg.nmax
 have HFit : Hid (∀ w', Calls Tryz.prog 19 #[.slice pa ps.length pcap, .int .i64 120] w' fun e w'' => e = .returned (.bool true) ∧ w'' = w') := fun w' => fitPkts_yes pa ps.length pcap 120 w' (Nat.le_trans hp.cap hp.max) (by omega)
 have HOg : Hid (∀ W, Below w.heap.size w W → Calls Tryz.prog 12 #[.agg #[.slice ca cs.length ccap, .string kb, .int .i64 per, .slice na ns.length ncap]] W fun e w' => ∃ c6 k6 n6 m6, e = .returned (.agg #[.slice c6 cs.length k6, .string kb, .int .i64 per, .slice n6 ns.length m6]) ∧ GateLies w' c6 k6 cs n6 m6 ns ∧ Below W.heap.size W w') := fun W hb => (ownGate_any ca ccap cs kb per na ncap ns W (hg.curves.below hb) (hg.nums.below hb) hg.nnone hg.slim).mono fun e w' ⟨c6, k6, n6, m6, h1, h2, h3, h4, h5, h6, h7, h8, h9⟩ => ⟨c6, k6, n6, m6, h1, ⟨h2, h3, h4, h5, h6, h7, h8, hg.slim⟩, h9⟩
 have HOp2 : Hid (∀ W, Below w.heap.size w W → Calls Tryz.prog 21 #[.slice pa ps.length pcap] W fun e w' => ∃ a' cap', e = .returned (.slice a' ps.length cap') ∧ PksLie w' a' cap' ps ∧ Below W.heap.size W w') := fun W hb => (ownPackets_any pa pcap ps W (hp.pks.below hb) (by omega) hp.none_).mono fun e w' ⟨v, h1, h2, h3⟩ => by
  obtain ⟨a', cap', rfl, g1, g2, g3, -, g5⟩ := OwnP.open h2
  exact ⟨a', cap', h1, ⟨g3, g1, g2, g5⟩, h3⟩
 have HGl : Hid (Errs9 w ad ∧ GateLies w ca ccap cs na ncap ns ∧ PksLie w pa pcap ps) := ⟨he, hg, hp⟩
 have HW : Hid (GateWalks ∧ BoundWalks S Dd Db ∧ KeepWalks S Dd Db) := ⟨GW, BW, KW⟩
 have hb1 : Below w.heap.size w (w.alloc (.cells #[.slice ca cs.length ccap, .string kb, .int .i64 per, .slice na ns.length ncap] 25)) := (Below.refl _ _).alloc (Nat.le_refl _) _
 have hga := gateAt_new w (.slice ca cs.length ccap) kb per (.slice na ns.length ncap) 25
 obtain ⟨V, hV⟩ : ∃ V, w.alloc (.cells #[.slice ca cs.length ccap, .string kb, .int .i64 per, .slice na ns.length ncap] 25) = V := ⟨_, rfl⟩
 rw [hV] at hb1 hga
 have HV : Hid (Below w.heap.size w V ∧ GateAt V w.heap.size (.slice ca cs.length ccap) kb per (.slice na ns.length ncap)) := ⟨hb1, hga⟩
 obtain ⟨m, hm⟩ : ∃ m, cs.length = m := ⟨_, rfl⟩
 obtain ⟨r, hr⟩ : ∃ r, ns.length = r := ⟨_, rfl⟩
 obtain ⟨n, hn⟩ : ∃ n, ps.length = n := ⟨_, rfl⟩
 have HM : Hid (cs.length = m ∧ ns.length = r ∧ ps.length = n) := ⟨hm, hr, hn⟩
 have hnm : n ≤ 301 := by omega
 rw [hm, hr] at HWi HOg HV hV
 rw [hn] at HFit HOp2
 rw [hm, hr, hn]
 obtain ⟨c, p, hri⟩ := runIs_is cs (kindOf_le kb.toList) per ns ps
 have HRi : Hid (RunIs cs (kindOf kb.toList) per ns ps c p) := hri
 clear he hg hp hfit hb1 hga hm hr hn GW BW KW hri
 go_enter Tryz.func4, Tryz.ntmps4
 go_wp2_with fail
 refine (HOp.out _ HV.out.1).mono ?_
 rintro e w1 ⟨rfl, hb⟩
 have HB1 : Hid (Below w.heap.size w w1) := HV.out.1.trans (hb.mono HV.out.1.size)
 obtain ⟨x0, x1, x2, x3⟩ := HV.out.2.later hb
 have HX1 : Hid (GateAt w1 w.heap.size (.slice ca m ccap) kb per (.slice na r ncap)) := HV.out.2.later hb
 clear hb hV
 go_wp2_with fail
 refine (HWi.out _ HB1.out).mono ?_
 rintro e w2 ⟨rfl | ⟨rfl, -⟩, hb⟩
 ·
  have HB2 : Hid (Below w.heap.size w w2) := HB1.out.trans (hb.mono HB1.out.size)
  clear hb
  go_wp2_with fail
  go_ret
  exact ⟨rfl, HB2.out⟩
 have HB2 : Hid (Below w.heap.size w w2) := HB1.out.trans (hb.mono HB1.out.size)
 have HX2 : Hid (GateAt w2 w.heap.size (.slice ca m ccap) kb per (.slice na r ncap)) := HX1.out.later hb
 clear hb x0 x1 x2 x3
 go_wp2_with fail
 refine (HFit.out _).mono ?_
 rintro e w3 ⟨rfl, rfl⟩
 obtain ⟨x0, x1, x2, x3⟩ := HX2.out
 go_wp2_with fail
 refine (HOg.out _ HB2.out).mono ?_
 rintro e w6 ⟨c6, k6, n6, m6, rfl, hg6, hb6⟩
 have HB6 : Hid (Below w.heap.size w w6 ∧ GateLies w6 c6 k6 cs n6 m6 ns ∧ GateAt w6 w.heap.size (.slice ca m ccap) kb per (.slice na r ncap)) := ⟨HB2.out.trans (hb6.mono HB2.out.size), hg6, HX2.out.later hb6⟩
 clear hg6 hb6 x0 x1 x2 x3
 go_wp2_with fail
 refine (HOp2.out _ HB6.out.1).mono ?_
 rintro e w7 ⟨a7, k7, rfl, hp7, hb7⟩
 have HB7 : Hid (Below w.heap.size w w7 ∧ GateLies w7 c6 k6 cs n6 m6 ns ∧ PksLie w7 a7 k7 ps ∧ GateAt w7 w.heap.size (.slice ca m ccap) kb per (.slice na r ncap)) := ⟨HB6.out.1.trans (hb7.mono HB6.out.1.size), HB6.out.2.1.below hb7, hp7, HB6.out.2.2.later hb7⟩
 clear hp7 hb7
 by_cases hc : 0 < c
 ·
  have HRun : Hid (Calls Tryz.prog 20 #[.agg #[.slice c6 m k6, .string kb, .int .i64 per, .slice n6 r m6], .slice a7 n k7] w7 fun e w' => GateBad c p w7 e w') := by
   have := HW.out.1.bad c6 k6 cs kb per n6 m6 ns a7 k7 ps w7 ad c p (HGl.out.1.below HB7.out.1) HB7.out.2.1 HB7.out.2.2.1 HRi.out hc
   rwa [HM.out.1, HM.out.2.1, HM.out.2.2] at this
  go_wp2_with fail
  refine HRun.out.mono ?_
  rintro e w8 ⟨qa, qcap, la, lcap, E, rfl, hE, hb8⟩
  obtain ⟨ty, v, rfl⟩ := hE.some_ (by omega)
  have HB8 : Hid (Below w.heap.size w w8) := HB7.out.1.trans (hb8.mono HB7.out.1.size)
  clear hb8 hE
  go_wp2_with fail
  go_ret
  exact ⟨rfl, HB8.out⟩
 have hok : GateOk cs (kindOf kb.toList) per ns ∧ OkPks ps ∧ ∀ i, ¬ NeverAt (curveFl cs) ps i := by
  rcases HRi.out with ⟨-, h⟩ | ⟨-, -, h⟩ | ⟨-, -, i, -, -, h, -⟩ | ⟨h1, h2, h3, -, -⟩
  · exact absurd h hc
  · exact absurd h hc
  · omega
  · exact ⟨h1, h2, h3⟩
 have HOk : Hid (GateOk cs (kindOf kb.toList) per ns ∧ OkPks ps ∧ ∀ i, ¬ NeverAt (curveFl cs) ps i) := hok
 obtain rfl : m = 8 := by rw [← HM.out.1]; exact hok.1.len
 have HRun : Hid (Calls Tryz.prog 20 #[.agg #[.slice c6 8 k6, .string kb, .int .i64 per, .slice n6 r m6], .slice a7 n k7] w7 fun e w' => GateGood cs (kindOf kb.toList) per ns ps w7 e w') := by
  have := HW.out.1.good c6 k6 cs kb per n6 m6 ns a7 k7 ps w7 ad (HGl.out.1.below HB7.out.1) HB7.out.2.1 HB7.out.2.2.1 hok.1 hok.2.1 hok.2.2
  rwa [HM.out.1, HM.out.2.1, HM.out.2.2] at this
 clear hok hc
 go_wp2_with fail
 refine HRun.out.mono ?_
 rintro e w8 ⟨qa, qcap, la, lcap, qs, l, rfl, hq, hl, hrun, hb8⟩
 obtain ⟨hoq, hql, hls⟩ := hrun.ok HOk.out.2.1 HOk.out.1.curves.ok
 obtain ⟨hcv, htn, hll⟩ := hls.may HOk.out.1.nums hoq HOk.out.1.per.1
 have HB8 : Hid (Below w.heap.size w w8 ∧ PksLie w8 qa qcap qs ∧ SntLie w8 la lcap l ∧ GateRun (curveFl cs) (kindOf kb.toList) per ns ps qs l ∧ GateAt w8 w.heap.size (.slice ca 8 ccap) kb per (.slice na r ncap)) := ⟨HB7.out.1.trans (hb8.mono HB7.out.1.size), hq, hl, hrun, HB7.out.2.2.2.later hb8⟩
 have HQ : Hid (OkPks qs ∧ Conv per qs l ∧ Turns qs l ∧ l.length = qs.length) := ⟨hoq, hcv, htn, hll⟩
 have HLl : Hid (qs.length = n ∧ l.length = n) := ⟨hql.trans HM.out.2.2, hll.trans (hql.trans HM.out.2.2)⟩
 obtain ⟨y0, y1, y2, y3⟩ := HB7.out.2.2.2.later hb8
 rw [HLl.out.1, HLl.out.2]
 clear hq hl hrun hb8 hoq hql hls hcv htn hll HRun
 go_wp2_with fail
 have HSb : Hid (∀ W, Below w8.heap.size w8 W → W.cell? ⟨w.heap.size, 2, none⟩ = some (.int .i64 per)) := fun W hW => cell_later hW HB8.out.2.2.2.2.c2
 have HTr : Hid (∀ W, Below w8.heap.size w8 W → Below w.heap.size w W) := fun W hW => HB8.out.1.trans (hW.mono HB8.out.1.size)
 have HVV : Hid (Below w8.heap.size w8 w8) := Below.refl _ _
 have HD3 : Hid (Below w8.heap.size w8 w8.drew) := below_drewN (Below.refl _ _) 1
 have HOq : Hid (∀ W, Below w8.heap.size w8 W → Calls Tryz.prog 21 #[.slice qa n qcap] W fun e w' => ∃ a' cap', e = .returned (.slice a' n cap') ∧ PksLie w' a' cap' qs ∧ Below W.heap.size W w') := fun W hb => by
  have := ownPackets_any qa qcap qs W (HB8.out.2.1.pks.below hb) (by rw [HLl.out.1]; omega) HB8.out.2.1.none_
  rw [HLl.out.1] at this
  refine this.mono fun e w' ⟨v, h1, h2, h3⟩ => ?_
  obtain ⟨a', cap', rfl, g1, g2, g3, -, g5⟩ := OwnP.open h2
  exact ⟨a', cap', by rw [h1, HLl.out.1], ⟨g3, g1, g2, g5⟩, h3⟩
 have HOl : Hid (∀ W, Below w8.heap.size w8 W → Calls Tryz.prog 23 #[.slice la n lcap] W fun e w' => ∃ a' cap', e = .returned (.slice a' n cap') ∧ LiesS w' a' l ∧ Below W.heap.size W w') := fun W hb => by
  have := ownSent_any la lcap l W (HB8.out.2.2.1.sent.below hb) (by rw [HLl.out.2]; omega) HB8.out.2.2.1.none_
  rw [HLl.out.2] at this
  refine this.mono fun e w' ⟨v, h1, h2, h3⟩ => ?_
  obtain ⟨a', cap', rfl, -, -, g3, -, -⟩ := OwnS.open h2
  exact ⟨a', cap', by rw [h1, HLl.out.2], g3, h3⟩
 have HAu : Hid (∀ W a9 k9 b9 j9, Below w8.heap.size w8 W → PksLie W a9 k9 qs → LiesS W b9 l → Calls Tryz.prog 22 #[.slice a9 n k9, .int .i64 per, .slice b9 n j9] W fun e w' => e = .returned .nilIface ∧ Below W.heap.size W w') := fun W a9 k9 b9 j9 hb h1 h2 => by
  have := HW.out.2.2.audit a9 k9 qs per b9 j9 l W ad (HGl.out.1.below (HTr.out W hb)) h1.pks h1.cap h1.max h2 HQ.out.1 HOk.out.1.per.1 HOk.out.1.per.2 HQ.out.2.1 HQ.out.2.2.1 HQ.out.2.2.2
  rwa [HLl.out.1, HLl.out.2] at this
 clear y0 y1 y2 y3
 have y2 := HB8.out.2.2.2.2.c2
 go_cut [9] (fun s9 wx => s9 = .nilIface ∧ Below w8.heap.size w8 wx)
 case first =>
  go_region_held3 (fun w' => w'.cell? ⟨w.heap.size, 2, none⟩ = some (.int .i64 per))
   (first | exact hS | exact HSb.out _ HD3.out | exact HSb.out _ HVV.out)
   (first
   | (go_at_call 21; refine (HOq.out _ (by first | exact HD3.out | exact HVV.out)).mono ?_; rintro e w9 ⟨a9, k9, rfl, hp9, hb9⟩; have HB9 : Hid (Below w8.heap.size w8 w9 ∧ PksLie w9 a9 k9 qs) := (by first | exact ⟨HD3.out.trans (hb9.mono HD3.out.size), hp9⟩ | exact ⟨HVV.out.trans (hb9.mono HVV.out.size), hp9⟩); have hS := HSb.out w9 HB9.out.1; clear hp9 hb9)
   | (go_at_call 23; refine (HOl.out _ HB9.out.1).mono ?_; rintro e wA ⟨b9, j9, rfl, hlA, hbA⟩; have HBA : Hid (Below w8.heap.size w8 wA ∧ PksLie wA a9 k9 qs ∧ LiesS wA b9 l) := ⟨HB9.out.1.trans (hbA.mono HB9.out.1.size), HB9.out.2.below hbA, hlA⟩; have hS := HSb.out wA HBA.out.1; clear hlA hbA)
   | (go_at_call 22; refine (HAu.out _ a9 k9 b9 j9 HBA.out.1 HBA.out.2.1 HBA.out.2.2).mono ?_; rintro e wB ⟨rfl, hbB⟩; have HBB : Hid (Below w8.heap.size w8 wB) := HBA.out.1.trans (hbB.mono HBA.out.1.size); have hS := HSb.out wB HBB.out; clear hbB))
  all_goals (go_wp2_with fail; go_meet; exact ⟨rfl, HBB.out⟩)
 case rest =>
 obtain ⟨rfl, hbc⟩ := hcut
 have HC : Hid (Below w8.heap.size w8 wc ∧ Below w.heap.size w wc) := ⟨hbc, HTr.out wc hbc⟩
 obtain ⟨x0, x1, x2, x3⟩ := HB8.out.2.2.2.2.later hbc
 have HXc : Hid (GateAt wc w.heap.size (.slice ca 8 ccap) kb per (.slice na r ncap)) := HB8.out.2.2.2.2.later hbc
 clear hbc y2 HSb HVV HD3 HOq HOl HAu
 go_wp2_with fail
 refine (HOg.out _ HC.out.2).mono ?_
 rintro e wd ⟨cd, kd, nd, md, rfl, hgd, hbd⟩
 have HD : Hid (Below w.heap.size w wd ∧ GateLies wd cd kd cs nd md ns ∧ GateAt wd w.heap.size (.slice ca 8 ccap) kb per (.slice na r ncap) ∧ Below w8.heap.size w8 wd) := ⟨HC.out.2.trans (hbd.mono HC.out.2.size), hgd, HXc.out.later hbd, HC.out.1.trans (hbd.mono HC.out.1.size)⟩
 have HBn : Hid (Calls Tryz.prog 11 #[.agg #[.slice cd 8 kd, .string kb, .int .i64 per, .slice nd r md]] wd fun e w' => ∃ o, BoundIs S Dd Db cs (kindOf kb.toList) per o ∧ NumEnd o wd e w') := by
  have := HW.out.2.1.good cd kd cs kb per nd md ns wd ad (HGl.out.1.below HD.out.1) hgd HOk.out.1
  rwa [HM.out.1, HM.out.2.1] at this
 clear hgd hbd x0 x1 x2 x3
 go_wp2_with fail
 refine HBn.out.mono ?_
 rintro e we ⟨o, ho, hbe, ⟨rfl, E, rfl, hE⟩ | ⟨bd, rfl, rfl⟩⟩
 ·
  obtain ⟨ty, v, rfl⟩ := hE.some_ (by decide)
  have HBE : Hid (Below w.heap.size w we) := HD.out.1.trans (hbe.mono HD.out.1.size)
  clear hE hbe ho
  go_wp2_with fail
  go_ret
  exact ⟨rfl, HBE.out⟩
 have HE : Hid (Below w.heap.size w we ∧ GateAt we w.heap.size (.slice ca 8 ccap) kb per (.slice na r ncap) ∧ Below w8.heap.size w8 we ∧ BoundIs S Dd Db cs (kindOf kb.toList) per (some bd)) := ⟨HD.out.1.trans (hbe.mono HD.out.1.size), HD.out.2.2.1.later hbe, HD.out.2.2.2.trans (hbe.mono HD.out.2.2.2.size), ho⟩
 clear hbe ho HBn
 obtain ⟨b, off, rfl, -, hcc⟩ := HGl.out.2.1.curves.place (by rw [HM.out.1]; omega)
 have HCc : Hid (∀ (i : Nat), i < 8 → ∃ a' cap, w.cell? ⟨b, off + i, none⟩ = some (.slice a' (curveFl cs i).length cap) ∧ (curveFl cs i).length ≤ cap ∧ cap ≤ maxLen) := fun i hi => by
  obtain ⟨ls, hls, -⟩ := get_some cs i (by rw [HM.out.1]; omega)
  obtain ⟨a', cap, h1, h2, h3, h4, -⟩ := hcc i ls hls
  rw [curveFl_get hls]
  exact ⟨a', cap, h1, h3, h4⟩
 clear hcc
 go_wp2_with fail
 go_loopw [11] (fun i wr => ∃ j : Nat, j ≤ 8 ∧ i = .int .i64 j ∧ (∀ i, i < j → curveFl cs i ≠ []) ∧ Below we.heap.size we wr) (fun i _ => 8 - (intOf i).toNat)
 case atStart => exact ⟨0, Nat.zero_le _, rfl, fun i hi => absurd hi (Nat.not_lt_zero _), Below.refl _ _⟩
 case round =>
  obtain ⟨j, hj, rfl, hto, hb⟩ := hrel
  obtain ⟨W1, hW1⟩ : ∃ W, W = wr := ⟨_, rfl⟩
  subst hW1
  have HR : Hid ((∀ i, i < j → curveFl cs i ≠ []) ∧ Below we.heap.size we W1 ∧ Below w.heap.size w W1 ∧ Below w8.heap.size w8 W1) := ⟨hto, hb, HE.out.1.trans (hb.mono HE.out.1.size), HE.out.2.2.1.trans (hb.mono HE.out.2.2.1.size)⟩
  have x0 := cell_later hb HE.out.2.1.c0
  clear hto hb
  have HEnd : Hid (CurvesUpTo cs j → True) := fun _ => trivial
  by_cases hj8 : j < 8 ∧ curveFl cs j ≠ []
  ·
   obtain ⟨a', cap, cj, hlc, hlm⟩ := HCc.out j hj8.1
   have cj' := cell_later HR.out.2.2.1 cj
   have hne : 0 < (curveFl cs j).length := List.length_pos_iff.2 hj8.2
   obtain ⟨q, hq⟩ : ∃ q, (curveFl cs j).length = q := ⟨_, rfl⟩
   have hqm : q ≤ 9223372036854775807 := by rw [← hq]; have := Nat.le_trans hlc hlm; unfold maxLen at this; omega
   rw [hq] at cj' hne
   have hj8' := hj8.1
   have HTo : Hid (∀ i, i < j + 1 → curveFl cs i ≠ []) := fun i hi => by
    by_cases e : i = j
    · rw [e]; exact hj8.2
    · exact HR.out.1 i (by omega)
   have hq1 : decide (0 < (q : Int)) = true := decide_eq_true (by omega)
   have hq2 : decide (0 < q) = true := decide_eq_true hne
   clear cj hlc hlm hq hj8
   go_wp2_with fail
   go_roundw
   case rel => exact ⟨j + 1, by omega, by go_num, HTo.out, HR.out.2.1⟩
   case measure => simp [intOf]; omega
  ·
   have HUp : Hid (CurvesUpTo cs j) := ⟨hj, HR.out.1, by
    by_cases e : j = 8
    · exact .inl e
    ·
     refine .inr ?_
     by_cases e2 : curveFl cs j = []
     · exact e2
     · exact absurd ⟨by omega, e2⟩ hj8⟩
   clear HEnd hj8
   rcases Nat.lt_or_ge j 8 with h8 | h8
   ·
    obtain ⟨a', cap, cj, hlc, hlm⟩ := HCc.out j h8
    have cj' := cell_later HR.out.2.2.1 cj
    have hq0 : (curveFl cs j).length = 0 := by
     rcases HUp.out.2.2 with e | e
     · omega
     · rw [e]; rfl
    rw [hq0] at cj'
    clear cj hlc hlm hq0
    go_wp2_with fail
    clear cj' x0
    go_loopw [12] (fun i wr => ∃ t : Nat, t ≤ n ∧ i = .int .i64 t ∧ (∀ (k : Nat) p, k < t → ps[k]? = some p → p.flow < j) ∧ Below W1.heap.size W1 wr) (fun i _ => n - (intOf i).toNat)
    case atStart => exact ⟨0, Nat.zero_le _, rfl, fun k p hk => absurd hk (Nat.not_lt_zero _), Below.refl _ _⟩
    case round =>
     obtain ⟨t, ht, rfl, hfl, hb⟩ := hrel
     obtain ⟨W2, hW2⟩ : ∃ W, W = wr := ⟨_, rfl⟩
     subst hW2
     have HR2 : Hid ((∀ (k : Nat) p, k < t → ps[k]? = some p → p.flow < j) ∧ Below w.heap.size w W2 ∧ Below w8.heap.size w8 W2 ∧ Below W1.heap.size W1 W2) := ⟨hfl, HR.out.2.2.1.trans (hb.mono HR.out.2.2.1.size), HR.out.2.2.2.trans (hb.mono HR.out.2.2.2.size), hb⟩
     clear hfl hb
     by_cases htn : t < n
     ·
      obtain ⟨p, hpt, -⟩ := get_some ps t (by rw [HM.out.2.2]; exact htn)
      obtain ⟨pb, poff, rfl, -, hpc⟩ := HGl.out.2.2.pks.place (by rw [HM.out.2.2]; omega)
      have hp0 := cell_later HR2.out.2.1 (hpc t p hpt).1
      have hcapn : n ≤ pcap := by rw [← HM.out.2.2]; exact HGl.out.2.2.cap
      have HPt : Hid (ps[t]? = some p) := hpt
      obtain ⟨f, hf⟩ : ∃ f, p.flow = f := ⟨_, rfl⟩
      have HF : Hid (p.flow = f) := hf
      rw [hf] at hp0
      clear hpc hpt hf
      by_cases hfj : (j : Int) ≤ f
      ·
       have hfd : decide ((j : Int) ≤ f) = true := decide_eq_true hfj
       go_wp2_with fail
       go_ret
       exact ⟨rfl, HR2.out.2.1⟩
      ·
       have hfd : decide ((j : Int) ≤ f) = false := decide_eq_false hfj
       have HNx : Hid (∀ (k : Nat) p, k < t + 1 → ps[k]? = some p → p.flow < j) := fun k p' hk hp' => by
        by_cases e : k = t
        ·
         subst e
         obtain rfl := Option.some.inj (HPt.out.symm.trans hp')
         rw [HF.out]; omega
        · exact HR2.out.1 k p' (by omega) hp'
       go_wp2_with fail
       go_roundw
       case rel => exact ⟨t + 1, by omega, by go_num, HNx.out, HR2.out.2.2.2⟩
       case measure => simp [intOf]; omega
     ·
      obtain rfl : t = n := by omega
      have HDl : Hid (Calls Tryz.prog 24 #[.slice qa t qcap, .slice la t lcap] W2 fun e w' => ∃ D, e = .returned (.tuple #[.slice (some ⟨D, 0, none⟩) t t, .nilIface]) ∧ (∀ (i : Nat) x, l[i]? = some x → w'.cell? ⟨D, i, none⟩ = some (.int .i64 (x.fin - tickOf qs x.num.toNat))) ∧ Below W2.heap.size W2 w') := by
       have := HW.out.2.2.delays qa qcap qs per la lcap l W2 ad (HGl.out.1.below HR2.out.2.1) (HB8.out.2.1.pks.below HR2.out.2.2.1) (HB8.out.2.2.1.sent.below HR2.out.2.2.1) HQ.out.1 HOk.out.1.per.1 HOk.out.1.per.2 HQ.out.2.1 HQ.out.2.2.2
       rwa [HLl.out.1, HLl.out.2] at this
      have HKp : Hid (∀ (i : Nat) x, l[i]? = some x → x.fin - tickOf qs x.num.toNat ≤ bd) := HW.out.2.2.keep cs _ per ns ps qs l bd j HOk.out.1 HOk.out.2.1 HB8.out.2.2.2.1 HE.out.2.2.2 HUp.out fun i p hi => HR2.out.1 i p (by have := lt_of_get hi; rw [HM.out.2.2] at this; exact this) hi
      go_wp2_with fail
      refine HDl.out.mono ?_
      rintro e wf ⟨D, rfl, hD, hbf⟩
      have HFf : Hid ((∀ (i : Nat) x, l[i]? = some x → wf.cell? ⟨D, i, none⟩ = some (.int .i64 (x.fin - tickOf qs x.num.toNat))) ∧ Below w.heap.size w wf) := ⟨hD, HR2.out.2.1.trans (hbf.mono HR2.out.2.1.size)⟩
      clear hD hbf HDl
      go_wp2_with fail
      go_loopw [14] (fun i wr => ∃ u : Nat, u ≤ t ∧ i = .int .i64 u ∧ Below wf.heap.size wf wr) (fun i _ => t - (intOf i).toNat)
      case atStart => exact ⟨0, Nat.zero_le _, rfl, Below.refl _ _⟩
      case round =>
       obtain ⟨u, hu, rfl, hb⟩ := hrel
       have HR3 : Hid (Below w.heap.size w wr ∧ Below wf.heap.size wf wr) := ⟨HFf.out.2.trans (hb.mono HFf.out.2.size), hb⟩
       by_cases hut : u < t
       ·
        obtain ⟨x, hx, -⟩ := get_some l u (by rw [HLl.out.2]; exact hut)
        have hcd := cell_later hb (HFf.out.1 u x hx)
        have hle := HKp.out u x hx
        obtain ⟨d, hd⟩ : ∃ d, x.fin - tickOf qs x.num.toNat = d := ⟨_, rfl⟩
        rw [hd] at hcd hle
        have hdd : decide (bd < d) = false := decide_eq_false (by omega)
        clear hb hx hd
        go_wp2_with fail
        go_roundw
        case rel => exact ⟨u + 1, by omega, by go_num, HR3.out.2⟩
        case measure => simp [intOf]; omega
       ·
        obtain rfl : u = t := by omega
        clear hb
        go_wp2_with fail
        go_ret
        exact ⟨rfl, HR3.out.1⟩
   ·
    have h8' : decide ((j : Int) < 8) = false := decide_eq_false (by omega)
    go_wp2_with fail
    clear x0
    go_loopw [12] (fun i wr => ∃ t : Nat, t ≤ n ∧ i = .int .i64 t ∧ (∀ (k : Nat) p, k < t → ps[k]? = some p → p.flow < j) ∧ Below W1.heap.size W1 wr) (fun i _ => n - (intOf i).toNat)
    case atStart => exact ⟨0, Nat.zero_le _, rfl, fun k p hk => absurd hk (Nat.not_lt_zero _), Below.refl _ _⟩
    case round =>
     obtain ⟨t, ht, rfl, hfl, hb⟩ := hrel
     obtain ⟨W2, hW2⟩ : ∃ W, W = wr := ⟨_, rfl⟩
     subst hW2
     have HR2 : Hid ((∀ (k : Nat) p, k < t → ps[k]? = some p → p.flow < j) ∧ Below w.heap.size w W2 ∧ Below w8.heap.size w8 W2 ∧ Below W1.heap.size W1 W2) := ⟨hfl, HR.out.2.2.1.trans (hb.mono HR.out.2.2.1.size), HR.out.2.2.2.trans (hb.mono HR.out.2.2.2.size), hb⟩
     clear hfl hb
     by_cases htn : t < n
     ·
      obtain ⟨p, hpt, -⟩ := get_some ps t (by rw [HM.out.2.2]; exact htn)
      obtain ⟨pb, poff, rfl, -, hpc⟩ := HGl.out.2.2.pks.place (by rw [HM.out.2.2]; omega)
      have hp0 := cell_later HR2.out.2.1 (hpc t p hpt).1
      have hcapn : n ≤ pcap := by rw [← HM.out.2.2]; exact HGl.out.2.2.cap
      have HPt : Hid (ps[t]? = some p) := hpt
      obtain ⟨f, hf⟩ : ∃ f, p.flow = f := ⟨_, rfl⟩
      have HF : Hid (p.flow = f) := hf
      rw [hf] at hp0
      clear hpc hpt hf
      by_cases hfj : (j : Int) ≤ f
      ·
       have hfd : decide ((j : Int) ≤ f) = true := decide_eq_true hfj
       go_wp2_with fail
       go_ret
       exact ⟨rfl, HR2.out.2.1⟩
      ·
       have hfd : decide ((j : Int) ≤ f) = false := decide_eq_false hfj
       have HNx : Hid (∀ (k : Nat) p, k < t + 1 → ps[k]? = some p → p.flow < j) := fun k p' hk hp' => by
        by_cases e : k = t
        ·
         subst e
         obtain rfl := Option.some.inj (HPt.out.symm.trans hp')
         rw [HF.out]; omega
        · exact HR2.out.1 k p' (by omega) hp'
       go_wp2_with fail
       go_roundw
       case rel => exact ⟨t + 1, by omega, by go_num, HNx.out, HR2.out.2.2.2⟩
       case measure => simp [intOf]; omega
     ·
      obtain rfl : t = n := by omega
      have HDl : Hid (Calls Tryz.prog 24 #[.slice qa t qcap, .slice la t lcap] W2 fun e w' => ∃ D, e = .returned (.tuple #[.slice (some ⟨D, 0, none⟩) t t, .nilIface]) ∧ (∀ (i : Nat) x, l[i]? = some x → w'.cell? ⟨D, i, none⟩ = some (.int .i64 (x.fin - tickOf qs x.num.toNat))) ∧ Below W2.heap.size W2 w') := by
       have := HW.out.2.2.delays qa qcap qs per la lcap l W2 ad (HGl.out.1.below HR2.out.2.1) (HB8.out.2.1.pks.below HR2.out.2.2.1) (HB8.out.2.2.1.sent.below HR2.out.2.2.1) HQ.out.1 HOk.out.1.per.1 HOk.out.1.per.2 HQ.out.2.1 HQ.out.2.2.2
       rwa [HLl.out.1, HLl.out.2] at this
      have HKp : Hid (∀ (i : Nat) x, l[i]? = some x → x.fin - tickOf qs x.num.toNat ≤ bd) := HW.out.2.2.keep cs _ per ns ps qs l bd j HOk.out.1 HOk.out.2.1 HB8.out.2.2.2.1 HE.out.2.2.2 HUp.out fun i p hi => HR2.out.1 i p (by have := lt_of_get hi; rw [HM.out.2.2] at this; exact this) hi
      go_wp2_with fail
      refine HDl.out.mono ?_
      rintro e wf ⟨D, rfl, hD, hbf⟩
      have HFf : Hid ((∀ (i : Nat) x, l[i]? = some x → wf.cell? ⟨D, i, none⟩ = some (.int .i64 (x.fin - tickOf qs x.num.toNat))) ∧ Below w.heap.size w wf) := ⟨hD, HR2.out.2.1.trans (hbf.mono HR2.out.2.1.size)⟩
      clear hD hbf HDl
      go_wp2_with fail
      go_loopw [14] (fun i wr => ∃ u : Nat, u ≤ t ∧ i = .int .i64 u ∧ Below wf.heap.size wf wr) (fun i _ => t - (intOf i).toNat)
      case atStart => exact ⟨0, Nat.zero_le _, rfl, Below.refl _ _⟩
      case round =>
       obtain ⟨u, hu, rfl, hb⟩ := hrel
       have HR3 : Hid (Below w.heap.size w wr ∧ Below wf.heap.size wf wr) := ⟨HFf.out.2.trans (hb.mono HFf.out.2.size), hb⟩
       by_cases hut : u < t
       ·
        obtain ⟨x, hx, -⟩ := get_some l u (by rw [HLl.out.2]; exact hut)
        have hcd := cell_later hb (HFf.out.1 u x hx)
        have hle := HKp.out u x hx
        obtain ⟨d, hd⟩ : ∃ d, x.fin - tickOf qs x.num.toNat = d := ⟨_, rfl⟩
        rw [hd] at hcd hle
        have hdd : decide (bd < d) = false := decide_eq_false (by omega)
        clear hb hx hd
        go_wp2_with fail
        go_roundw
        case rel => exact ⟨u + 1, by omega, by go_num, HR3.out.2⟩
        case measure => simp [intOf]; omega
       ·
        obtain rfl : u = t := by omega
        clear hb
        go_wp2_with fail
        go_ret
        exact ⟨rfl, HR3.out.1⟩
end
end Go.Proofs.YtibhkijaafdkoaaGreatDoor

namespace Go.Proofs.YtibhkijaafdkoaaGreatDoor
structure KeepWay (S : List (Int × Int) → List (Int × Int) → Int → List (Int × Int) → Prop) (Dd Db : Int → List (Int × Int) → Option Int → Prop) : Prop where
 both : ∀ la lb L, okCurve la → okCurve lb → S la lb 0 L → ∀ t, 0 ≤ t → t ≤ 1099511627776 → curveAt t la + curveAt t lb ≤ curveAt t L
 delay : ∀ per L n, okCurve L → 1 ≤ per → per ≤ 1000 → Dd per L (some n) → ∀ t, 0 ≤ t → t ≤ 1099511627776 → per * curveAt t L - t ≤ n
 busy : ∀ per L n, okCurve L → 1 ≤ per → per ≤ 1000 → Db per L (some n) → 0 ≤ n ∧ per * curveAt n L ≤ n
section
variable {S : List (Int × Int) → List (Int × Int) → Int → List (Int × Int) → Prop} {Dd Db : Int → List (Int × Int) → Option Int → Prop}
theorem addTo_tells (hS : SumWay S) (hK : KeepWay S Dd Db) {cs : List (List (Int × Int))} (hc : CurvesOk (curveFl cs)) (h0 : curveFl cs 0 ≠ []) (t : Int) (t0 : 0 ≤ t) (t1 : t ≤ 1099511627776) : ∀ k L, k ≤ 8 → AddTo S cs k L → sumTo (fun f => curveAt t (curveFl cs f)) k ≤ curveAt t L
 | 0, L, _, h => h.elim
 | 1, L, _, h => by
  have h : L = curveFl cs 0 := h
  rw [h]
  simp only [sumTo]
  omega
 | k + 2, L, hk, ⟨M, h1, h2, h3⟩ => by
  have ih := addTo_tells hS hK hc h0 t t0 t1 (k + 1) M (by omega) h1
  have hM := addTo_ok hS hc h0 (k + 1) M (by omega) h1
  rcases hc (k + 1) (by omega) with e | e
  · exact absurd e h2
  ·
   have := hK.both M _ L hM e h3 t t0 t1
   have e2 : sumTo (fun f => curveAt t (curveFl cs f)) (k + 2) = sumTo (fun f => curveAt t (curveFl cs f)) (k + 1) + curveAt t (curveFl cs (k + 1)) := rfl
   omega
theorem gate_keep (hS : SumWay S) (hK : KeepWay S Dd Db) (cs : List (List (Int × Int))) (k : Nat) (per : Int) (ns : List Int) (ps qs : List Pk) (l : List Sn) (n : Int) (j : Nat) (hg : GateOk cs k per ns) (ho : OkPks ps) (hr : GateRun (curveFl cs) k per ns ps qs l) (hb : BoundIs S Dd Db cs k per (some n)) (hu : CurvesUpTo cs j) (hj : ∀ (i : Nat) p, ps[i]? = some p → p.flow < j) :
  ∀ (i : Nat) x, l[i]? = some x → x.fin - tickOf qs x.num.toNat ≤ n := by
 have hc := hg.curves.ok
 obtain ⟨hoq, hql, hls⟩ := hr.ok ho hc
 obtain ⟨hcv, htn, hll⟩ := hls.may hg.nums hoq hg.per.1
 obtain ⟨at_, O, hsh, hor, rfl, -⟩ := hr
 rcases hb with ⟨-, e⟩ | ⟨L, hall, hnum⟩
 · cases e
 obtain ⟨h0, m, m1, m8, hadd, hend⟩ := hall
 have hjm : j = m := by
  rcases Nat.lt_trichotomy j m with h | h | h
  ·
   rcases hu.2.2 with e | e
   · omega
   ·
    by_cases j0 : j = 0
    · subst j0; exact absurd e h0
    · exact absurd e (addTo_some m L hadd j (by omega) h)
  · exact h
  ·
   rcases hend with e | e
   · have := hu.1; omega
   · exact absurd e (hu.2.1 m h)
 subst hjm
 have hL := addTo_ok hS hc h0 j L m8 hadd
 have hok : ∀ f, f < j → okCurve (curveFl cs f) := fun f hf => by
  rcases hc f (by omega) with e | e
  · exact absurd e (hu.2.1 f hf)
  · exact e
 have hF : ∀ i, i < (gatePks ps at_ O).length → flowOf (gatePks ps at_ O) i < j := fun i hi => by
  have hiO : i < O.length := by simpa [gatePks] using hi
  have hmem : O[i] < ps.length := (hor.mem _).1 (List.getElem_mem hiO)
  have e : ps[O[i]]? = some ps[O[i]] := List.getElem?_eq_getElem hmem
  have hget : (gatePks ps at_ O)[i]? = some (gatePk ps at_ O[i]) := by simp [gatePks, List.getElem?_map, List.getElem?_eq_getElem hiO]
  rw [flowOf_get hget, gatePk_get e]
  have h1 := hj _ _ e
  have h2 := (okPk_true (ho.each _ _ e).1).1
  show (ps[O[i]].flow).toNat < j
  omega
 have hfit : AllFits (fun t => curveAt t L) (gatePks ps at_ O) := flows_all (Cs := fun f t => curveAt t (curveFl cs f)) (F := j) hoq hF (fun f s t hf _ hst => curve_mono _ (hok f hf) s t hst) (fun f hf => by have := (curveAt_bd 0 _ (hok f hf) (by decide) (by decide)).1; show 0 ≤ curveAt 0 (curveFl cs f); omega) (fun f hf => hsh.fits ho hc hor (by omega) (hu.2.1 f hf)) (fun t t0 t1 => addTo_tells hS hK hc h0 t t0 t1 j L m8 hadd)
 intro i x hx
 rcases hnum with ⟨rfl, hd⟩ | ⟨hk1, hd⟩
 ·
  rcases hls with ⟨-, rfl⟩ | ⟨e, -⟩ | ⟨e, -⟩ | ⟨e, -⟩ | ⟨e, -⟩
  ·
   have hi := lt_of_get hx
   rw [lindAll_length] at hi
   rw [lindAll_get hi] at hx
   obtain rfl := Option.some.inj hx
   exact fifo_cruz hoq hg.per.1 hfit (hK.delay per L n hL hg.per.1 hg.per.2 hd) hi
  all_goals omega
 · exact hcv.cruz hoq hg.per.1 hll hfit (fun s t _ hst => curve_mono L hL s t hst) (hK.busy per L n hL hg.per.1 hg.per.2 hd) hx
end
end Go.Proofs.YtibhkijaafdkoaaGreatDoor
