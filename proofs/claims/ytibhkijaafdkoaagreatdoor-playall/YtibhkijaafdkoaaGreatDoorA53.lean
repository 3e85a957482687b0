/- Own facts, put together: no statement of its own. -/
import Derived.Test.YtibhkijaafdkoaaGreatDoorA05
import Derived.Test.YtibhkijaafdkoaaGreatDoorA18
import Derived.Test.YtibhkijaafdkoaaGreatDoorA25
import Derived.Test.YtibhkijaafdkoaaGreatDoorA52
import Derived.Test.YtibhkijaafdkoaaGreatDoorTie
import Derived.ProofKit
import Derived.OpenShut
import Derived.ShutString
import Derived.ChangeOld
import Derived.ChangeVars
import Derived.Deep.SlicePairs
import Derived.Lib.SmallJoins
import Derived.LaidMore
import Derived.LaidLaws
import Derived.LaidHandle
import Derived.Stop.LaidErr
import Derived.Stop.Joined
import Derived.Test.YtibhkijaafdkoaaGreatDoorA04
namespace Go.Proofs.YtibhkijaafdkoaaGreatDoor
open Go.RowKit
section
variable (ca : Option Addr) (ccap : Nat) (cs : List (List (Int × Int))) (kb : ByteArray) (per : Int) (na : Option Addr) (ncap : Nat) (ns : List Int)
set_option maxRecDepth 100000 in
set_option maxHeartbeats 4000000 in
theorem playAll_out (za : Option Addr) (n zcap : Nat) (w : World) (hg : GateRaw w ca ccap cs na ncap ns) (h : ¬ Slim cs ns ∨ 150 < n) (hnm : n ≤ maxLen) :
  Calls Tryz.prog 8 #[.agg #[.slice ca cs.length ccap, .string kb, .int .i64 per, .slice na ns.length ncap], .slice za n zcap] w fun e w' => e = .returned (.bool true) ∧ Below w.heap.size w w' := by
 have HWi : Hid (∀ W, Below w.heap.size w W → Calls Tryz.prog 10 #[.agg #[.slice ca cs.length ccap, .string kb, .int .i64 per, .slice na ns.length ncap]] W fun e w' => WideEnd cs ns W e w') := fun W hb => wide_any ca ccap cs kb per na ncap ns W (hg.curves.below hb) hg.cfit hg.cmax hg.nfit hg.nmax
 have HH : Hid (Slim cs ns → 150 < n) := fun hs => h.resolve_left (fun h' => h' hs)
 have hb1 : Below w.heap.size w (w.alloc (.cells #[.slice ca cs.length ccap, .string kb, .int .i64 per, .slice na ns.length ncap] 25)) := (Below.refl _ _).alloc (Nat.le_refl _) _
 have hga := gateAt_new w (.slice ca cs.length ccap) kb per (.slice na ns.length ncap) 25
 obtain ⟨V, hV⟩ : ∃ V, w.alloc (.cells #[.slice ca cs.length ccap, .string kb, .int .i64 per, .slice na ns.length ncap] 25) = V := ⟨_, rfl⟩
 rw [hV] at hb1 hga
 have HV : Hid (Below w.heap.size w V ∧ GateAt V w.heap.size (.slice ca cs.length ccap) kb per (.slice na ns.length ncap)) := ⟨hb1, hga⟩
 obtain ⟨m, hm⟩ : ∃ m, cs.length = m := ⟨_, rfl⟩
 obtain ⟨r, hr⟩ : ∃ r, ns.length = r := ⟨_, rfl⟩
 rw [hm, hr] at HWi HV hV
 rw [hm, hr]
 unfold maxLen at hnm
 clear hg hb1 hga hm hr h
 go_enter Tryz.func8, Tryz.ntmps8
 go_wp2_with fail
 refine (rolled_is _).mono ?_
 rintro e w1 ⟨rfl, hb⟩
 have HB1 : Hid (Below w.heap.size w w1) := HV.out.1.trans (hb.mono HV.out.1.size)
 obtain ⟨x0, x1, x2, x3⟩ := HV.out.2.later hb
 clear hb hV
 go_wp2_with fail
 refine (HWi.out _ HB1.out).mono ?_
 rintro e w2 ⟨rfl | ⟨rfl, hs⟩, hb⟩
 ·
  have HB2 : Hid (Below w.heap.size w w2) := HB1.out.trans (hb.mono HB1.out.size)
  clear hb
  go_wp2_with fail
  go_ret
  exact ⟨rfl, HB2.out⟩
 have HB2 : Hid (Below w.heap.size w w2) := HB1.out.trans (hb.mono HB1.out.size)
 have hn150 := HH.out hs
 clear hb hs x0 x1 x2 x3
 go_wp2_with fail
 go_ret
 exact ⟨rfl, HB2.out⟩
set_option maxRecDepth 100000 in
set_option maxHeartbeats 8000000 in
theorem playAll_main (za : Option Addr) (zcap : Nat) (zs : List Int) (w : World) (ad : Nat → Addr) (he : Errs9 w ad) (hg : GateLies w ca ccap cs na ncap ns) (hz : LiesN w za zs) (hzn : zs.length ≤ 150) (hzr : ∀ (i : Nat) v, zs[i]? = some v → v < 9223372036854775808) :
  Calls Tryz.prog 8 #[.agg #[.slice ca cs.length ccap, .string kb, .int .i64 per, .slice na ns.length ncap], .slice za zs.length zcap] w fun e w' => e = .returned (.bool true) ∧ Below w.heap.size w w' := by
 have HWi : Hid (∀ W, Below w.heap.size w W → Calls Tryz.prog 10 #[.agg #[.slice ca cs.length ccap, .string kb, .int .i64 per, .slice na ns.length ncap]] W fun e w' => WideEnd cs ns W e w') := fun W hb => wide_any ca ccap cs kb per na ncap ns W (hg.curves.below hb) hg.cfit hg.cmax hg.nfit hg.nmax
 have HPk : Hid (∀ W, Below w.heap.size w W → Calls Tryz.prog 32 #[.slice za zs.length zcap] W fun e w' => ∃ a cap, e = .returned (.slice a (roll zs).length cap) ∧ PksLie w' a cap (roll zs) ∧ Below W.heap.size W w') := fun W hb => by
  refine (playPackets_is za zcap zs W (hz.below hb) (by omega) hzr).mono ?_
  rintro e w' ⟨v, rfl, o, hb'⟩
  obtain ⟨a, cap, rfl, g1, g2, g3, -, g4⟩ := o.open
  exact ⟨a, cap, rfl, ⟨g3, g1, g2, g4⟩, hb'⟩
 have HOg : Hid (∀ W, Below w.heap.size w W → Calls Tryz.prog 12 #[.agg #[.slice ca cs.length ccap, .string kb, .int .i64 per, .slice na ns.length ncap]] W fun e w' => ∃ c6 k6 n6 m6, e = .returned (.agg #[.slice c6 cs.length k6, .string kb, .int .i64 per, .slice n6 ns.length m6]) ∧ GateLies w' c6 k6 cs n6 m6 ns ∧ Below W.heap.size W w') := fun W hb => by
  refine (ownGate_any ca ccap cs kb per na ncap ns W (hg.curves.below hb) (hg.nums.below hb) hg.nnone hg.slim).mono ?_
  rintro e w' ⟨c6, k6, n6, m6, rfl, h1, h2, h3, h4, h5, h6, h7, h8⟩
  exact ⟨c6, k6, n6, m6, rfl, ⟨h1, h2, h3, h4, h5, h6, h7, hg.slim⟩, h8⟩
 have HE : Hid (Errs9 w ad) := he
 have HOk : Hid (OkPks (roll zs)) := roll_ok zs
 have hb1 : Below w.heap.size w (w.alloc (.cells #[.slice ca cs.length ccap, .string kb, .int .i64 per, .slice na ns.length ncap] 25)) := (Below.refl _ _).alloc (Nat.le_refl _) _
 have hga := gateAt_new w (.slice ca cs.length ccap) kb per (.slice na ns.length ncap) 25
 obtain ⟨V, hV⟩ : ∃ V, w.alloc (.cells #[.slice ca cs.length ccap, .string kb, .int .i64 per, .slice na ns.length ncap] 25) = V := ⟨_, rfl⟩
 rw [hV] at hb1 hga
 have HV : Hid (Below w.heap.size w V ∧ GateAt V w.heap.size (.slice ca cs.length ccap) kb per (.slice na ns.length ncap)) := ⟨hb1, hga⟩
 obtain ⟨m, hm⟩ : ∃ m, cs.length = m := ⟨_, rfl⟩
 obtain ⟨r, hr⟩ : ∃ r, ns.length = r := ⟨_, rfl⟩
 obtain ⟨n, hn⟩ : ∃ n, zs.length = n := ⟨_, rfl⟩
 obtain ⟨ps, hps⟩ : ∃ ps, roll zs = ps := ⟨_, rfl⟩
 rw [hps] at HPk HOk
 obtain ⟨t, ht⟩ : ∃ t, ps.length = t := ⟨_, rfl⟩
 have HM : Hid (cs.length = m ∧ ns.length = r ∧ ps.length = t) := ⟨hm, hr, ht⟩
 have ht3 : t ≤ 300 := by rw [← ht]; exact HOk.out.few
 rw [hm, hr] at HWi HOg HV hV
 rw [hn, ht] at HPk
 rw [hn] at hzn
 rw [hm, hr, hn]
 have hn150 : ¬ 150 < n := by omega
 obtain ⟨c, p, hri⟩ := runIs_is cs (kindOf_le kb.toList) per ns ps
 have HRi : Hid (RunIs cs (kindOf kb.toList) per ns ps c p) := hri
 clear he hg hz hzr hb1 hga hm hr hn hps ht hri
 go_enter Tryz.func8, Tryz.ntmps8
 go_wp2_with fail
 refine (rolled_is _).mono ?_
 rintro e w1 ⟨rfl, hb⟩
 have HB1 : Hid (Below w.heap.size w w1 ∧ GateAt w1 w.heap.size (.slice ca m ccap) kb per (.slice na r ncap)) := ⟨HV.out.1.trans (hb.mono HV.out.1.size), HV.out.2.later hb⟩
 obtain ⟨x0, x1, x2, x3⟩ := HV.out.2.later hb
 clear hb hV
 go_wp2_with fail
 refine (HWi.out _ HB1.out.1).mono ?_
 rintro e w2 ⟨rfl | ⟨rfl, -⟩, hb⟩
 ·
  have HB2 : Hid (Below w.heap.size w w2) := HB1.out.1.trans (hb.mono HB1.out.1.size)
  clear hb
  go_wp2_with fail
  go_ret
  exact ⟨rfl, HB2.out⟩
 have HB2 : Hid (Below w.heap.size w w2 ∧ GateAt w2 w.heap.size (.slice ca m ccap) kb per (.slice na r ncap)) := ⟨HB1.out.1.trans (hb.mono HB1.out.1.size), HB1.out.2.later hb⟩
 clear hb x0 x1 x2 x3
 go_wp2_with fail
 refine (HPk.out _ HB2.out.1).mono ?_
 rintro e w3 ⟨a3, k3, rfl, hp3, hb⟩
 have HB3 : Hid (Below w.heap.size w w3 ∧ GateAt w3 w.heap.size (.slice ca m ccap) kb per (.slice na r ncap) ∧ PksLie w3 a3 k3 ps) := ⟨HB2.out.1.trans (hb.mono HB2.out.1.size), HB2.out.2.later hb, hp3⟩
 obtain ⟨x0, x1, x2, x3⟩ := HB2.out.2.later hb
 clear hb hp3
 go_wp2_with fail
 refine (HOg.out _ HB3.out.1).mono ?_
 rintro e w6 ⟨c6, k6, n6, m6, rfl, hg6, hb6⟩
 have HB6 : Hid (Below w.heap.size w w6 ∧ GateLies w6 c6 k6 cs n6 m6 ns ∧ PksLie w6 a3 k3 ps) := ⟨HB3.out.1.trans (hb6.mono HB3.out.1.size), hg6, HB3.out.2.2.below hb6⟩
 clear hg6 hb6 x0 x1 x2 x3
 by_cases hc : 0 < c
 ·
  have HRun : Hid (Calls Tryz.prog 20 #[.agg #[.slice c6 m k6, .string kb, .int .i64 per, .slice n6 r m6], .slice a3 t k3] w6 fun e w' => ∃ qa qcap la lcap ty v, e = .returned (.tuple #[.slice qa 0 qcap, .slice la 0 lcap, .iface ty v]) ∧ Below w6.heap.size w6 w') := by
   have := gateWalks.bad c6 k6 cs kb per n6 m6 ns a3 k3 ps w6 ad c p (HE.out.below HB6.out.1) HB6.out.2.1 HB6.out.2.2 HRi.out hc
   rw [HM.out.1, HM.out.2.1, HM.out.2.2] at this
   refine this.mono ?_
   rintro e w' ⟨qa, qcap, la, lcap, E, rfl, hE, hb⟩
   obtain ⟨ty, v, rfl⟩ := hE.some_ (by omega)
   exact ⟨qa, qcap, la, lcap, ty, v, rfl, hb⟩
  go_wp2_with fail
  refine HRun.out.mono ?_
  rintro e w8 ⟨qa, qcap, la, lcap, ty, v, rfl, hb8⟩
  have HB8 : Hid (Below w.heap.size w w8) := HB6.out.1.trans (hb8.mono HB6.out.1.size)
  clear hb8
  go_wp2_with fail
  go_ret
  exact ⟨rfl, HB8.out⟩
 obtain ⟨hgo, -, hnev, -⟩ : GateOk cs (kindOf kb.toList) per ns ∧ OkPks ps ∧ (∀ i, ¬ NeverAt (curveFl cs) ps i) ∧ True := by
  rcases HRi.out with ⟨-, h⟩ | ⟨-, -, h⟩ | ⟨-, -, i, -, -, rfl, -⟩ | ⟨h1, h2, h3, -⟩
  · exact absurd h hc
  · exact absurd h hc
  · exact absurd (by decide) hc
  · exact ⟨h1, h2, h3, trivial⟩
 have HRun : Hid (Calls Tryz.prog 20 #[.agg #[.slice c6 m k6, .string kb, .int .i64 per, .slice n6 r m6], .slice a3 t k3] w6 fun e w' => ∃ qa qcap la lcap qs l, e = .returned (.tuple #[.slice qa qs.length qcap, .slice la l.length lcap, .nilIface]) ∧ PksLie w' qa qcap qs ∧ SntLie w' la lcap l ∧ SentAll ps qs l ∧ Below w6.heap.size w6 w') := by
  have := gateWalks.good c6 k6 cs kb per n6 m6 ns a3 k3 ps w6 ad (HE.out.below HB6.out.1) HB6.out.2.1 HB6.out.2.2 hgo HOk.out hnev
  rw [HM.out.1, HM.out.2.1, HM.out.2.2] at this
  refine this.mono ?_
  rintro e w' ⟨qa, qcap, la, lcap, qs, l, rfl, h1, h2, h3, h4⟩
  exact ⟨qa, qcap, la, lcap, qs, l, rfl, h1, h2, sentAll_is HOk.out hgo h3, h4⟩
 clear hgo hnev hc
 go_wp2_with fail
 refine HRun.out.mono ?_
 rintro e w8 ⟨qa, qcap, la, lcap, qs, l, rfl, hq8, hl8, hall, hb8⟩
 have HB8 : Hid (Below w.heap.size w w8 ∧ PksLie w8 a3 k3 ps) := ⟨HB6.out.1.trans (hb8.mono HB6.out.1.size), HB6.out.2.2.below hb8⟩
 have HT : Hid (Calls Tryz.prog 33 #[.slice qa qs.length qcap, .slice la l.length lcap] w8 fun e w' => ∃ g, e = .returned (.tuple #[.slice (some ⟨g, 0, none⟩) 8 8, .nilIface]) ∧ TalAt w' g qs l l.length ∧ Below w8.heap.size w8 w') := playTallies_good qa qcap qs la lcap l w8 ad (HE.out.below HB8.out.1) hq8.pks hall.ok hl8.sent hall.len hall.tame hall.names
 have HAll : Hid (flowsTo (fun f => (told qs l f l.length).bytes) 8 = bytesTo ps t ∧ ∀ f : Int, ((told qs l f l.length).bytes = 0) ∨ (1 ≤ (told qs l f l.length).bytes ∧ (told qs l f l.length).bytes ≤ 450000 ∧ 1 ≤ (told qs l f l.length).most ∧ (told qs l f l.length).most ≤ (told qs l f l.length).last)) := ⟨by have := hall.all; rwa [HM.out.2.2] at this, hall.each⟩
 obtain ⟨u, hu⟩ : ∃ u, qs.length = u := ⟨_, rfl⟩
 obtain ⟨s, hs⟩ : ∃ s, l.length = s := ⟨_, rfl⟩
 rw [hu, hs] at HT
 rw [hs] at HAll
 rw [hu, hs]
 clear hq8 hl8 hall hb8 hu hs HRun
 go_wp2_with fail
 refine HT.out.mono ?_
 rintro e w9 ⟨g, rfl, ht9, hb9⟩
 have HB9 : Hid (Below w.heap.size w w9 ∧ PksLie w9 a3 k3 ps ∧ TalAt w9 g qs l s) := ⟨HB8.out.1.trans (hb9.mono HB8.out.1.size), HB8.out.2.below hb9, ht9⟩
 clear ht9 hb9 HT
 have HSum : Hid (∀ k, k ≤ t → 0 ≤ bytesTo ps k ∧ bytesTo ps k ≤ 450000) := fun k hk => by
  have h := bytesTo_in HOk.out k (by rw [HM.out.2.2]; exact hk)
  omega
 have HFl : Hid (∀ k, 0 ≤ flowsTo (fun f => (told qs l f s).bytes) k ∧ flowsTo (fun f => (told qs l f s).bytes) k ≤ 450000 * k) := fun k => by
  induction k with
  | zero => simp [flowsTo]
  | succ k ih =>
   have h := HAll.out.2 (k : Int)
   simp only [flowsTo]
   omega
 clear HE HV HWi HPk HOg HRi HB1 HB2 HB3 HB6 HB8
 go_wp2_with fail
 go_loopw [11, 12] (fun sv iv wr => ∃ k : Nat, k ≤ t ∧ sv = .int .i64 (bytesTo ps k) ∧ iv = .int .i64 (k : Int) ∧ w9 = wr) (fun _ v _ => t - (intOf v).toNat)
 case atStart => exact ⟨0, Nat.zero_le _, rfl, rfl, rfl⟩
 case round =>
  obtain ⟨k, hkt, rfl, rfl, rfl⟩ := hrel
  obtain ⟨s1, s2⟩ := HSum.out k hkt
  by_cases hlt : k < t
  ·
   obtain ⟨⟨x, y, z⟩, hx, -⟩ := get_some ps k (by rw [HM.out.2.2]; exact hlt)
   have hok := okPk_true (HOk.out.each k _ hx).1
   obtain ⟨pb, po, rfl, -, hpc⟩ := HB9.out.2.1.pks.place (by rw [HM.out.2.2]; omega)
   have p1 := (hpc k _ hx).2.1
   have HNx : Hid (bytesTo ps (k + 1) = bytesTo ps k + y) := bytesTo_succ hx
   simp only at hok p1
   obtain ⟨-, -, y1, y2, -, -⟩ := hok
   obtain ⟨S, hS⟩ : ∃ S, bytesTo ps k = S := ⟨_, rfl⟩
   rw [hS] at s1 s2 HNx
   rw [hS]
   clear hpc hx hS
   go_wp2_with fail
   go_roundw
   case rel => exact ⟨k + 1, by omega, by rw [HNx.out], by go_num, by first | rfl | trivial⟩
   case measure => simp [intOf]; omega
  ·
   obtain rfl : k = t := by omega
   obtain ⟨S, hS⟩ : ∃ S, bytesTo ps k = S := ⟨_, rfl⟩
   rw [hS] at s1 s2 HAll
   rw [hS]
   clear hS
   go_wp2_with fail
   go_loopw [11, 13] (fun sv iv wr => ∃ f : Nat, f ≤ 8 ∧ sv = .int .i64 (S - flowsTo (fun f => (told qs l f s).bytes) f) ∧ iv = .int .i64 (f : Int) ∧ Below w9.heap.size w9 wr) (fun _ v _ => 8 - (intOf v).toNat)
   case atStart => exact ⟨0, Nat.zero_le _, by simp [flowsTo], rfl, Below.refl _ _⟩
   case round =>
    obtain ⟨f, hf8, rfl, rfl, hbf⟩ := hrel
    have HBf : Hid (Below w9.heap.size w9 wr) := hbf
    have hfl := HFl.out f
    by_cases hlt : f < 8
    ·
     have hc := (HB9.out.2.2 f hlt).later hbf
     have hin := HAll.out.2 (f : Int)
     have HNx : Hid (flowsTo (fun f => (told qs l f s).bytes) (f + 1) = flowsTo (fun f => (told qs l f s).bytes) f + (told qs l f s).bytes) := rfl
     obtain ⟨T, hT⟩ : ∃ T, told qs l (f : Int) s = T := ⟨_, rfl⟩
     obtain ⟨U, hU⟩ : ∃ U, flowsTo (fun f => (told qs l f s).bytes) f = U := ⟨_, rfl⟩
     rw [hT, hU] at HNx
     rw [hT] at hc hin
     rw [hU] at hfl
     rw [hU]
     obtain ⟨tb, tm, tl⟩ := T
     have c0 := hc.c0
     have c1 := hc.c1
     have c2 := hc.c2
     simp only at c0 c1 c2 hin HNx
     obtain ⟨g1, g2⟩ := hfl
     have hu : U ≤ 3600000 := by omega
     clear hc hT hU hbf g2
     rcases hin with rfl | ⟨h1, h2, h3, h4⟩
     ·
      go_wp2_with fail
      go_quiet (fail)
      go_wp2_with fail
      go_roundw
      case rel => exact ⟨f + 1, by omega, by rw [HNx.out, Int.add_zero], by go_num, below_drewN HBf.out _⟩
      case measure => simp [intOf]; omega
     ·
      have d1 : decide (0 < tb) = true := decide_eq_true (by omega)
      have d2 : decide (tm < 1) = false := decide_eq_false (by omega)
      have d3 : decide (tl < tm) = false := decide_eq_false (by omega)
      go_wp2_with fail
      go_quiet (fail)
      go_wp2_with fail
      go_roundw
      case rel => exact ⟨f + 1, by omega, by rw [HNx.out, Int.sub_sub], by go_num, below_drewN HBf.out _⟩
      case measure => simp [intOf]; omega
    ·
     obtain rfl : f = 8 := by omega
     have HZ : Hid (S - flowsTo (fun f => (told qs l f s).bytes) 8 = 0) := by
      show _ = _
      rw [HAll.out.1]; omega
     rw [HZ.out]
     go_wp2_with fail
     go_ret
     exact ⟨rfl, HB9.out.1.trans (HBf.out.mono HB9.out.1.size)⟩
theorem playAll_any (za : Option Addr) (zcap : Nat) (zs : List Int) (w : World) (ad : Nat → Addr) (he : Errs9 w ad) (hg : GateRaw w ca ccap cs na ncap ns) (hz : LiesN w za zs) (hzm : zs.length ≤ maxLen) (hzr : ∀ (i : Nat) v, zs[i]? = some v → v < 9223372036854775808) :
  Calls Tryz.prog 8 #[.agg #[.slice ca cs.length ccap, .string kb, .int .i64 per, .slice na ns.length ncap], .slice za zs.length zcap] w fun e w' => e = .returned (.bool true) ∧ Below w.heap.size w w' := by
 by_cases hs : Slim cs ns
 ·
  by_cases hn : 150 < zs.length
  · exact playAll_out ca ccap cs kb per na ncap ns za zs.length zcap w hg (.inr hn) hzm
  · exact playAll_main ca ccap cs kb per na ncap ns za zcap zs w ad he (hg.lies hs) hz (by omega) hzr
 · exact playAll_out ca ccap cs kb per na ncap ns za zs.length zcap w hg (.inl hs) hzm
end
end Go.Proofs.YtibhkijaafdkoaaGreatDoor

namespace Go.Proofs.YtibhkijaafdkoaaGreatDoor
open Go.ChangeShapes Go.WideShapes Go.ChangeAt Go.RowKit
theorem Tryz.own : ownKnob Tryz.prog.godebug = none := by kernel_rfl
theorem Tryz.laidOut : laidOutB Tryz.prog = true := by kernel_rfl
theorem Tryz.cellsInt : Tryz.prog.cellsOf 3 = 1 := by kernel_rfl
theorem Tryz.cellsES : Tryz.prog.cellsOf 291 = 1 := by kernel_rfl
theorem Tryz.cellsStr : Tryz.prog.cellsOf 9 = 1 := by kernel_rfl
def nameES : String := match (Rows.laid_floodgate_api_ErrBound : DataW Unit) with | .iface n _ => n | _ => "none"
theorem rows_star {P : Program} {tp : TypeId} {s : String} (hs : s = nameES) (h : ((List.range P.types.size).all fun u => P.typeName? 3 u != some nameES || u == tp) = true) : ((List.range P.types.size).all fun u => P.typeName? 3 u != some s || u == tp) = true := by
 rw [hs]
 exact h
theorem Tryz.rowPES (u : TypeId) (h : Tryz.prog.typeName? 3 u = some nameES) : u = 271 :=
 typeName_ptr_named (P := Tryz.prog) (nm := "errors.errorString") (tp := 271) (rows_star (by decide) (by kernel_rfl)) (by kernel_rfl) (by decide) u (h.trans (congrArg some (by decide)))
set_option maxRecDepth 100000 in
theorem sentinel_of_laid {n nm : String} {text : List UInt8} {r : List (String × DataW Unit)} {W : World} {g : Nat}
  (h : laidMet Tryz.prog ((n, .iface nm (.ptr (.agg [.lit (.string text)]))) :: r) W)
  (hnm : nm = nameES) (hg : Tryz.prog.globalNamed n = some g) (ht : (Tryz.prog.globals[g]?).map (·.type) = some 29) :
  ∃ (a : Addr) (s : ByteArray), W.cell? ⟨g, 0, none⟩ = some (.iface 271 (.pointer (some a))) ∧ W.cell? a = some (.string s) ∧ s.data.toList = text ∧ ∃ c t, W.heap[a.block]? = some (.cells c t (0, 0)) := by
 obtain ⟨ps, ⟨g0, t0, cs0, f0, p0, q0, hg0, ht0, hv0, hd0, _, e0⟩, _, hrows⟩ := h
 obtain rfl := Option.some.inj (hg.symm.trans hg0)
 obtain rfl := Option.some.inj (ht.symm.trans ht0)
 subst e0
 obtain ⟨l0⟩ := cs0
 have ok0 : ∀ u v, l0 = [.iface u v] → Value.okWide Tryz.prog W .any 0 u v := fun u v e => by
  subst e
  exact (hrows g 0 (by simp [MemPlace.row])).2 u v (by simpa using World.var?_cell hg0 hv0 0)
 obtain ⟨a0, s0, rfl, hc0, hs0, hz0, rfl⟩ := errorString_of_trod Tryz.underlying29 (fun u hu => Tryz.rowPES u (by rw [← hnm]; exact hu)) Tryz.underlying271 Tryz.underlying291 rfl rfl Tryz.underlying9 Tryz.cellsES Tryz.cellsStr hd0 ok0
 exact ⟨a0, s0, by simpa using World.var?_cell hg0 hv0 0, hc0, hs0, (hrows a0.block a0.off (by simp [MemPlace.row])).1⟩
end Go.Proofs.YtibhkijaafdkoaaGreatDoor
