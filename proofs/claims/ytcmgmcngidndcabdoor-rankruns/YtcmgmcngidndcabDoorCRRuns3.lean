/- RankRuns: its longest ways. -/
import Derived.Test.YtcmgmcngidndcabDoorCRRuns2
namespace Go.Proofs.YtcmgmcngidndcabDoor
open Go.RowKit

set_option maxRecDepth 100000 in
set_option maxHeartbeats 2000000 in
theorem rruns_badR (pa : Option Addr) (pcap : Nat) (ps : List Pk) (per : Int) (na : Option Addr) (ncap : Nat) (ns : List Int) (da : Option Addr) (dcap : Nat) (ds : List Int) (w : World) (ad : Nat → Addr) (he : Errs9 w ad) (hp : LiesP w pa ps) (hpa : pa = none → ps = [] ∧ pcap = 0) (hpc : ps.length ≤ pcap) (hpm : pcap ≤ maxLen) (hn : LiesN w na ns) (hna : na = none → ns = [] ∧ ncap = 0) (hd : LiesN w da ds) (hda : da = none → ds = [] ∧ dcap = 0) (hm : ps.length ≤ 80 ∨ ps.length = 301) (hnn : ns.length ≤ 30) (hdd : ds.length ≤ 30) (ho : OkPks ps) (h1 : 1 ≤ per) (h2 : per ≤ 1000) (k : Nat) (hk : NumsFault 0 100 ns k) (hk0 : 0 < k) (hdk : NumsOk 0 1099511627776 ds) :
    Calls Tryd.prog 9 #[.slice pa ps.length pcap, .int .i64 per, .slice na ns.length ncap, .slice da ds.length dcap] w fun e w' => e = .returned (.bool true) ∧ Below w.heap.size w w' := by
  obtain ⟨i0, hi, hz0, hz1, hz2⟩ := info_parts Tryd.infoInt
  have HP : Hid (LiesP w pa ps ∧ (pa = none → ps = [] ∧ pcap = 0)) := ⟨hp, hpa⟩
  have HN : Hid (LiesN w na ns ∧ (na = none → ns = [] ∧ ncap = 0)) := ⟨hn, hna⟩
  have HD : Hid (LiesN w da ds ∧ (da = none → ds = [] ∧ dcap = 0)) := ⟨hd, hda⟩
  have HFit : Hid (∀ w', Calls Tryd.prog 24 #[.slice pa ps.length pcap, .int .i64 80] w' fun e w'' => e = .returned (.bool true) ∧ w'' = w') := fun w' => fitPkts_yes pa ps.length pcap 80 w' (Nat.le_trans hpc hpm) (by omega)
  have HRun : Hid (∀ W a3 k3 a5 k5, Below w.heap.size w W → LiesP W a3 ps → LiesN W a5 ns → ps.length ≤ k3 → k3 ≤ maxLen → Calls Tryd.prog 35 #[.slice a3 ps.length k3, .int .i64 per, .slice a5 ns.length k5] W fun e w' => ∃ ty v, e = .returned (.tuple #[.slice none 0 0, .iface ty v]) ∧ (ErrIs w' (.iface ty v) (k : Int) (-1) ∧ Below W.heap.size W w')) := fun W a3 k3 a5 k5 hb g1 g2 g3 g4 => rankRun_isN a3 k3 ps per a5 k5 ns W ad (he.below hb) g1 g2 ho h1 h2 k hk hk0
  have HDue : Hid (∀ W a3 k3 a5 k5, Below w.heap.size w W → LiesP W a3 ps → LiesN W a5 ds → ps.length ≤ k3 → k3 ≤ maxLen → Calls Tryd.prog 34 #[.slice a3 ps.length k3, .int .i64 per, .slice a5 ds.length k5] W fun e w' => ∃ a' k' l, e = .returned (.tuple #[.slice a' ps.length k', .nilIface]) ∧ (LiesS w' a' l ∧ Sched per ps (dueKeys ps ds) l ∧ l.length = ps.length ∧ (a' = none → l = [] ∧ k' = 0)) ∧ Below W.heap.size W w') := fun W a3 k3 a5 k5 hb g1 g2 g3 g4 => rankDue_lies a3 k3 ps per a5 k5 ds W g1 g2 ho h1 h2 hdk
  have HLf : Hid (∀ W, Below w.heap.size w W → Calls Tryd.prog 26 #[.slice pa ps.length pcap, .int .i64 per] W fun e w' => e = .returned (.agg #[.int .i64 0, .int .i64 (-1)]) ∧ Below W.heap.size W w') := fun W hb => refLinkFault_is pa pcap ps per 0 (-1) W (hp.below hb) hpc hpm (.inr (.inr ⟨ho, h1, h2, rfl, rfl⟩))
  have HNeR : Hid (∀ W, Below w.heap.size w W → Calls Tryd.prog 32 #[.slice na ns.length ncap, .int .i64 0, .int .i64 100] W fun e w' => e = .returned (.int .i64 (k : Int)) ∧ w' = W) := fun W hb => numbersError_is na ncap ns 0 100 W (hn.below hb) k hk
  have HNeD : Hid (∀ W, Below w.heap.size w W → Calls Tryd.prog 32 #[.slice da ds.length dcap, .int .i64 0, .int .i64 1099511627776] W fun e w' => e = .returned (.int .i64 0) ∧ w' = W) := fun W hb => numbersError_is da dcap ds 0 1099511627776 W (hd.below hb) 0 (.inr (.inr ⟨rfl, hdk⟩))
  have HDo : Hid (∀ W, Below w.heap.size w W → Calls Tryd.prog 37 #[.slice pa ps.length pcap, .int .i64 per, .slice da ds.length dcap] W fun e w' => LeastEnd per ps (dueKeys ps ds) W e w') := fun W hb => duesOf_any pa pcap ps per da dcap ds W (hp.below hb) (hd.below hb) ho hdk h1 h2
  have HOk : Hid (OkPks ps) := ho
  have HLt : Hid (∀ W a3 k3 a4 k4 a5 k5 l, Below w.heap.size w W → LiesP W a3 ps → LiesS W a4 l → LiesN W a5 ds → l.length ≤ 300 → tameAll l → (∀ (i : Nat) x, l[i]? = some x → named ps.length x = true) → Calls Tryd.prog 29 #[.slice a3 ps.length k3, .slice a4 l.length k4, .slice a5 ds.length k5] W fun e w' => e = .returned (.tuple #[.int .i64 (lateAll ps ds l), .nilIface]) ∧ Below W.heap.size W w') := fun W a3 k3 a4 k4 a5 k5 l hb g1 g2 g3 g4 g5 g6 => by
    refine (late_any a3 k3 ps a4 k4 l a5 k5 ds W ad (he.below hb).c3 g1 g2 g3 ho hdk g4 g5).mono ?_
    rintro e w' ⟨hb, ⟨rfl, -⟩ | ⟨j, x, F, hx, -, hbad, -⟩⟩
    · exact ⟨rfl, hb⟩
    · rw [g6 j x hx] at hbad; cases hbad
  have HLo : Hid (∀ W a4 k4 l, Below w.heap.size w W → LiesS W a4 l → l.length ≤ 300 → tameAll l → (∀ (i : Nat) x, l[i]? = some x → named ps.length x = true) → Calls Tryd.prog 33 #[.slice pa ps.length pcap, .slice a4 l.length k4, .slice da ds.length dcap] W fun e w' => e = .returned (.int .i64 (lateAll ps ds l)) ∧ Below W.heap.size W w') := fun W a4 k4 l hb g2 g4 g5 g6 => lateOf_any pa pcap ps a4 k4 l da dcap ds W (hp.below hb) g2 (hd.below hb) ho hdk g4 g5 g6
  obtain ⟨c, hcc⟩ : ∃ c : Int, (k : Int) = c := ⟨_, rfl⟩
  have hc : 0 < c := by omega
  have hc0 : (c == 0) = false := by simpa using (show c ≠ 0 by omega)
  rw [hcc] at HRun HNeR
  clear hk hcc hk0
  clear hdk
  have hm80 : ps.length ≤ 80 := by have := ho.few; omega
  clear ho
  clear hp hpa hpc hpm hn hna hd hda he
  obtain ⟨m, hmm⟩ : ∃ m, ps.length = m := ⟨_, rfl⟩
  obtain ⟨r, hnr⟩ : ∃ r, ns.length = r := ⟨_, rfl⟩
  obtain ⟨s, hds⟩ : ∃ s, ds.length = s := ⟨_, rfl⟩
  have HM : Hid (ps.length = m ∧ ns.length = r ∧ ds.length = s) := ⟨hmm, hnr, hds⟩
  have HOwnP : Hid (∀ w', Below w.heap.size w w' → Calls Tryd.prog 21 #[.slice pa m pcap] w' fun e w'' => ∃ a' cap', e = .returned (.slice a' m cap') ∧ LiesP w'' a' ps ∧ m ≤ cap' ∧ cap' ≤ maxLen ∧ Below w'.heap.size w' w'' ∧ Below w.heap.size w w'') := fun w' hb => by
    have := ownPackets_from pa pcap ps w w' hb HP.out.1 (by omega) HP.out.2
    rwa [hmm] at this
  rw [hmm] at hm HFit HRun HDue HLf HDo hm80 ⊢
  rw [hnr] at hnn HRun HNeR ⊢
  rw [hds] at hdd HDue HNeD HDo ⊢
  clear hmm hnr hds
  have hnn' : ¬ 30 < r := by omega
  have hdd' : ¬ 30 < s := by omega
  go_enter Tryd.func9, Tryd.ntmps9
  go_wp2_with fail
  refine (sends_any _).mono ?_
  rintro e w1 ⟨rfl, hb⟩
  have HB1 : Hid (Below w.heap.size w w1) := hb
  clear hb
  go_wp2_with fail
  refine (HFit.out _).mono ?_
  rintro e w1' ⟨rfl, rfl⟩
  go_wp2_with fail
  refine (HOwnP.out _ HB1.out).mono ?_
  rintro e w3 ⟨a3, k3, rfl, l3, g3, m3, b3, B3⟩
  have HB3 : Hid (Below w.heap.size w w3 ∧ LiesP w3 a3 ps ∧ m ≤ k3 ∧ k3 ≤ maxLen) := ⟨B3, l3, g3, m3⟩
  have HN3 : Hid (LiesN w3 na ns) := HN.out.1.below B3
  clear l3 g3 m3 b3 B3
  go_wp2_with (at_builtin; go_must (refine wpList_append_ints _ rfl _ _ 32 rfl 3 i0 (.int .i64 0) Tryd.underlying32 hi hz0 hz1 hz2 rfl na ncap r ns HM.out.2.1 rfl rfl HN3.out HN.out.2 (by omega) ?_; rintro a4 k4 w4 h4; have HB4 : Hid (Below w.heap.size w w4 ∧ LiesP w4 a3 ps ∧ LiesN w4 a4 ns) := ⟨HB3.out.1.trans (h4.2.2.2.mono HB3.out.1.size), HB3.out.2.1.below h4.2.2.2, h4.1⟩; clear h4))
  refine (HRun.out w4 a3 k3 a4 k4 HB4.out.1 HB4.out.2.1 HB4.out.2.2 HB3.out.2.2.1 HB3.out.2.2.2).mono ?_
  rintro e w5 ⟨ty1, v1, rfl, hE5, b5⟩
  have HB5 : Hid (Below w.heap.size w w5 ∧ ErrIs w5 (.iface ty1 v1) c (-1)) := ⟨HB4.out.1.trans (b5.mono HB4.out.1.size), hE5⟩
  clear b5 hE5
  go_wp2_with fail
  refine (HOwnP.out _ HB5.out.1).mono ?_
  rintro e w6 ⟨a6, k6, rfl, l6, g6, m6, b6, B6⟩
  have HB6 : Hid (Below w.heap.size w w6 ∧ LiesP w6 a6 ps ∧ m ≤ k6 ∧ k6 ≤ maxLen ∧ ErrIs w6 (.iface ty1 v1) c (-1)) := ⟨B6, l6, g6, m6, HB5.out.2.below b6⟩
  have HD6 : Hid (LiesN w6 da ds) := HD.out.1.below B6
  clear l6 g6 m6 b6 B6
  go_wp2_with (at_builtin; go_must (refine wpList_append_ints _ rfl _ _ 32 rfl 3 i0 (.int .i64 0) Tryd.underlying32 hi hz0 hz1 hz2 rfl da dcap s ds HM.out.2.2 rfl rfl HD6.out HD.out.2 (by omega) ?_; rintro a7 k7 w7 h7; have HB7 : Hid (Below w.heap.size w w7 ∧ LiesP w7 a6 ps ∧ LiesN w7 a7 ds ∧ ErrIs w7 (.iface ty1 v1) c (-1)) := ⟨HB6.out.1.trans (h7.2.2.2.mono HB6.out.1.size), HB6.out.2.1.below h7.2.2.2, h7.1, HB6.out.2.2.2.2.below h7.2.2.2⟩; clear h7))
  refine (HDue.out w7 a6 k6 a7 k7 HB7.out.1 HB7.out.2.1 HB7.out.2.2.1 HB6.out.2.2.1 HB6.out.2.2.2.1).mono ?_
  rintro e w8 ⟨a8, k8, l2, rfl, h8, b8⟩
  have HB8 : Hid (Below w.heap.size w w8 ∧ ErrIs w8 (.iface ty1 v1) c (-1) ∧ LiesS w8 a8 l2) := ⟨HB7.out.1.trans (b8.mono HB7.out.1.size), HB7.out.2.2.2.below b8, h8.1⟩
  have HQ2 : Hid (Sched per ps (dueKeys ps ds) l2 ∧ l2.length = m ∧ (a8 = none → l2 = [] ∧ k8 = 0)) := ⟨h8.2.1, h8.2.2.1, h8.2.2.2⟩
  clear b8 h8
  go_wp2_with fail
  refine (HLf.out _ HB8.out.1).mono ?_
  rintro e w9 ⟨rfl, b9⟩
  obtain ⟨fa, hfa⟩ : ∃ fa, w9.heap.size = fa := ⟨_, rfl⟩
  have hs1 : (w9.alloc (.cells #[.int .i64 0, .int .i64 (-1)] 39)).heap.size = w9.heap.size + 1 := by simp
  have HA9 : Hid (At2 ((w9.alloc (.cells #[.int .i64 0, .int .i64 (-1)] 39)).alloc (.cells #[.int .i64 0, .int .i64 (-1)] 39)) w9.heap.size (.int .i64 0) (.int .i64 (-1))) := (at2_new w9 _ _ _).later ((Below.refl _ _).alloc (Nat.le_refl _) _)
  have HG9 : Hid (At2 ((w9.alloc (.cells #[.int .i64 0, .int .i64 (-1)] 39)).alloc (.cells #[.int .i64 0, .int .i64 (-1)] 39)) (w9.heap.size + 1) (.int .i64 0) (.int .i64 (-1))) := by
    have := at2_new (w9.alloc (.cells #[.int .i64 0, .int .i64 (-1)] 39)) (.int .i64 0) (.int .i64 (-1)) 39
    rwa [hs1] at this
  have HX9 : Hid (Below w8.heap.size w8 ((w9.alloc (.cells #[.int .i64 0, .int .i64 (-1)] 39)).alloc (.cells #[.int .i64 0, .int .i64 (-1)] 39)) ∧ w8.heap.size ≤ w9.heap.size) := ⟨(b9.alloc b9.size _).alloc (by rw [hs1]; exact Nat.le_succ_of_le b9.size) _, b9.size⟩
  clear b9 hs1 hfa
  go_wp2_with fail
  refine (HNeR.out _ (HB8.out.1.trans (HX9.out.1.mono HB8.out.1.size))).mono ?_
  rintro e w10 ⟨rfl, rfl⟩
  go_wp2_with fail
  refine (bare_any c _).mono ?_
  rintro e w10 ⟨rfl, b10⟩
  have HA10 : Hid (At2 w10 w9.heap.size (.int .i64 0) (.int .i64 (-1))) := HA9.out.later b10
  have HG10 : Hid (At2 w10 (w9.heap.size + 1) (.int .i64 0) (.int .i64 (-1))) := HG9.out.later b10
  have HX10 : Hid (Below w8.heap.size w8 ((w10.setCell ⟨w9.heap.size, 0, none⟩ (.int .i64 c)).setCell ⟨w9.heap.size, 1, none⟩ (.int .i64 (-1)))) := ((HX9.out.1.trans (b10.mono HX9.out.1.size)).setCell HX9.out.2 _).setCell HX9.out.2 _
  obtain ⟨t0, t1, t2, t3⟩ := HA10.out
  clear b10
  go_wp2_with fail
  refine (HNeD.out _ (HB8.out.1.trans (HX10.out.mono HB8.out.1.size))).mono ?_
  rintro e w11 ⟨rfl, rfl⟩
  go_wp2_with fail
  refine (bare_any 0 _).mono ?_
  rintro e w11 ⟨rfl, b11⟩
  obtain ⟨x0, x1, x2, x3⟩ := (HA10.out.set (.int .i64 c) (.int .i64 (-1))).later b11
  have HG11 : Hid (At2 w11 (w9.heap.size + 1) (.int .i64 0) (.int .i64 (-1))) := (HG10.out.other (h := w9.heap.size) (by omega) (.int .i64 c) (.int .i64 (-1))).later b11
  obtain ⟨y0, y1, y2, y3⟩ := HG11.out
  have HG12 : Hid (At2 ((w11.setCell ⟨w9.heap.size + 1, 0, none⟩ (.int .i64 0)).setCell ⟨w9.heap.size + 1, 1, none⟩ (.int .i64 (-1))) (w9.heap.size + 1) (.int .i64 0) (.int .i64 (-1))) := HG11.out.set _ _
  have HX11 : Hid (Below w8.heap.size w8 ((w11.setCell ⟨w9.heap.size + 1, 0, none⟩ (.int .i64 0)).setCell ⟨w9.heap.size + 1, 1, none⟩ (.int .i64 (-1)))) := ((HX10.out.trans (b11.mono HX10.out.size)).setCell (Nat.le_succ_of_le HX9.out.2) _).setCell (Nat.le_succ_of_le HX9.out.2) _
  clear b11 t0 t1 t2 t3
  go_wp2_with fail
  refine (faulted_yes (.iface ty1 v1) c (-1) _ (HB8.out.2.1.code.below HX11.out)).mono ?_
  rintro e w12 ⟨rfl, b12⟩
  have HX12 : Hid (Below w8.heap.size w8 w12) := HX11.out.trans (b12.mono HX11.out.size)
  obtain ⟨q0, q1, r0, r1⟩ := HG12.out.later b12
  clear b12 x0 x1 x2 x3 y0 y1 y2 y3
  go_wp2_with fail
  refine (HDo.out _ (HB8.out.1.trans (HX12.out.mono HB8.out.1.size))).mono ?_
  rintro e w14 ⟨v, ld, rfl, o14, e1, e2, b14⟩
  obtain ⟨a14, k14, rfl, -, -, g14, -, -⟩ := o14.open
  have hsame : ld = l2 := e1.same HQ2.out.1 (by rw [e2, HQ2.out.2.1, HM.out.1])
  subst hsame
  have HX14 : Hid (Below w8.heap.size w8 w14 ∧ LiesS w14 a14 ld) := ⟨HX12.out.trans (b14.mono HX12.out.size), g14⟩
  have hld : ld.length = m := HQ2.out.2.1
  have HSame2 : Hid (∀ W, Below w8.heap.size w8 W → LiesS W a14 ld → Calls Tryd.prog 27 #[.slice a8 m k8, .slice a14 m k14] W fun e w' => e = .returned (.bool true) ∧ Below W.heap.size W w') := fun W hb hS => by
    have := sameSent_yes a8 a14 k8 k14 ld W (HB8.out.2.2.below hb) hS (by omega)
    rwa [hld] at this
  have HOwnS : Hid (∀ W, Below w8.heap.size w8 W → Calls Tryd.prog 18 #[.slice a8 m k8] W fun e w' => ∃ a' cap', e = .returned (.slice a' m cap') ∧ LiesS w' a' ld ∧ Below W.heap.size W w' ∧ Below w8.heap.size w8 w') := fun W hb => by
    have := ownSent_from a8 k8 ld w8 W hb HB8.out.2.2 (by omega) HQ2.out.2.2
    rwa [hld] at this
  have HTm : Hid (tameAll ld ∧ ∀ (i : Nat) x, ld[i]? = some x → named ps.length x = true) := sched_tame HOk.out h1 h2 HQ2.out.1 (by rw [hld]; omega)
  obtain ⟨N, hN⟩ : ∃ N, lateAll ps ds ld = N := ⟨_, rfl⟩
  have HLate : Hid (∀ W a3 k3 a4 k4 a5 k5, Below w.heap.size w W → LiesP W a3 ps → LiesS W a4 ld → LiesN W a5 ds → Calls Tryd.prog 29 #[.slice a3 m k3, .slice a4 m k4, .slice a5 s k5] W fun e w' => e = .returned (.tuple #[.int .i64 N, .nilIface]) ∧ Below W.heap.size W w') := fun W a3 k3 a4 k4 a5 k5 hb g1 g2 g3 => by
    have h := HLt.out W a3 k3 a4 k4 a5 k5 ld hb g1 g2 g3 (by omega) HTm.out.1 HTm.out.2
    rwa [HM.out.1, HM.out.2.2, hld, hN] at h
  have HOf : Hid (∀ W, Below w8.heap.size w8 W → Calls Tryd.prog 33 #[.slice pa m pcap, .slice a8 m k8, .slice da s dcap] W fun e w' => e = .returned (.int .i64 N) ∧ Below W.heap.size W w') := fun W hb => by
    have h := HLo.out W a8 k8 ld (HB8.out.1.trans (hb.mono HB8.out.1.size)) (HB8.out.2.2.below hb) (by omega) HTm.out.1 HTm.out.2
    rwa [HM.out.1, HM.out.2.2, hld, hN] at h
  rw [hld]
  clear b14 o14 g14 e1 e2 hld hN q0 q1 r0 r1
  go_wp2_with fail
  refine (HSame2.out _ HX14.out.1 HX14.out.2).mono ?_
  rintro e w15 ⟨rfl, b15⟩
  have HX15 : Hid (Below w8.heap.size w8 w15) := HX14.out.1.trans (b15.mono HX14.out.1.size)
  clear b15
  go_wp2_with fail
  refine (HOwnP.out _ (HB8.out.1.trans (HX15.out.mono HB8.out.1.size))).mono ?_
  rintro e w16 ⟨a16, k16, rfl, l16, g16, m16, b16, B16⟩
  have HX16 : Hid (Below w8.heap.size w8 w16 ∧ LiesP w16 a16 ps) := ⟨HX15.out.trans (b16.mono HX15.out.size), l16⟩
  clear l16 g16 m16 b16 B16
  go_wp2_with fail
  refine (HOwnS.out _ HX16.out.1).mono ?_
  rintro e w17 ⟨a17, k17, rfl, l17, b17, B17⟩
  have HX17 : Hid (Below w8.heap.size w8 w17 ∧ LiesP w17 a16 ps ∧ LiesS w17 a17 ld) := ⟨B17, HX16.out.2.below b17, l17⟩
  have HD17 : Hid (LiesN w17 da ds) := HD.out.1.below (HB8.out.1.trans (B17.mono HB8.out.1.size))
  clear l17 b17 B17
  go_wp2_with (at_builtin; go_must (refine wpList_append_ints _ rfl _ _ 32 rfl 3 i0 (.int .i64 0) Tryd.underlying32 hi hz0 hz1 hz2 rfl da dcap s ds HM.out.2.2 rfl rfl HD17.out HD.out.2 (by omega) ?_; rintro a18 k18 w18 h18; have HX18 : Hid (Below w8.heap.size w8 w18 ∧ LiesP w18 a16 ps ∧ LiesS w18 a17 ld ∧ LiesN w18 a18 ds) := ⟨HX17.out.1.trans (h18.2.2.2.mono HX17.out.1.size), HX17.out.2.1.below h18.2.2.2, HX17.out.2.2.below h18.2.2.2, h18.1⟩; clear h18))
  refine (HLate.out w18 a16 k16 a17 k17 a18 k18 (HB8.out.1.trans (HX18.out.1.mono HB8.out.1.size)) HX18.out.2.1 HX18.out.2.2.1 HX18.out.2.2.2).mono ?_
  rintro e w19 ⟨rfl, b19⟩
  have HX12' : Hid (Below w8.heap.size w8 w19) := HX18.out.1.trans (b19.mono HX18.out.1.size)
  have hNN : (N == N) = true := by simp
  clear b19
  go_wp2_with fail
  refine (HOf.out _ HX12'.out).mono ?_
  rintro e w13 ⟨rfl, b13⟩
  have HX13 : Hid (Below w.heap.size w w13) := HB8.out.1.trans ((HX12'.out.trans (b13.mono HX12'.out.size)).mono HB8.out.1.size)
  clear b13
  go_wp2_with fail
  go_ret
  exact ⟨rfl, HX13.out⟩
set_option maxRecDepth 100000 in
set_option maxHeartbeats 2000000 in
theorem rruns_badD (pa : Option Addr) (pcap : Nat) (ps : List Pk) (per : Int) (na : Option Addr) (ncap : Nat) (ns : List Int) (da : Option Addr) (dcap : Nat) (ds : List Int) (w : World) (ad : Nat → Addr) (he : Errs9 w ad) (hp : LiesP w pa ps) (hpa : pa = none → ps = [] ∧ pcap = 0) (hpc : ps.length ≤ pcap) (hpm : pcap ≤ maxLen) (hn : LiesN w na ns) (hna : na = none → ns = [] ∧ ncap = 0) (hd : LiesN w da ds) (hda : da = none → ds = [] ∧ dcap = 0) (hm : ps.length ≤ 80 ∨ ps.length = 301) (hnn : ns.length ≤ 30) (hdd : ds.length ≤ 30) (ho : OkPks ps) (h1 : 1 ≤ per) (h2 : per ≤ 1000) (hk : NumsOk 0 100 ns) (j : Nat) (hj : NumsFault 0 1099511627776 ds j) (hj0 : 0 < j) :
    Calls Tryd.prog 9 #[.slice pa ps.length pcap, .int .i64 per, .slice na ns.length ncap, .slice da ds.length dcap] w fun e w' => e = .returned (.bool true) ∧ Below w.heap.size w w' := by
  obtain ⟨i0, hi, hz0, hz1, hz2⟩ := info_parts Tryd.infoInt
  have HP : Hid (LiesP w pa ps ∧ (pa = none → ps = [] ∧ pcap = 0)) := ⟨hp, hpa⟩
  have HN : Hid (LiesN w na ns ∧ (na = none → ns = [] ∧ ncap = 0)) := ⟨hn, hna⟩
  have HD : Hid (LiesN w da ds ∧ (da = none → ds = [] ∧ dcap = 0)) := ⟨hd, hda⟩
  have HFit : Hid (∀ w', Calls Tryd.prog 24 #[.slice pa ps.length pcap, .int .i64 80] w' fun e w'' => e = .returned (.bool true) ∧ w'' = w') := fun w' => fitPkts_yes pa ps.length pcap 80 w' (Nat.le_trans hpc hpm) (by omega)
  have HRun : Hid (∀ W a3 k3 a5 k5, Below w.heap.size w W → LiesP W a3 ps → LiesN W a5 ns → ps.length ≤ k3 → k3 ≤ maxLen → Calls Tryd.prog 35 #[.slice a3 ps.length k3, .int .i64 per, .slice a5 ns.length k5] W fun e w' => ∃ a' k' l, e = .returned (.tuple #[.slice a' ps.length k', .nilIface]) ∧ (LiesS w' a' l ∧ Sched per ps (rankKeys ps ns) l ∧ l.length = ps.length ∧ (a' = none → l = [] ∧ k' = 0)) ∧ Below W.heap.size W w') := fun W a3 k3 a5 k5 hb g1 g2 g3 g4 => rankRun_lies a3 k3 ps per a5 k5 ns W g1 g2 ho h1 h2 hk
  have HDue : Hid (∀ W a3 k3 a5 k5, Below w.heap.size w W → LiesP W a3 ps → LiesN W a5 ds → ps.length ≤ k3 → k3 ≤ maxLen → Calls Tryd.prog 34 #[.slice a3 ps.length k3, .int .i64 per, .slice a5 ds.length k5] W fun e w' => ∃ ty v, e = .returned (.tuple #[.slice none 0 0, .iface ty v]) ∧ (ErrIs w' (.iface ty v) (j : Int) (-1) ∧ Below W.heap.size W w')) := fun W a3 k3 a5 k5 hb g1 g2 g3 g4 => rankDue_isN a3 k3 ps per a5 k5 ds W ad (he.below hb) g1 g2 ho h1 h2 j hj hj0
  have HLf : Hid (∀ W, Below w.heap.size w W → Calls Tryd.prog 26 #[.slice pa ps.length pcap, .int .i64 per] W fun e w' => e = .returned (.agg #[.int .i64 0, .int .i64 (-1)]) ∧ Below W.heap.size W w') := fun W hb => refLinkFault_is pa pcap ps per 0 (-1) W (hp.below hb) hpc hpm (.inr (.inr ⟨ho, h1, h2, rfl, rfl⟩))
  have HNeR : Hid (∀ W, Below w.heap.size w W → Calls Tryd.prog 32 #[.slice na ns.length ncap, .int .i64 0, .int .i64 100] W fun e w' => e = .returned (.int .i64 0) ∧ w' = W) := fun W hb => numbersError_is na ncap ns 0 100 W (hn.below hb) 0 (.inr (.inr ⟨rfl, hk⟩))
  have HRo : Hid (∀ W, Below w.heap.size w W → Calls Tryd.prog 36 #[.slice pa ps.length pcap, .int .i64 per, .slice na ns.length ncap] W fun e w' => LeastEnd per ps (rankKeys ps ns) W e w') := fun W hb => rankOf_any pa pcap ps per na ncap ns W (hp.below hb) (hn.below hb) ho hk.len h1 h2
  have HNeD : Hid (∀ W, Below w.heap.size w W → Calls Tryd.prog 32 #[.slice da ds.length dcap, .int .i64 0, .int .i64 1099511627776] W fun e w' => e = .returned (.int .i64 (j : Int)) ∧ w' = W) := fun W hb => numbersError_is da dcap ds 0 1099511627776 W (hd.below hb) j hj
  clear hk
  obtain ⟨d, hdc⟩ : ∃ d : Int, (j : Int) = d := ⟨_, rfl⟩
  have hd0 : 0 < d := by omega
  have hd1 : (d == 0) = false := by simpa using (show d ≠ 0 by omega)
  rw [hdc] at HDue HNeD
  clear hj hdc hj0
  have hm80 : ps.length ≤ 80 := by have := ho.few; omega
  clear ho
  clear hp hpa hpc hpm hn hna hd hda he
  obtain ⟨m, hmm⟩ : ∃ m, ps.length = m := ⟨_, rfl⟩
  obtain ⟨r, hnr⟩ : ∃ r, ns.length = r := ⟨_, rfl⟩
  obtain ⟨s, hds⟩ : ∃ s, ds.length = s := ⟨_, rfl⟩
  have HM : Hid (ps.length = m ∧ ns.length = r ∧ ds.length = s) := ⟨hmm, hnr, hds⟩
  have HOwnP : Hid (∀ w', Below w.heap.size w w' → Calls Tryd.prog 21 #[.slice pa m pcap] w' fun e w'' => ∃ a' cap', e = .returned (.slice a' m cap') ∧ LiesP w'' a' ps ∧ m ≤ cap' ∧ cap' ≤ maxLen ∧ Below w'.heap.size w' w'' ∧ Below w.heap.size w w'') := fun w' hb => by
    have := ownPackets_from pa pcap ps w w' hb HP.out.1 (by omega) HP.out.2
    rwa [hmm] at this
  rw [hmm] at hm HFit HRun HDue HLf HRo hm80 ⊢
  rw [hnr] at hnn HRun HNeR HRo ⊢
  rw [hds] at hdd HDue HNeD ⊢
  clear hmm hnr hds
  have hnn' : ¬ 30 < r := by omega
  have hdd' : ¬ 30 < s := by omega
  go_enter Tryd.func9, Tryd.ntmps9
  go_wp2_with fail
  refine (sends_any _).mono ?_
  rintro e w1 ⟨rfl, hb⟩
  have HB1 : Hid (Below w.heap.size w w1) := hb
  clear hb
  go_wp2_with fail
  refine (HFit.out _).mono ?_
  rintro e w1' ⟨rfl, rfl⟩
  go_wp2_with fail
  refine (HOwnP.out _ HB1.out).mono ?_
  rintro e w3 ⟨a3, k3, rfl, l3, g3, m3, b3, B3⟩
  have HB3 : Hid (Below w.heap.size w w3 ∧ LiesP w3 a3 ps ∧ m ≤ k3 ∧ k3 ≤ maxLen) := ⟨B3, l3, g3, m3⟩
  have HN3 : Hid (LiesN w3 na ns) := HN.out.1.below B3
  clear l3 g3 m3 b3 B3
  go_wp2_with (at_builtin; go_must (refine wpList_append_ints _ rfl _ _ 32 rfl 3 i0 (.int .i64 0) Tryd.underlying32 hi hz0 hz1 hz2 rfl na ncap r ns HM.out.2.1 rfl rfl HN3.out HN.out.2 (by omega) ?_; rintro a4 k4 w4 h4; have HB4 : Hid (Below w.heap.size w w4 ∧ LiesP w4 a3 ps ∧ LiesN w4 a4 ns) := ⟨HB3.out.1.trans (h4.2.2.2.mono HB3.out.1.size), HB3.out.2.1.below h4.2.2.2, h4.1⟩; clear h4))
  refine (HRun.out w4 a3 k3 a4 k4 HB4.out.1 HB4.out.2.1 HB4.out.2.2 HB3.out.2.2.1 HB3.out.2.2.2).mono ?_
  rintro e w5 ⟨a5, k5, l1, rfl, h5, b5⟩
  have HB5 : Hid (Below w.heap.size w w5 ∧ LiesS w5 a5 l1) := ⟨HB4.out.1.trans (b5.mono HB4.out.1.size), h5.1⟩
  have HQ1 : Hid (Sched per ps (rankKeys ps ns) l1 ∧ l1.length = m) := ⟨h5.2.1, h5.2.2.1⟩
  clear b5 h5
  go_wp2_with fail
  refine (HOwnP.out _ HB5.out.1).mono ?_
  rintro e w6 ⟨a6, k6, rfl, l6, g6, m6, b6, B6⟩
  have HB6 : Hid (Below w.heap.size w w6 ∧ LiesP w6 a6 ps ∧ m ≤ k6 ∧ k6 ≤ maxLen ∧ LiesS w6 a5 l1) := ⟨B6, l6, g6, m6, HB5.out.2.below b6⟩
  have HD6 : Hid (LiesN w6 da ds) := HD.out.1.below B6
  clear l6 g6 m6 b6 B6
  go_wp2_with (at_builtin; go_must (refine wpList_append_ints _ rfl _ _ 32 rfl 3 i0 (.int .i64 0) Tryd.underlying32 hi hz0 hz1 hz2 rfl da dcap s ds HM.out.2.2 rfl rfl HD6.out HD.out.2 (by omega) ?_; rintro a7 k7 w7 h7; have HB7 : Hid (Below w.heap.size w w7 ∧ LiesP w7 a6 ps ∧ LiesN w7 a7 ds ∧ LiesS w7 a5 l1) := ⟨HB6.out.1.trans (h7.2.2.2.mono HB6.out.1.size), HB6.out.2.1.below h7.2.2.2, h7.1, HB6.out.2.2.2.2.below h7.2.2.2⟩; clear h7))
  refine (HDue.out w7 a6 k6 a7 k7 HB7.out.1 HB7.out.2.1 HB7.out.2.2.1 HB6.out.2.2.1 HB6.out.2.2.2.1).mono ?_
  rintro e w8 ⟨ty2, v2, rfl, hE8, b8⟩
  have HB8 : Hid (Below w.heap.size w w8 ∧ LiesS w8 a5 l1 ∧ ErrIs w8 (.iface ty2 v2) d (-1)) := ⟨HB7.out.1.trans (b8.mono HB7.out.1.size), HB7.out.2.2.2.below b8, hE8⟩
  clear b8 hE8
  go_wp2_with fail
  refine (HLf.out _ HB8.out.1).mono ?_
  rintro e w9 ⟨rfl, b9⟩
  obtain ⟨fa, hfa⟩ : ∃ fa, w9.heap.size = fa := ⟨_, rfl⟩
  have hs1 : (w9.alloc (.cells #[.int .i64 0, .int .i64 (-1)] 39)).heap.size = w9.heap.size + 1 := by simp
  have HA9 : Hid (At2 ((w9.alloc (.cells #[.int .i64 0, .int .i64 (-1)] 39)).alloc (.cells #[.int .i64 0, .int .i64 (-1)] 39)) w9.heap.size (.int .i64 0) (.int .i64 (-1))) := (at2_new w9 _ _ _).later ((Below.refl _ _).alloc (Nat.le_refl _) _)
  have HG9 : Hid (At2 ((w9.alloc (.cells #[.int .i64 0, .int .i64 (-1)] 39)).alloc (.cells #[.int .i64 0, .int .i64 (-1)] 39)) (w9.heap.size + 1) (.int .i64 0) (.int .i64 (-1))) := by
    have := at2_new (w9.alloc (.cells #[.int .i64 0, .int .i64 (-1)] 39)) (.int .i64 0) (.int .i64 (-1)) 39
    rwa [hs1] at this
  have HX9 : Hid (Below w8.heap.size w8 ((w9.alloc (.cells #[.int .i64 0, .int .i64 (-1)] 39)).alloc (.cells #[.int .i64 0, .int .i64 (-1)] 39)) ∧ w8.heap.size ≤ w9.heap.size) := ⟨(b9.alloc b9.size _).alloc (by rw [hs1]; exact Nat.le_succ_of_le b9.size) _, b9.size⟩
  clear b9 hs1 hfa
  go_wp2_with fail
  refine (HNeR.out _ (HB8.out.1.trans (HX9.out.1.mono HB8.out.1.size))).mono ?_
  rintro e w10 ⟨rfl, rfl⟩
  go_wp2_with fail
  refine (bare_any 0 _).mono ?_
  rintro e w10 ⟨rfl, b10⟩
  have HA10 : Hid (At2 w10 w9.heap.size (.int .i64 0) (.int .i64 (-1))) := HA9.out.later b10
  have HG10 : Hid (At2 w10 (w9.heap.size + 1) (.int .i64 0) (.int .i64 (-1))) := HG9.out.later b10
  have HX10 : Hid (Below w8.heap.size w8 ((w10.setCell ⟨w9.heap.size, 0, none⟩ (.int .i64 0)).setCell ⟨w9.heap.size, 1, none⟩ (.int .i64 (-1)))) := ((HX9.out.1.trans (b10.mono HX9.out.1.size)).setCell HX9.out.2 _).setCell HX9.out.2 _
  obtain ⟨t0, t1, t2, t3⟩ := HA10.out
  clear b10
  go_wp2_with fail
  refine (HNeD.out _ (HB8.out.1.trans (HX10.out.mono HB8.out.1.size))).mono ?_
  rintro e w11 ⟨rfl, rfl⟩
  go_wp2_with fail
  refine (bare_any d _).mono ?_
  rintro e w11 ⟨rfl, b11⟩
  obtain ⟨x0, x1, x2, x3⟩ := (HA10.out.set (.int .i64 0) (.int .i64 (-1))).later b11
  have HG11 : Hid (At2 w11 (w9.heap.size + 1) (.int .i64 0) (.int .i64 (-1))) := (HG10.out.other (h := w9.heap.size) (by omega) (.int .i64 0) (.int .i64 (-1))).later b11
  obtain ⟨y0, y1, y2, y3⟩ := HG11.out
  have HG12 : Hid (At2 ((w11.setCell ⟨w9.heap.size + 1, 0, none⟩ (.int .i64 d)).setCell ⟨w9.heap.size + 1, 1, none⟩ (.int .i64 (-1))) (w9.heap.size + 1) (.int .i64 d) (.int .i64 (-1))) := HG11.out.set _ _
  have HX11 : Hid (Below w8.heap.size w8 ((w11.setCell ⟨w9.heap.size + 1, 0, none⟩ (.int .i64 d)).setCell ⟨w9.heap.size + 1, 1, none⟩ (.int .i64 (-1)))) := ((HX10.out.trans (b11.mono HX10.out.size)).setCell (Nat.le_succ_of_le HX9.out.2) _).setCell (Nat.le_succ_of_le HX9.out.2) _
  clear b11 t0 t1 t2 t3
  go_wp2_with fail
  refine (HRo.out _ (HB8.out.1.trans (HX11.out.mono HB8.out.1.size))).mono ?_
  rintro e w12a ⟨v, l, rfl, o12, e1, e2, b12⟩
  obtain ⟨a12, k12, rfl, -, -, g12, -, -⟩ := o12.open
  have hsame : l = l1 := e1.same HQ1.out.1 (by rw [e2, HQ1.out.2, HM.out.1])
  subst hsame
  have HX12a : Hid (Below w8.heap.size w8 w12a ∧ LiesS w12a a12 l ∧ At2 w12a (w9.heap.size + 1) (.int .i64 d) (.int .i64 (-1))) := ⟨HX11.out.trans (b12.mono HX11.out.size), g12, HG12.out.later b12⟩
  have hll : l.length = m := HQ1.out.2
  have HSame : Hid (∀ W, Below w8.heap.size w8 W → LiesS W a12 l → Calls Tryd.prog 27 #[.slice a5 m k5, .slice a12 m k12] W fun e w' => e = .returned (.bool true) ∧ Below W.heap.size W w') := fun W hb hS => by
    have := sameSent_yes a5 a12 k5 k12 l W (HB8.out.2.1.below hb) hS (by omega)
    rwa [hll] at this
  rw [hll]
  clear b12 o12 g12 e1 e2 hll x0 x1 x2 x3 y0 y1 y2 y3
  go_wp2_with fail
  refine (HSame.out _ HX12a.out.1 HX12a.out.2.1).mono ?_
  rintro e w12 ⟨rfl, b12⟩
  have HX12 : Hid (Below w8.heap.size w8 w12) := HX12a.out.1.trans (b12.mono HX12a.out.1.size)
  obtain ⟨q0, q1, r0, r1⟩ := HX12a.out.2.2.later b12
  clear b12
  go_wp2_with fail
  refine (faulted_yes (.iface ty2 v2) d (-1) _ (HB8.out.2.2.code.below HX12.out)).mono ?_
  rintro e w13 ⟨rfl, b13⟩
  have HX13 : Hid (Below w.heap.size w w13) := HB8.out.1.trans ((HX12.out.trans (b13.mono HX12.out.size)).mono HB8.out.1.size)
  clear b13
  go_wp2_with fail
  go_ret
  exact ⟨rfl, HX13.out⟩
set_option maxRecDepth 100000 in
set_option maxHeartbeats 2000000 in
theorem rruns_ok (pa : Option Addr) (pcap : Nat) (ps : List Pk) (per : Int) (na : Option Addr) (ncap : Nat) (ns : List Int) (da : Option Addr) (dcap : Nat) (ds : List Int) (w : World) (ad : Nat → Addr) (he : Errs9 w ad) (hp : LiesP w pa ps) (hpa : pa = none → ps = [] ∧ pcap = 0) (hpc : ps.length ≤ pcap) (hpm : pcap ≤ maxLen) (hn : LiesN w na ns) (hna : na = none → ns = [] ∧ ncap = 0) (hd : LiesN w da ds) (hda : da = none → ds = [] ∧ dcap = 0) (hm : ps.length ≤ 80 ∨ ps.length = 301) (hnn : ns.length ≤ 30) (hdd : ds.length ≤ 30) (ho : OkPks ps) (h1 : 1 ≤ per) (h2 : per ≤ 1000) (hk : NumsOk 0 100 ns) (hdk : NumsOk 0 1099511627776 ds) :
    Calls Tryd.prog 9 #[.slice pa ps.length pcap, .int .i64 per, .slice na ns.length ncap, .slice da ds.length dcap] w fun e w' => e = .returned (.bool true) ∧ Below w.heap.size w w' := by
  obtain ⟨i0, hi, hz0, hz1, hz2⟩ := info_parts Tryd.infoInt
  have HP : Hid (LiesP w pa ps ∧ (pa = none → ps = [] ∧ pcap = 0)) := ⟨hp, hpa⟩
  have HN : Hid (LiesN w na ns ∧ (na = none → ns = [] ∧ ncap = 0)) := ⟨hn, hna⟩
  have HD : Hid (LiesN w da ds ∧ (da = none → ds = [] ∧ dcap = 0)) := ⟨hd, hda⟩
  have HFit : Hid (∀ w', Calls Tryd.prog 24 #[.slice pa ps.length pcap, .int .i64 80] w' fun e w'' => e = .returned (.bool true) ∧ w'' = w') := fun w' => fitPkts_yes pa ps.length pcap 80 w' (Nat.le_trans hpc hpm) (by omega)
  have HRun : Hid (∀ W a3 k3 a5 k5, Below w.heap.size w W → LiesP W a3 ps → LiesN W a5 ns → ps.length ≤ k3 → k3 ≤ maxLen → Calls Tryd.prog 35 #[.slice a3 ps.length k3, .int .i64 per, .slice a5 ns.length k5] W fun e w' => ∃ a' k' l, e = .returned (.tuple #[.slice a' ps.length k', .nilIface]) ∧ (LiesS w' a' l ∧ Sched per ps (rankKeys ps ns) l ∧ l.length = ps.length ∧ (a' = none → l = [] ∧ k' = 0)) ∧ Below W.heap.size W w') := fun W a3 k3 a5 k5 hb g1 g2 g3 g4 => rankRun_lies a3 k3 ps per a5 k5 ns W g1 g2 ho h1 h2 hk
  have HDue : Hid (∀ W a3 k3 a5 k5, Below w.heap.size w W → LiesP W a3 ps → LiesN W a5 ds → ps.length ≤ k3 → k3 ≤ maxLen → Calls Tryd.prog 34 #[.slice a3 ps.length k3, .int .i64 per, .slice a5 ds.length k5] W fun e w' => ∃ a' k' l, e = .returned (.tuple #[.slice a' ps.length k', .nilIface]) ∧ (LiesS w' a' l ∧ Sched per ps (dueKeys ps ds) l ∧ l.length = ps.length ∧ (a' = none → l = [] ∧ k' = 0)) ∧ Below W.heap.size W w') := fun W a3 k3 a5 k5 hb g1 g2 g3 g4 => rankDue_lies a3 k3 ps per a5 k5 ds W g1 g2 ho h1 h2 hdk
  have HLf : Hid (∀ W, Below w.heap.size w W → Calls Tryd.prog 26 #[.slice pa ps.length pcap, .int .i64 per] W fun e w' => e = .returned (.agg #[.int .i64 0, .int .i64 (-1)]) ∧ Below W.heap.size W w') := fun W hb => refLinkFault_is pa pcap ps per 0 (-1) W (hp.below hb) hpc hpm (.inr (.inr ⟨ho, h1, h2, rfl, rfl⟩))
  have HNeR : Hid (∀ W, Below w.heap.size w W → Calls Tryd.prog 32 #[.slice na ns.length ncap, .int .i64 0, .int .i64 100] W fun e w' => e = .returned (.int .i64 0) ∧ w' = W) := fun W hb => numbersError_is na ncap ns 0 100 W (hn.below hb) 0 (.inr (.inr ⟨rfl, hk⟩))
  have HRo : Hid (∀ W, Below w.heap.size w W → Calls Tryd.prog 36 #[.slice pa ps.length pcap, .int .i64 per, .slice na ns.length ncap] W fun e w' => LeastEnd per ps (rankKeys ps ns) W e w') := fun W hb => rankOf_any pa pcap ps per na ncap ns W (hp.below hb) (hn.below hb) ho hk.len h1 h2
  have HNeD : Hid (∀ W, Below w.heap.size w W → Calls Tryd.prog 32 #[.slice da ds.length dcap, .int .i64 0, .int .i64 1099511627776] W fun e w' => e = .returned (.int .i64 0) ∧ w' = W) := fun W hb => numbersError_is da dcap ds 0 1099511627776 W (hd.below hb) 0 (.inr (.inr ⟨rfl, hdk⟩))
  have HDo : Hid (∀ W, Below w.heap.size w W → Calls Tryd.prog 37 #[.slice pa ps.length pcap, .int .i64 per, .slice da ds.length dcap] W fun e w' => LeastEnd per ps (dueKeys ps ds) W e w') := fun W hb => duesOf_any pa pcap ps per da dcap ds W (hp.below hb) (hd.below hb) ho hdk h1 h2
  have HOk : Hid (OkPks ps) := ho
  have HLt : Hid (∀ W a3 k3 a4 k4 a5 k5 l, Below w.heap.size w W → LiesP W a3 ps → LiesS W a4 l → LiesN W a5 ds → l.length ≤ 300 → tameAll l → (∀ (i : Nat) x, l[i]? = some x → named ps.length x = true) → Calls Tryd.prog 29 #[.slice a3 ps.length k3, .slice a4 l.length k4, .slice a5 ds.length k5] W fun e w' => e = .returned (.tuple #[.int .i64 (lateAll ps ds l), .nilIface]) ∧ Below W.heap.size W w') := fun W a3 k3 a4 k4 a5 k5 l hb g1 g2 g3 g4 g5 g6 => by
    refine (late_any a3 k3 ps a4 k4 l a5 k5 ds W ad (he.below hb).c3 g1 g2 g3 ho hdk g4 g5).mono ?_
    rintro e w' ⟨hb, ⟨rfl, -⟩ | ⟨j, x, F, hx, -, hbad, -⟩⟩
    · exact ⟨rfl, hb⟩
    · rw [g6 j x hx] at hbad; cases hbad
  have HLo : Hid (∀ W a4 k4 l, Below w.heap.size w W → LiesS W a4 l → l.length ≤ 300 → tameAll l → (∀ (i : Nat) x, l[i]? = some x → named ps.length x = true) → Calls Tryd.prog 33 #[.slice pa ps.length pcap, .slice a4 l.length k4, .slice da ds.length dcap] W fun e w' => e = .returned (.int .i64 (lateAll ps ds l)) ∧ Below W.heap.size W w') := fun W a4 k4 l hb g2 g4 g5 g6 => lateOf_any pa pcap ps a4 k4 l da dcap ds W (hp.below hb) g2 (hd.below hb) ho hdk g4 g5 g6
  clear hk
  clear hdk
  have hm80 : ps.length ≤ 80 := by have := ho.few; omega
  clear ho
  clear hp hpa hpc hpm hn hna hd hda he
  obtain ⟨m, hmm⟩ : ∃ m, ps.length = m := ⟨_, rfl⟩
  obtain ⟨r, hnr⟩ : ∃ r, ns.length = r := ⟨_, rfl⟩
  obtain ⟨s, hds⟩ : ∃ s, ds.length = s := ⟨_, rfl⟩
  have HM : Hid (ps.length = m ∧ ns.length = r ∧ ds.length = s) := ⟨hmm, hnr, hds⟩
  have HOwnP : Hid (∀ w', Below w.heap.size w w' → Calls Tryd.prog 21 #[.slice pa m pcap] w' fun e w'' => ∃ a' cap', e = .returned (.slice a' m cap') ∧ LiesP w'' a' ps ∧ m ≤ cap' ∧ cap' ≤ maxLen ∧ Below w'.heap.size w' w'' ∧ Below w.heap.size w w'') := fun w' hb => by
    have := ownPackets_from pa pcap ps w w' hb HP.out.1 (by omega) HP.out.2
    rwa [hmm] at this
  rw [hmm] at hm HFit HRun HDue HLf HRo HDo hm80 ⊢
  rw [hnr] at hnn HRun HNeR HRo ⊢
  rw [hds] at hdd HDue HNeD HDo ⊢
  clear hmm hnr hds
  have hnn' : ¬ 30 < r := by omega
  have hdd' : ¬ 30 < s := by omega
  go_enter Tryd.func9, Tryd.ntmps9
  go_wp2_with fail
  refine (sends_any _).mono ?_
  rintro e w1 ⟨rfl, hb⟩
  have HB1 : Hid (Below w.heap.size w w1) := hb
  clear hb
  go_wp2_with fail
  refine (HFit.out _).mono ?_
  rintro e w1' ⟨rfl, rfl⟩
  go_wp2_with fail
  refine (HOwnP.out _ HB1.out).mono ?_
  rintro e w3 ⟨a3, k3, rfl, l3, g3, m3, b3, B3⟩
  have HB3 : Hid (Below w.heap.size w w3 ∧ LiesP w3 a3 ps ∧ m ≤ k3 ∧ k3 ≤ maxLen) := ⟨B3, l3, g3, m3⟩
  have HN3 : Hid (LiesN w3 na ns) := HN.out.1.below B3
  clear l3 g3 m3 b3 B3
  go_wp2_with (at_builtin; go_must (refine wpList_append_ints _ rfl _ _ 32 rfl 3 i0 (.int .i64 0) Tryd.underlying32 hi hz0 hz1 hz2 rfl na ncap r ns HM.out.2.1 rfl rfl HN3.out HN.out.2 (by omega) ?_; rintro a4 k4 w4 h4; have HB4 : Hid (Below w.heap.size w w4 ∧ LiesP w4 a3 ps ∧ LiesN w4 a4 ns) := ⟨HB3.out.1.trans (h4.2.2.2.mono HB3.out.1.size), HB3.out.2.1.below h4.2.2.2, h4.1⟩; clear h4))
  refine (HRun.out w4 a3 k3 a4 k4 HB4.out.1 HB4.out.2.1 HB4.out.2.2 HB3.out.2.2.1 HB3.out.2.2.2).mono ?_
  rintro e w5 ⟨a5, k5, l1, rfl, h5, b5⟩
  have HB5 : Hid (Below w.heap.size w w5 ∧ LiesS w5 a5 l1) := ⟨HB4.out.1.trans (b5.mono HB4.out.1.size), h5.1⟩
  have HQ1 : Hid (Sched per ps (rankKeys ps ns) l1 ∧ l1.length = m) := ⟨h5.2.1, h5.2.2.1⟩
  clear b5 h5
  go_wp2_with fail
  refine (HOwnP.out _ HB5.out.1).mono ?_
  rintro e w6 ⟨a6, k6, rfl, l6, g6, m6, b6, B6⟩
  have HB6 : Hid (Below w.heap.size w w6 ∧ LiesP w6 a6 ps ∧ m ≤ k6 ∧ k6 ≤ maxLen ∧ LiesS w6 a5 l1) := ⟨B6, l6, g6, m6, HB5.out.2.below b6⟩
  have HD6 : Hid (LiesN w6 da ds) := HD.out.1.below B6
  clear l6 g6 m6 b6 B6
  go_wp2_with (at_builtin; go_must (refine wpList_append_ints _ rfl _ _ 32 rfl 3 i0 (.int .i64 0) Tryd.underlying32 hi hz0 hz1 hz2 rfl da dcap s ds HM.out.2.2 rfl rfl HD6.out HD.out.2 (by omega) ?_; rintro a7 k7 w7 h7; have HB7 : Hid (Below w.heap.size w w7 ∧ LiesP w7 a6 ps ∧ LiesN w7 a7 ds ∧ LiesS w7 a5 l1) := ⟨HB6.out.1.trans (h7.2.2.2.mono HB6.out.1.size), HB6.out.2.1.below h7.2.2.2, h7.1, HB6.out.2.2.2.2.below h7.2.2.2⟩; clear h7))
  refine (HDue.out w7 a6 k6 a7 k7 HB7.out.1 HB7.out.2.1 HB7.out.2.2.1 HB6.out.2.2.1 HB6.out.2.2.2.1).mono ?_
  rintro e w8 ⟨a8, k8, l2, rfl, h8, b8⟩
  have HB8 : Hid (Below w.heap.size w w8 ∧ LiesS w8 a5 l1 ∧ LiesS w8 a8 l2) := ⟨HB7.out.1.trans (b8.mono HB7.out.1.size), HB7.out.2.2.2.below b8, h8.1⟩
  have HQ2 : Hid (Sched per ps (dueKeys ps ds) l2 ∧ l2.length = m ∧ (a8 = none → l2 = [] ∧ k8 = 0)) := ⟨h8.2.1, h8.2.2.1, h8.2.2.2⟩
  clear b8 h8
  go_wp2_with fail
  refine (HLf.out _ HB8.out.1).mono ?_
  rintro e w9 ⟨rfl, b9⟩
  obtain ⟨fa, hfa⟩ : ∃ fa, w9.heap.size = fa := ⟨_, rfl⟩
  have hs1 : (w9.alloc (.cells #[.int .i64 0, .int .i64 (-1)] 39)).heap.size = w9.heap.size + 1 := by simp
  have HA9 : Hid (At2 ((w9.alloc (.cells #[.int .i64 0, .int .i64 (-1)] 39)).alloc (.cells #[.int .i64 0, .int .i64 (-1)] 39)) w9.heap.size (.int .i64 0) (.int .i64 (-1))) := (at2_new w9 _ _ _).later ((Below.refl _ _).alloc (Nat.le_refl _) _)
  have HG9 : Hid (At2 ((w9.alloc (.cells #[.int .i64 0, .int .i64 (-1)] 39)).alloc (.cells #[.int .i64 0, .int .i64 (-1)] 39)) (w9.heap.size + 1) (.int .i64 0) (.int .i64 (-1))) := by
    have := at2_new (w9.alloc (.cells #[.int .i64 0, .int .i64 (-1)] 39)) (.int .i64 0) (.int .i64 (-1)) 39
    rwa [hs1] at this
  have HX9 : Hid (Below w8.heap.size w8 ((w9.alloc (.cells #[.int .i64 0, .int .i64 (-1)] 39)).alloc (.cells #[.int .i64 0, .int .i64 (-1)] 39)) ∧ w8.heap.size ≤ w9.heap.size) := ⟨(b9.alloc b9.size _).alloc (by rw [hs1]; exact Nat.le_succ_of_le b9.size) _, b9.size⟩
  clear b9 hs1 hfa
  go_wp2_with fail
  refine (HNeR.out _ (HB8.out.1.trans (HX9.out.1.mono HB8.out.1.size))).mono ?_
  rintro e w10 ⟨rfl, rfl⟩
  go_wp2_with fail
  refine (bare_any 0 _).mono ?_
  rintro e w10 ⟨rfl, b10⟩
  have HA10 : Hid (At2 w10 w9.heap.size (.int .i64 0) (.int .i64 (-1))) := HA9.out.later b10
  have HG10 : Hid (At2 w10 (w9.heap.size + 1) (.int .i64 0) (.int .i64 (-1))) := HG9.out.later b10
  have HX10 : Hid (Below w8.heap.size w8 ((w10.setCell ⟨w9.heap.size, 0, none⟩ (.int .i64 0)).setCell ⟨w9.heap.size, 1, none⟩ (.int .i64 (-1)))) := ((HX9.out.1.trans (b10.mono HX9.out.1.size)).setCell HX9.out.2 _).setCell HX9.out.2 _
  obtain ⟨t0, t1, t2, t3⟩ := HA10.out
  clear b10
  go_wp2_with fail
  refine (HNeD.out _ (HB8.out.1.trans (HX10.out.mono HB8.out.1.size))).mono ?_
  rintro e w11 ⟨rfl, rfl⟩
  go_wp2_with fail
  refine (bare_any 0 _).mono ?_
  rintro e w11 ⟨rfl, b11⟩
  obtain ⟨x0, x1, x2, x3⟩ := (HA10.out.set (.int .i64 0) (.int .i64 (-1))).later b11
  have HG11 : Hid (At2 w11 (w9.heap.size + 1) (.int .i64 0) (.int .i64 (-1))) := (HG10.out.other (h := w9.heap.size) (by omega) (.int .i64 0) (.int .i64 (-1))).later b11
  obtain ⟨y0, y1, y2, y3⟩ := HG11.out
  have HG12 : Hid (At2 ((w11.setCell ⟨w9.heap.size + 1, 0, none⟩ (.int .i64 0)).setCell ⟨w9.heap.size + 1, 1, none⟩ (.int .i64 (-1))) (w9.heap.size + 1) (.int .i64 0) (.int .i64 (-1))) := HG11.out.set _ _
  have HX11 : Hid (Below w8.heap.size w8 ((w11.setCell ⟨w9.heap.size + 1, 0, none⟩ (.int .i64 0)).setCell ⟨w9.heap.size + 1, 1, none⟩ (.int .i64 (-1)))) := ((HX10.out.trans (b11.mono HX10.out.size)).setCell (Nat.le_succ_of_le HX9.out.2) _).setCell (Nat.le_succ_of_le HX9.out.2) _
  clear b11 t0 t1 t2 t3
  go_wp2_with fail
  refine (HRo.out _ (HB8.out.1.trans (HX11.out.mono HB8.out.1.size))).mono ?_
  rintro e w12a ⟨v, l, rfl, o12, e1, e2, b12⟩
  obtain ⟨a12, k12, rfl, -, -, g12, -, -⟩ := o12.open
  have hsame : l = l1 := e1.same HQ1.out.1 (by rw [e2, HQ1.out.2, HM.out.1])
  subst hsame
  have HX12a : Hid (Below w8.heap.size w8 w12a ∧ LiesS w12a a12 l ∧ At2 w12a (w9.heap.size + 1) (.int .i64 0) (.int .i64 (-1))) := ⟨HX11.out.trans (b12.mono HX11.out.size), g12, HG12.out.later b12⟩
  have hll : l.length = m := HQ1.out.2
  have HSame : Hid (∀ W, Below w8.heap.size w8 W → LiesS W a12 l → Calls Tryd.prog 27 #[.slice a5 m k5, .slice a12 m k12] W fun e w' => e = .returned (.bool true) ∧ Below W.heap.size W w') := fun W hb hS => by
    have := sameSent_yes a5 a12 k5 k12 l W (HB8.out.2.1.below hb) hS (by omega)
    rwa [hll] at this
  rw [hll]
  clear b12 o12 g12 e1 e2 hll x0 x1 x2 x3 y0 y1 y2 y3
  go_wp2_with fail
  refine (HSame.out _ HX12a.out.1 HX12a.out.2.1).mono ?_
  rintro e w12 ⟨rfl, b12⟩
  have HX12 : Hid (Below w8.heap.size w8 w12) := HX12a.out.1.trans (b12.mono HX12a.out.1.size)
  obtain ⟨q0, q1, r0, r1⟩ := HX12a.out.2.2.later b12
  clear b12
  go_wp2_with fail
  refine (HDo.out _ (HB8.out.1.trans (HX12.out.mono HB8.out.1.size))).mono ?_
  rintro e w14 ⟨v, ld, rfl, o14, e1, e2, b14⟩
  obtain ⟨a14, k14, rfl, -, -, g14, -, -⟩ := o14.open
  have hsame : ld = l2 := e1.same HQ2.out.1 (by rw [e2, HQ2.out.2.1, HM.out.1])
  subst hsame
  have HX14 : Hid (Below w8.heap.size w8 w14 ∧ LiesS w14 a14 ld) := ⟨HX12.out.trans (b14.mono HX12.out.size), g14⟩
  have hld : ld.length = m := HQ2.out.2.1
  have HSame2 : Hid (∀ W, Below w8.heap.size w8 W → LiesS W a14 ld → Calls Tryd.prog 27 #[.slice a8 m k8, .slice a14 m k14] W fun e w' => e = .returned (.bool true) ∧ Below W.heap.size W w') := fun W hb hS => by
    have := sameSent_yes a8 a14 k8 k14 ld W (HB8.out.2.2.below hb) hS (by omega)
    rwa [hld] at this
  have HOwnS : Hid (∀ W, Below w8.heap.size w8 W → Calls Tryd.prog 18 #[.slice a8 m k8] W fun e w' => ∃ a' cap', e = .returned (.slice a' m cap') ∧ LiesS w' a' ld ∧ Below W.heap.size W w' ∧ Below w8.heap.size w8 w') := fun W hb => by
    have := ownSent_from a8 k8 ld w8 W hb HB8.out.2.2 (by omega) HQ2.out.2.2
    rwa [hld] at this
  have HTm : Hid (tameAll ld ∧ ∀ (i : Nat) x, ld[i]? = some x → named ps.length x = true) := sched_tame HOk.out h1 h2 HQ2.out.1 (by rw [hld]; omega)
  obtain ⟨N, hN⟩ : ∃ N, lateAll ps ds ld = N := ⟨_, rfl⟩
  have HLate : Hid (∀ W a3 k3 a4 k4 a5 k5, Below w.heap.size w W → LiesP W a3 ps → LiesS W a4 ld → LiesN W a5 ds → Calls Tryd.prog 29 #[.slice a3 m k3, .slice a4 m k4, .slice a5 s k5] W fun e w' => e = .returned (.tuple #[.int .i64 N, .nilIface]) ∧ Below W.heap.size W w') := fun W a3 k3 a4 k4 a5 k5 hb g1 g2 g3 => by
    have h := HLt.out W a3 k3 a4 k4 a5 k5 ld hb g1 g2 g3 (by omega) HTm.out.1 HTm.out.2
    rwa [HM.out.1, HM.out.2.2, hld, hN] at h
  have HOf : Hid (∀ W, Below w8.heap.size w8 W → Calls Tryd.prog 33 #[.slice pa m pcap, .slice a8 m k8, .slice da s dcap] W fun e w' => e = .returned (.int .i64 N) ∧ Below W.heap.size W w') := fun W hb => by
    have h := HLo.out W a8 k8 ld (HB8.out.1.trans (hb.mono HB8.out.1.size)) (HB8.out.2.2.below hb) (by omega) HTm.out.1 HTm.out.2
    rwa [HM.out.1, HM.out.2.2, hld, hN] at h
  rw [hld]
  clear b14 o14 g14 e1 e2 hld hN q0 q1 r0 r1
  go_wp2_with fail
  refine (HSame2.out _ HX14.out.1 HX14.out.2).mono ?_
  rintro e w15 ⟨rfl, b15⟩
  have HX15 : Hid (Below w8.heap.size w8 w15) := HX14.out.1.trans (b15.mono HX14.out.1.size)
  clear b15
  go_wp2_with fail
  refine (HOwnP.out _ (HB8.out.1.trans (HX15.out.mono HB8.out.1.size))).mono ?_
  rintro e w16 ⟨a16, k16, rfl, l16, g16, m16, b16, B16⟩
  have HX16 : Hid (Below w8.heap.size w8 w16 ∧ LiesP w16 a16 ps) := ⟨HX15.out.trans (b16.mono HX15.out.size), l16⟩
  clear l16 g16 m16 b16 B16
  go_wp2_with fail
  refine (HOwnS.out _ HX16.out.1).mono ?_
  rintro e w17 ⟨a17, k17, rfl, l17, b17, B17⟩
  have HX17 : Hid (Below w8.heap.size w8 w17 ∧ LiesP w17 a16 ps ∧ LiesS w17 a17 ld) := ⟨B17, HX16.out.2.below b17, l17⟩
  have HD17 : Hid (LiesN w17 da ds) := HD.out.1.below (HB8.out.1.trans (B17.mono HB8.out.1.size))
  clear l17 b17 B17
  go_wp2_with (at_builtin; go_must (refine wpList_append_ints _ rfl _ _ 32 rfl 3 i0 (.int .i64 0) Tryd.underlying32 hi hz0 hz1 hz2 rfl da dcap s ds HM.out.2.2 rfl rfl HD17.out HD.out.2 (by omega) ?_; rintro a18 k18 w18 h18; have HX18 : Hid (Below w8.heap.size w8 w18 ∧ LiesP w18 a16 ps ∧ LiesS w18 a17 ld ∧ LiesN w18 a18 ds) := ⟨HX17.out.1.trans (h18.2.2.2.mono HX17.out.1.size), HX17.out.2.1.below h18.2.2.2, HX17.out.2.2.below h18.2.2.2, h18.1⟩; clear h18))
  refine (HLate.out w18 a16 k16 a17 k17 a18 k18 (HB8.out.1.trans (HX18.out.1.mono HB8.out.1.size)) HX18.out.2.1 HX18.out.2.2.1 HX18.out.2.2.2).mono ?_
  rintro e w19 ⟨rfl, b19⟩
  have HX12' : Hid (Below w8.heap.size w8 w19) := HX18.out.1.trans (b19.mono HX18.out.1.size)
  have hNN : (N == N) = true := by simp
  clear b19
  go_wp2_with fail
  refine (HOf.out _ HX12'.out).mono ?_
  rintro e w13 ⟨rfl, b13⟩
  have HX13 : Hid (Below w.heap.size w w13) := HB8.out.1.trans ((HX12'.out.trans (b13.mono HX12'.out.size)).mono HB8.out.1.size)
  clear b13
  go_wp2_with fail
  go_ret
  exact ⟨rfl, HX13.out⟩
end Go.Proofs.YtcmgmcngidndcabDoor
