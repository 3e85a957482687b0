/- RoundRuns: its longest ways. -/
import Derived.Test.YtepnfioldbhffabDoorCRnLaw2
namespace Go.Proofs.YtepnfioldbhffabDoor
open Go.RowKit

set_option maxRecDepth 100000 in
set_option maxHeartbeats 4000000 in
theorem rnLaw_x0 (pa : Option Addr) (pcap : Nat) (ps : List Pk) (per : Int) (na : Option Addr) (ncap : Nat) (ns : List Int) (x y : Int) (w : World) (ad : Nat → Addr) (he : Errs9 w ad) (hp : LiesP w pa ps) (hpa : pa = none → ps = [] ∧ pcap = 0) (hpc : ps.length ≤ pcap) (hpm : pcap ≤ maxLen) (hn : LiesN w na ns) (hna : na = none → ns = [] ∧ ncap = 0) (hm : ps.length ≤ 60 ∨ ps.length = 301) (hnn : ns.length ≤ 30) (ho : OkPks ps) (h1 : 1 ≤ per) (h2 : per ≤ 1000) (hk : NumsOk 1 3000 ns) (hx : x < 0) :
    Calls Tryd.prog 12 #[.slice pa ps.length pcap, .int .i64 per, .slice na ns.length ncap, .int .i64 x, .int .i64 y] w fun e w' => e = .returned (.bool true) ∧ Below w.heap.size w w' := by
  obtain ⟨i0, hi, hz0, hz1, hz2⟩ := info_parts Tryd.infoInt
  have HP : Hid (LiesP w pa ps ∧ (pa = none → ps = [] ∧ pcap = 0)) := ⟨hp, hpa⟩
  have HN : Hid (LiesN w na ns ∧ (na = none → ns = [] ∧ ncap = 0)) := ⟨hn, hna⟩
  have HFit : Hid (∀ w', Calls Tryd.prog 24 #[.slice pa ps.length pcap, .int .i64 60] w' fun e w'' => e = .returned (.bool true) ∧ w'' = w') := fun w' => fitPkts_yes pa ps.length pcap 60 w' (Nat.le_trans hpc hpm) (by omega)
  have HRun : Hid (∀ W a3 k3 a5 k5, Below w.heap.size w W → LiesP W a3 ps → LiesN W a5 ns → ps.length ≤ k3 → k3 ≤ maxLen → Calls Tryd.prog 42 #[.slice a3 ps.length k3, .int .i64 per, .slice a5 ns.length k5] W fun e w' => ∃ a' k' l, e = .returned (.tuple #[.slice a' ps.length k', .nilIface]) ∧ (LiesS w' a' l ∧ RoundSent per ps ns l ∧ l.length = ps.length ∧ (a' = none → l = [] ∧ k' = 0)) ∧ Below W.heap.size W w') := fun W a3 k3 a5 k5 hb g1 g2 g3 g4 => roundRun_lies a3 k3 ps per a5 k5 ns W g1 g2 ho h1 h2 hk
  have HLf : Hid (∀ W, Below w.heap.size w W → Calls Tryd.prog 26 #[.slice pa ps.length pcap, .int .i64 per] W fun e w' => e = .returned (.agg #[.int .i64 0, .int .i64 (-1)]) ∧ Below W.heap.size W w') := fun W hb => refLinkFault_is pa pcap ps per 0 (-1) W (hp.below hb) hpc hpm (.inr (.inr ⟨ho, h1, h2, rfl, rfl⟩))
  have HNe : Hid (∀ W, Below w.heap.size w W → Calls Tryd.prog 32 #[.slice na ns.length ncap, .int .i64 1, .int .i64 3000] W fun e w' => e = .returned (.int .i64 0) ∧ w' = W) := fun W hb => numbersError_is na ncap ns 1 3000 W (hn.below hb) 0 (.inr (.inr ⟨rfl, hk⟩))
  have HRo : Hid (∀ W, Below w.heap.size w W → Calls Tryd.prog 43 #[.slice pa ps.length pcap, .int .i64 per, .slice na ns.length ncap] W fun e w' => RoundEnd per ps ns W e w') := fun W hb => roundOf_any pa pcap ps per na ncap ns W (hp.below hb) (hn.below hb) ho h1 h2 hk
  have hm60 : ps.length ≤ 60 := by have := ho.few; omega
  have hqu : ∀ f, 1 ≤ quOf ns f := fun f => (quOf_in hk.each (by omega) f).1
  have HTm : Hid (∀ l, RoundSent per ps ns l → tameAll l ∧ ∀ (i : Nat) x, l[i]? = some x → named ps.length x = true) := fun l hl => by
    obtain ⟨n1, n2⟩ := hl.nums ho hqu ⟨h1, h2⟩
    exact ⟨fun i x hx => by have := n2 i x hx; exact decide_eq_true (by omega), fun i x hx => by
      obtain ⟨k, e1, e2⟩ := n1 i x hx
      exact decide_eq_true (by omega)⟩
  have hno : ¬ Flows x y := fun h => by unfold Flows at h; omega
  have HSp : Hid (∀ W a3 k3 a4 k4 a5 k5 l, Below w.heap.size w W → LiesP W a3 ps → LiesS W a4 l → LiesN W a5 ns → ps.length ≤ k3 → k3 ≤ maxLen → RoundSent per ps ns l → l.length = ps.length → Calls Tryd.prog 39 #[.slice a3 ps.length k3, .slice a4 ps.length k4, .slice a5 ns.length k5, .int .i64 x, .int .i64 y] W fun e w' => ∃ ty v, e = .returned (.tuple #[.int .i64 0, .iface ty v]) ∧ (ErrIs w' (.iface ty v) 2 (-1) ∧ Below W.heap.size W w')) := fun W a3 k3 a4 k4 a5 k5 l hb g1 g2 g3 g4 g5 g6 g7 => by
    have := spread_is a3 k3 ps a4 k4 l a5 k5 ns x y W ad (he.below hb) g1 g2 g3 g4 g5 (by omega) (HTm.out l g6).1 2 (-1) (.inr (.inl ⟨hk, hno, rfl, rfl⟩))
    rwa [g7] at this
  have h8 := hk.len
  clear ho hk hno hqu
  clear hp hpa hpc hpm hn hna he
  obtain ⟨m, hmm⟩ : ∃ m, ps.length = m := ⟨_, rfl⟩
  obtain ⟨r, hnr⟩ : ∃ r, ns.length = r := ⟨_, rfl⟩
  have HM : Hid (ps.length = m ∧ ns.length = r) := ⟨hmm, hnr⟩
  have HOwnP : Hid (∀ w', Below w.heap.size w w' → Calls Tryd.prog 21 #[.slice pa m pcap] w' fun e w'' => ∃ a' cap', e = .returned (.slice a' m cap') ∧ LiesP w'' a' ps ∧ m ≤ cap' ∧ cap' ≤ maxLen ∧ Below w'.heap.size w' w'' ∧ Below w.heap.size w w'') := fun w' hb => by
    have := ownPackets_from pa pcap ps w w' hb HP.out.1 (by omega) HP.out.2
    rwa [hmm] at this
  rw [hmm] at hm HFit HRun HLf HRo HSp hm60 ⊢
  rw [hnr] at hnn HRun HNe HRo HSp h8 ⊢
  clear hmm hnr
  subst h8
  go_enter Tryd.func12, Tryd.ntmps12
  go_wp2_with fail
  refine (turned_any _).mono ?_
  rintro e w1 ⟨rfl, hb⟩
  have HB1 : Hid (Below w.heap.size w w1) := hb
  clear hb
  go_wp2_with fail
  refine (HFit.out _).mono ?_
  rintro e w1' ⟨rfl, rfl⟩
  go_wp2_with fail
  refine (HOwnP.out _ HB1.out).mono ?_
  rintro e w3 ⟨a3, k3, rfl, l3, g3, m3, b3, B3⟩
  have HB3 : Hid (Below w.heap.size w w3 ∧ LiesP w3 a3 ps ∧ m ≤ k3 ∧ k3 ≤ maxLen) := ⟨B3, l3, g3, m3⟩
  have HN3 : Hid (LiesN w3 na ns) := HN.out.1.below B3
  clear l3 g3 m3 b3 B3
  go_wp2_with (at_builtin; go_must (refine wpList_append_ints _ rfl _ _ 32 rfl 3 i0 (.int .i64 0) Tryd.underlying32 hi hz0 hz1 hz2 rfl na ncap 8 ns HM.out.2 rfl rfl HN3.out HN.out.2 (by omega) ?_; rintro a4 k4 w4 h4; have HB4 : Hid (Below w.heap.size w w4 ∧ LiesP w4 a3 ps ∧ LiesN w4 a4 ns) := ⟨HB3.out.1.trans (h4.2.2.2.mono HB3.out.1.size), HB3.out.2.1.below h4.2.2.2, h4.1⟩; clear h4))
  refine (HRun.out w4 a3 k3 a4 k4 HB4.out.1 HB4.out.2.1 HB4.out.2.2 HB3.out.2.2.1 HB3.out.2.2.2).mono ?_
  rintro e w5 ⟨a5, k5, l, rfl, h5, b5⟩
  have HB5 : Hid (Below w.heap.size w w5 ∧ LiesS w5 a5 l ∧ (a5 = none → l = [] ∧ k5 = 0)) := ⟨HB4.out.1.trans (b5.mono HB4.out.1.size), h5.1, h5.2.2.2⟩
  have HQ1 : Hid (RoundSent per ps ns l ∧ l.length = m) := ⟨h5.2.1, h5.2.2.1⟩
  clear b5 h5
  go_wp2_with fail
  refine (HLf.out _ HB5.out.1).mono ?_
  rintro e w6 ⟨rfl, b6⟩
  have HX6 : Hid (Below w5.heap.size w5 (w6.alloc (.cells #[.int .i64 0, .int .i64 (-1)] 39)) ∧ At2 (w6.alloc (.cells #[.int .i64 0, .int .i64 (-1)] 39)) w6.heap.size (.int .i64 0) (.int .i64 (-1)) ∧ w5.heap.size ≤ w6.heap.size) := ⟨b6.alloc b6.size _, at2_new w6 _ _ _, b6.size⟩
  clear b6
  go_wp2_with fail
  refine (HNe.out _ (HB5.out.1.trans (HX6.out.1.mono HB5.out.1.size))).mono ?_
  rintro e w7' ⟨rfl, hw7⟩
  rw [hw7]
  clear hw7
  go_wp2_with fail
  refine (bare_any 0 _).mono ?_
  rintro e w7 ⟨rfl, b7⟩
  obtain ⟨k0, k1, f0, f1⟩ := HX6.out.2.1.later b7
  have HX7 : Hid (Below w5.heap.size w5 ((w7.setCell ⟨w6.heap.size, 0, none⟩ (.int .i64 0)).setCell ⟨w6.heap.size, 1, none⟩ (.int .i64 (-1)))) := ((HX6.out.1.trans (b7.mono HX6.out.1.size)).setCell HX6.out.2.2 _).setCell HX6.out.2.2 _
  clear b7
  go_wp2_with fail
  refine (HRo.out _ (HB5.out.1.trans (HX7.out.mono HB5.out.1.size))).mono ?_
  rintro e w8 ⟨v8, l8, rfl, o8, e8, b8⟩
  obtain ⟨a8, k8, rfl, -, -, g8, -, -⟩ := o8.open
  have hsame : l8 = l := e8.same HQ1.out.1
  subst hsame
  have HX8 : Hid (Below w5.heap.size w5 w8 ∧ LiesS w8 a8 l8) := ⟨HX7.out.trans (b8.mono HX7.out.size), g8⟩
  have hll : l8.length = m := HQ1.out.2
  have HSame : Hid (∀ W, Below w5.heap.size w5 W → LiesS W a8 l8 → Calls Tryd.prog 27 #[.slice a5 m k5, .slice a8 m k8] W fun e w' => e = .returned (.bool true) ∧ Below W.heap.size W w') := fun W hb hS => by
    have := sameSent_yes a5 a8 k5 k8 l8 W (HB5.out.2.1.below hb) hS (by omega)
    rwa [hll] at this
  have HOwnS : Hid (∀ W, Below w5.heap.size w5 W → Calls Tryd.prog 18 #[.slice a5 m k5] W fun e w' => ∃ a' cap', e = .returned (.slice a' m cap') ∧ LiesS w' a' l8 ∧ Below W.heap.size W w' ∧ Below w5.heap.size w5 w') := fun W hb => by
    have := ownSent_from a5 k5 l8 w5 W hb HB5.out.2.1 (by omega) HB5.out.2.2
    rwa [hll] at this
  rw [hll]
  clear b8 o8 g8 e8 hll
  go_wp2_with fail
  refine (HSame.out _ HX8.out.1 HX8.out.2).mono ?_
  rintro e w9 ⟨rfl, b9⟩
  have HX9 : Hid (Below w5.heap.size w5 w9) := HX8.out.1.trans (b9.mono HX8.out.1.size)
  clear b9
  go_wp2_with fail
  refine (HOwnP.out _ (HB5.out.1.trans (HX9.out.mono HB5.out.1.size))).mono ?_
  rintro e w10 ⟨a10, k10, rfl, l10, g10, m10, b10, B10⟩
  have HB10 : Hid (Below w.heap.size w w10 ∧ LiesP w10 a10 ps ∧ m ≤ k10 ∧ k10 ≤ maxLen ∧ Below w5.heap.size w5 w10) := ⟨B10, l10, g10, m10, HX9.out.trans (b10.mono HX9.out.size)⟩
  clear l10 g10 m10 b10 B10
  go_wp2_with fail
  refine (HOwnS.out _ HB10.out.2.2.2.2).mono ?_
  rintro e w11 ⟨a11, k11, rfl, l11, b11, B11⟩
  have HB11 : Hid (Below w.heap.size w w11 ∧ LiesP w11 a10 ps ∧ LiesS w11 a11 l8 ∧ Below w5.heap.size w5 w11) := ⟨HB10.out.1.trans (b11.mono HB10.out.1.size), HB10.out.2.1.below b11, l11, B11⟩
  have HN11 : Hid (LiesN w11 na ns) := HN.out.1.below HB11.out.1
  clear l11 b11 B11
  go_wp2_with (at_builtin; go_must (refine wpList_append_ints _ rfl _ _ 32 rfl 3 i0 (.int .i64 0) Tryd.underlying32 hi hz0 hz1 hz2 rfl na ncap 8 ns HM.out.2 rfl rfl HN11.out HN.out.2 (by omega) ?_; rintro a12 k12 w12 h12; have HB12 : Hid (Below w.heap.size w w12 ∧ LiesP w12 a10 ps ∧ LiesS w12 a11 l8 ∧ LiesN w12 a12 ns ∧ Below w5.heap.size w5 w12) := ⟨HB11.out.1.trans (h12.2.2.2.mono HB11.out.1.size), HB11.out.2.1.below h12.2.2.2, HB11.out.2.2.1.below h12.2.2.2, h12.1, HB11.out.2.2.2.trans (h12.2.2.2.mono HB11.out.2.2.2.size)⟩; clear h12))
  refine (HSp.out w12 a10 k10 a11 k11 a12 k12 l8 HB12.out.1 HB12.out.2.1 HB12.out.2.2.1 HB12.out.2.2.2.1 HB10.out.2.2.1 HB10.out.2.2.2.1 HQ1.out.1 HQ1.out.2).mono ?_
  rintro e w13 ⟨ty, v, rfl, hE13, b13⟩
  have HB13 : Hid (Below w.heap.size w w13 ∧ ErrIs w13 (.iface ty v) 2 (-1)) := ⟨HB12.out.1.trans (b13.mono HB12.out.1.size), hE13⟩
  clear hE13 b13
  go_wp2_with fail
  refine (coded_yes (.iface ty v) 2 _ HB13.out.2.code).mono ?_
  rintro e w14 ⟨rfl, b14⟩
  have HB14 : Hid (Below w.heap.size w w14) := HB13.out.1.trans (b14.mono HB13.out.1.size)
  clear b14
  go_wp2_with fail
  go_ret
  exact ⟨rfl, HB14.out⟩

set_option maxRecDepth 100000 in
set_option maxHeartbeats 4000000 in
theorem rnLaw_x8 (pa : Option Addr) (pcap : Nat) (ps : List Pk) (per : Int) (na : Option Addr) (ncap : Nat) (ns : List Int) (x y : Int) (w : World) (ad : Nat → Addr) (he : Errs9 w ad) (hp : LiesP w pa ps) (hpa : pa = none → ps = [] ∧ pcap = 0) (hpc : ps.length ≤ pcap) (hpm : pcap ≤ maxLen) (hn : LiesN w na ns) (hna : na = none → ns = [] ∧ ncap = 0) (hm : ps.length ≤ 60 ∨ ps.length = 301) (hnn : ns.length ≤ 30) (ho : OkPks ps) (h1 : 1 ≤ per) (h2 : per ≤ 1000) (hk : NumsOk 1 3000 ns) (hx0 : ¬ x < 0) (hx : 8 ≤ x) :
    Calls Tryd.prog 12 #[.slice pa ps.length pcap, .int .i64 per, .slice na ns.length ncap, .int .i64 x, .int .i64 y] w fun e w' => e = .returned (.bool true) ∧ Below w.heap.size w w' := by
  obtain ⟨i0, hi, hz0, hz1, hz2⟩ := info_parts Tryd.infoInt
  have HP : Hid (LiesP w pa ps ∧ (pa = none → ps = [] ∧ pcap = 0)) := ⟨hp, hpa⟩
  have HN : Hid (LiesN w na ns ∧ (na = none → ns = [] ∧ ncap = 0)) := ⟨hn, hna⟩
  have HFit : Hid (∀ w', Calls Tryd.prog 24 #[.slice pa ps.length pcap, .int .i64 60] w' fun e w'' => e = .returned (.bool true) ∧ w'' = w') := fun w' => fitPkts_yes pa ps.length pcap 60 w' (Nat.le_trans hpc hpm) (by omega)
  have HRun : Hid (∀ W a3 k3 a5 k5, Below w.heap.size w W → LiesP W a3 ps → LiesN W a5 ns → ps.length ≤ k3 → k3 ≤ maxLen → Calls Tryd.prog 42 #[.slice a3 ps.length k3, .int .i64 per, .slice a5 ns.length k5] W fun e w' => ∃ a' k' l, e = .returned (.tuple #[.slice a' ps.length k', .nilIface]) ∧ (LiesS w' a' l ∧ RoundSent per ps ns l ∧ l.length = ps.length ∧ (a' = none → l = [] ∧ k' = 0)) ∧ Below W.heap.size W w') := fun W a3 k3 a5 k5 hb g1 g2 g3 g4 => roundRun_lies a3 k3 ps per a5 k5 ns W g1 g2 ho h1 h2 hk
  have HLf : Hid (∀ W, Below w.heap.size w W → Calls Tryd.prog 26 #[.slice pa ps.length pcap, .int .i64 per] W fun e w' => e = .returned (.agg #[.int .i64 0, .int .i64 (-1)]) ∧ Below W.heap.size W w') := fun W hb => refLinkFault_is pa pcap ps per 0 (-1) W (hp.below hb) hpc hpm (.inr (.inr ⟨ho, h1, h2, rfl, rfl⟩))
  have HNe : Hid (∀ W, Below w.heap.size w W → Calls Tryd.prog 32 #[.slice na ns.length ncap, .int .i64 1, .int .i64 3000] W fun e w' => e = .returned (.int .i64 0) ∧ w' = W) := fun W hb => numbersError_is na ncap ns 1 3000 W (hn.below hb) 0 (.inr (.inr ⟨rfl, hk⟩))
  have HRo : Hid (∀ W, Below w.heap.size w W → Calls Tryd.prog 43 #[.slice pa ps.length pcap, .int .i64 per, .slice na ns.length ncap] W fun e w' => RoundEnd per ps ns W e w') := fun W hb => roundOf_any pa pcap ps per na ncap ns W (hp.below hb) (hn.below hb) ho h1 h2 hk
  have hm60 : ps.length ≤ 60 := by have := ho.few; omega
  have hqu : ∀ f, 1 ≤ quOf ns f := fun f => (quOf_in hk.each (by omega) f).1
  have HTm : Hid (∀ l, RoundSent per ps ns l → tameAll l ∧ ∀ (i : Nat) x, l[i]? = some x → named ps.length x = true) := fun l hl => by
    obtain ⟨n1, n2⟩ := hl.nums ho hqu ⟨h1, h2⟩
    exact ⟨fun i x hx => by have := n2 i x hx; exact decide_eq_true (by omega), fun i x hx => by
      obtain ⟨k, e1, e2⟩ := n1 i x hx
      exact decide_eq_true (by omega)⟩
  have hno : ¬ Flows x y := fun h => by unfold Flows at h; omega
  have HSp : Hid (∀ W a3 k3 a4 k4 a5 k5 l, Below w.heap.size w W → LiesP W a3 ps → LiesS W a4 l → LiesN W a5 ns → ps.length ≤ k3 → k3 ≤ maxLen → RoundSent per ps ns l → l.length = ps.length → Calls Tryd.prog 39 #[.slice a3 ps.length k3, .slice a4 ps.length k4, .slice a5 ns.length k5, .int .i64 x, .int .i64 y] W fun e w' => ∃ ty v, e = .returned (.tuple #[.int .i64 0, .iface ty v]) ∧ (ErrIs w' (.iface ty v) 2 (-1) ∧ Below W.heap.size W w')) := fun W a3 k3 a4 k4 a5 k5 l hb g1 g2 g3 g4 g5 g6 g7 => by
    have := spread_is a3 k3 ps a4 k4 l a5 k5 ns x y W ad (he.below hb) g1 g2 g3 g4 g5 (by omega) (HTm.out l g6).1 2 (-1) (.inr (.inl ⟨hk, hno, rfl, rfl⟩))
    rwa [g7] at this
  have h8 := hk.len
  clear ho hk hno hqu
  clear hp hpa hpc hpm hn hna he
  obtain ⟨m, hmm⟩ : ∃ m, ps.length = m := ⟨_, rfl⟩
  obtain ⟨r, hnr⟩ : ∃ r, ns.length = r := ⟨_, rfl⟩
  have HM : Hid (ps.length = m ∧ ns.length = r) := ⟨hmm, hnr⟩
  have HOwnP : Hid (∀ w', Below w.heap.size w w' → Calls Tryd.prog 21 #[.slice pa m pcap] w' fun e w'' => ∃ a' cap', e = .returned (.slice a' m cap') ∧ LiesP w'' a' ps ∧ m ≤ cap' ∧ cap' ≤ maxLen ∧ Below w'.heap.size w' w'' ∧ Below w.heap.size w w'') := fun w' hb => by
    have := ownPackets_from pa pcap ps w w' hb HP.out.1 (by omega) HP.out.2
    rwa [hmm] at this
  rw [hmm] at hm HFit HRun HLf HRo HSp hm60 ⊢
  rw [hnr] at hnn HRun HNe HRo HSp h8 ⊢
  clear hmm hnr
  subst h8
  go_enter Tryd.func12, Tryd.ntmps12
  go_wp2_with fail
  refine (turned_any _).mono ?_
  rintro e w1 ⟨rfl, hb⟩
  have HB1 : Hid (Below w.heap.size w w1) := hb
  clear hb
  go_wp2_with fail
  refine (HFit.out _).mono ?_
  rintro e w1' ⟨rfl, rfl⟩
  go_wp2_with fail
  refine (HOwnP.out _ HB1.out).mono ?_
  rintro e w3 ⟨a3, k3, rfl, l3, g3, m3, b3, B3⟩
  have HB3 : Hid (Below w.heap.size w w3 ∧ LiesP w3 a3 ps ∧ m ≤ k3 ∧ k3 ≤ maxLen) := ⟨B3, l3, g3, m3⟩
  have HN3 : Hid (LiesN w3 na ns) := HN.out.1.below B3
  clear l3 g3 m3 b3 B3
  go_wp2_with (at_builtin; go_must (refine wpList_append_ints _ rfl _ _ 32 rfl 3 i0 (.int .i64 0) Tryd.underlying32 hi hz0 hz1 hz2 rfl na ncap 8 ns HM.out.2 rfl rfl HN3.out HN.out.2 (by omega) ?_; rintro a4 k4 w4 h4; have HB4 : Hid (Below w.heap.size w w4 ∧ LiesP w4 a3 ps ∧ LiesN w4 a4 ns) := ⟨HB3.out.1.trans (h4.2.2.2.mono HB3.out.1.size), HB3.out.2.1.below h4.2.2.2, h4.1⟩; clear h4))
  refine (HRun.out w4 a3 k3 a4 k4 HB4.out.1 HB4.out.2.1 HB4.out.2.2 HB3.out.2.2.1 HB3.out.2.2.2).mono ?_
  rintro e w5 ⟨a5, k5, l, rfl, h5, b5⟩
  have HB5 : Hid (Below w.heap.size w w5 ∧ LiesS w5 a5 l ∧ (a5 = none → l = [] ∧ k5 = 0)) := ⟨HB4.out.1.trans (b5.mono HB4.out.1.size), h5.1, h5.2.2.2⟩
  have HQ1 : Hid (RoundSent per ps ns l ∧ l.length = m) := ⟨h5.2.1, h5.2.2.1⟩
  clear b5 h5
  go_wp2_with fail
  refine (HLf.out _ HB5.out.1).mono ?_
  rintro e w6 ⟨rfl, b6⟩
  have HX6 : Hid (Below w5.heap.size w5 (w6.alloc (.cells #[.int .i64 0, .int .i64 (-1)] 39)) ∧ At2 (w6.alloc (.cells #[.int .i64 0, .int .i64 (-1)] 39)) w6.heap.size (.int .i64 0) (.int .i64 (-1)) ∧ w5.heap.size ≤ w6.heap.size) := ⟨b6.alloc b6.size _, at2_new w6 _ _ _, b6.size⟩
  clear b6
  go_wp2_with fail
  refine (HNe.out _ (HB5.out.1.trans (HX6.out.1.mono HB5.out.1.size))).mono ?_
  rintro e w7' ⟨rfl, hw7⟩
  rw [hw7]
  clear hw7
  go_wp2_with fail
  refine (bare_any 0 _).mono ?_
  rintro e w7 ⟨rfl, b7⟩
  obtain ⟨k0, k1, f0, f1⟩ := HX6.out.2.1.later b7
  have HX7 : Hid (Below w5.heap.size w5 ((w7.setCell ⟨w6.heap.size, 0, none⟩ (.int .i64 0)).setCell ⟨w6.heap.size, 1, none⟩ (.int .i64 (-1)))) := ((HX6.out.1.trans (b7.mono HX6.out.1.size)).setCell HX6.out.2.2 _).setCell HX6.out.2.2 _
  clear b7
  go_wp2_with fail
  refine (HRo.out _ (HB5.out.1.trans (HX7.out.mono HB5.out.1.size))).mono ?_
  rintro e w8 ⟨v8, l8, rfl, o8, e8, b8⟩
  obtain ⟨a8, k8, rfl, -, -, g8, -, -⟩ := o8.open
  have hsame : l8 = l := e8.same HQ1.out.1
  subst hsame
  have HX8 : Hid (Below w5.heap.size w5 w8 ∧ LiesS w8 a8 l8) := ⟨HX7.out.trans (b8.mono HX7.out.size), g8⟩
  have hll : l8.length = m := HQ1.out.2
  have HSame : Hid (∀ W, Below w5.heap.size w5 W → LiesS W a8 l8 → Calls Tryd.prog 27 #[.slice a5 m k5, .slice a8 m k8] W fun e w' => e = .returned (.bool true) ∧ Below W.heap.size W w') := fun W hb hS => by
    have := sameSent_yes a5 a8 k5 k8 l8 W (HB5.out.2.1.below hb) hS (by omega)
    rwa [hll] at this
  have HOwnS : Hid (∀ W, Below w5.heap.size w5 W → Calls Tryd.prog 18 #[.slice a5 m k5] W fun e w' => ∃ a' cap', e = .returned (.slice a' m cap') ∧ LiesS w' a' l8 ∧ Below W.heap.size W w' ∧ Below w5.heap.size w5 w') := fun W hb => by
    have := ownSent_from a5 k5 l8 w5 W hb HB5.out.2.1 (by omega) HB5.out.2.2
    rwa [hll] at this
  rw [hll]
  clear b8 o8 g8 e8 hll
  go_wp2_with fail
  refine (HSame.out _ HX8.out.1 HX8.out.2).mono ?_
  rintro e w9 ⟨rfl, b9⟩
  have HX9 : Hid (Below w5.heap.size w5 w9) := HX8.out.1.trans (b9.mono HX8.out.1.size)
  clear b9
  go_wp2_with fail
  refine (HOwnP.out _ (HB5.out.1.trans (HX9.out.mono HB5.out.1.size))).mono ?_
  rintro e w10 ⟨a10, k10, rfl, l10, g10, m10, b10, B10⟩
  have HB10 : Hid (Below w.heap.size w w10 ∧ LiesP w10 a10 ps ∧ m ≤ k10 ∧ k10 ≤ maxLen ∧ Below w5.heap.size w5 w10) := ⟨B10, l10, g10, m10, HX9.out.trans (b10.mono HX9.out.size)⟩
  clear l10 g10 m10 b10 B10
  go_wp2_with fail
  refine (HOwnS.out _ HB10.out.2.2.2.2).mono ?_
  rintro e w11 ⟨a11, k11, rfl, l11, b11, B11⟩
  have HB11 : Hid (Below w.heap.size w w11 ∧ LiesP w11 a10 ps ∧ LiesS w11 a11 l8 ∧ Below w5.heap.size w5 w11) := ⟨HB10.out.1.trans (b11.mono HB10.out.1.size), HB10.out.2.1.below b11, l11, B11⟩
  have HN11 : Hid (LiesN w11 na ns) := HN.out.1.below HB11.out.1
  clear l11 b11 B11
  go_wp2_with (at_builtin; go_must (refine wpList_append_ints _ rfl _ _ 32 rfl 3 i0 (.int .i64 0) Tryd.underlying32 hi hz0 hz1 hz2 rfl na ncap 8 ns HM.out.2 rfl rfl HN11.out HN.out.2 (by omega) ?_; rintro a12 k12 w12 h12; have HB12 : Hid (Below w.heap.size w w12 ∧ LiesP w12 a10 ps ∧ LiesS w12 a11 l8 ∧ LiesN w12 a12 ns ∧ Below w5.heap.size w5 w12) := ⟨HB11.out.1.trans (h12.2.2.2.mono HB11.out.1.size), HB11.out.2.1.below h12.2.2.2, HB11.out.2.2.1.below h12.2.2.2, h12.1, HB11.out.2.2.2.trans (h12.2.2.2.mono HB11.out.2.2.2.size)⟩; clear h12))
  refine (HSp.out w12 a10 k10 a11 k11 a12 k12 l8 HB12.out.1 HB12.out.2.1 HB12.out.2.2.1 HB12.out.2.2.2.1 HB10.out.2.2.1 HB10.out.2.2.2.1 HQ1.out.1 HQ1.out.2).mono ?_
  rintro e w13 ⟨ty, v, rfl, hE13, b13⟩
  have HB13 : Hid (Below w.heap.size w w13 ∧ ErrIs w13 (.iface ty v) 2 (-1)) := ⟨HB12.out.1.trans (b13.mono HB12.out.1.size), hE13⟩
  clear hE13 b13
  go_wp2_with fail
  refine (coded_yes (.iface ty v) 2 _ HB13.out.2.code).mono ?_
  rintro e w14 ⟨rfl, b14⟩
  have HB14 : Hid (Below w.heap.size w w14) := HB13.out.1.trans (b14.mono HB13.out.1.size)
  clear b14
  go_wp2_with fail
  go_ret
  exact ⟨rfl, HB14.out⟩

set_option maxRecDepth 100000 in
set_option maxHeartbeats 4000000 in
theorem rnLaw_y0 (pa : Option Addr) (pcap : Nat) (ps : List Pk) (per : Int) (na : Option Addr) (ncap : Nat) (ns : List Int) (x y : Int) (w : World) (ad : Nat → Addr) (he : Errs9 w ad) (hp : LiesP w pa ps) (hpa : pa = none → ps = [] ∧ pcap = 0) (hpc : ps.length ≤ pcap) (hpm : pcap ≤ maxLen) (hn : LiesN w na ns) (hna : na = none → ns = [] ∧ ncap = 0) (hm : ps.length ≤ 60 ∨ ps.length = 301) (hnn : ns.length ≤ 30) (ho : OkPks ps) (h1 : 1 ≤ per) (h2 : per ≤ 1000) (hk : NumsOk 1 3000 ns) (hx0 : ¬ x < 0) (hx8 : ¬ 8 ≤ x) (hy : y < 0) :
    Calls Tryd.prog 12 #[.slice pa ps.length pcap, .int .i64 per, .slice na ns.length ncap, .int .i64 x, .int .i64 y] w fun e w' => e = .returned (.bool true) ∧ Below w.heap.size w w' := by
  obtain ⟨i0, hi, hz0, hz1, hz2⟩ := info_parts Tryd.infoInt
  have HP : Hid (LiesP w pa ps ∧ (pa = none → ps = [] ∧ pcap = 0)) := ⟨hp, hpa⟩
  have HN : Hid (LiesN w na ns ∧ (na = none → ns = [] ∧ ncap = 0)) := ⟨hn, hna⟩
  have HFit : Hid (∀ w', Calls Tryd.prog 24 #[.slice pa ps.length pcap, .int .i64 60] w' fun e w'' => e = .returned (.bool true) ∧ w'' = w') := fun w' => fitPkts_yes pa ps.length pcap 60 w' (Nat.le_trans hpc hpm) (by omega)
  have HRun : Hid (∀ W a3 k3 a5 k5, Below w.heap.size w W → LiesP W a3 ps → LiesN W a5 ns → ps.length ≤ k3 → k3 ≤ maxLen → Calls Tryd.prog 42 #[.slice a3 ps.length k3, .int .i64 per, .slice a5 ns.length k5] W fun e w' => ∃ a' k' l, e = .returned (.tuple #[.slice a' ps.length k', .nilIface]) ∧ (LiesS w' a' l ∧ RoundSent per ps ns l ∧ l.length = ps.length ∧ (a' = none → l = [] ∧ k' = 0)) ∧ Below W.heap.size W w') := fun W a3 k3 a5 k5 hb g1 g2 g3 g4 => roundRun_lies a3 k3 ps per a5 k5 ns W g1 g2 ho h1 h2 hk
  have HLf : Hid (∀ W, Below w.heap.size w W → Calls Tryd.prog 26 #[.slice pa ps.length pcap, .int .i64 per] W fun e w' => e = .returned (.agg #[.int .i64 0, .int .i64 (-1)]) ∧ Below W.heap.size W w') := fun W hb => refLinkFault_is pa pcap ps per 0 (-1) W (hp.below hb) hpc hpm (.inr (.inr ⟨ho, h1, h2, rfl, rfl⟩))
  have HNe : Hid (∀ W, Below w.heap.size w W → Calls Tryd.prog 32 #[.slice na ns.length ncap, .int .i64 1, .int .i64 3000] W fun e w' => e = .returned (.int .i64 0) ∧ w' = W) := fun W hb => numbersError_is na ncap ns 1 3000 W (hn.below hb) 0 (.inr (.inr ⟨rfl, hk⟩))
  have HRo : Hid (∀ W, Below w.heap.size w W → Calls Tryd.prog 43 #[.slice pa ps.length pcap, .int .i64 per, .slice na ns.length ncap] W fun e w' => RoundEnd per ps ns W e w') := fun W hb => roundOf_any pa pcap ps per na ncap ns W (hp.below hb) (hn.below hb) ho h1 h2 hk
  have hm60 : ps.length ≤ 60 := by have := ho.few; omega
  have hqu : ∀ f, 1 ≤ quOf ns f := fun f => (quOf_in hk.each (by omega) f).1
  have HTm : Hid (∀ l, RoundSent per ps ns l → tameAll l ∧ ∀ (i : Nat) x, l[i]? = some x → named ps.length x = true) := fun l hl => by
    obtain ⟨n1, n2⟩ := hl.nums ho hqu ⟨h1, h2⟩
    exact ⟨fun i x hx => by have := n2 i x hx; exact decide_eq_true (by omega), fun i x hx => by
      obtain ⟨k, e1, e2⟩ := n1 i x hx
      exact decide_eq_true (by omega)⟩
  have hno : ¬ Flows x y := fun h => by unfold Flows at h; omega
  have HSp : Hid (∀ W a3 k3 a4 k4 a5 k5 l, Below w.heap.size w W → LiesP W a3 ps → LiesS W a4 l → LiesN W a5 ns → ps.length ≤ k3 → k3 ≤ maxLen → RoundSent per ps ns l → l.length = ps.length → Calls Tryd.prog 39 #[.slice a3 ps.length k3, .slice a4 ps.length k4, .slice a5 ns.length k5, .int .i64 x, .int .i64 y] W fun e w' => ∃ ty v, e = .returned (.tuple #[.int .i64 0, .iface ty v]) ∧ (ErrIs w' (.iface ty v) 2 (-1) ∧ Below W.heap.size W w')) := fun W a3 k3 a4 k4 a5 k5 l hb g1 g2 g3 g4 g5 g6 g7 => by
    have := spread_is a3 k3 ps a4 k4 l a5 k5 ns x y W ad (he.below hb) g1 g2 g3 g4 g5 (by omega) (HTm.out l g6).1 2 (-1) (.inr (.inl ⟨hk, hno, rfl, rfl⟩))
    rwa [g7] at this
  have h8 := hk.len
  clear ho hk hno hqu
  clear hp hpa hpc hpm hn hna he
  obtain ⟨m, hmm⟩ : ∃ m, ps.length = m := ⟨_, rfl⟩
  obtain ⟨r, hnr⟩ : ∃ r, ns.length = r := ⟨_, rfl⟩
  have HM : Hid (ps.length = m ∧ ns.length = r) := ⟨hmm, hnr⟩
  have HOwnP : Hid (∀ w', Below w.heap.size w w' → Calls Tryd.prog 21 #[.slice pa m pcap] w' fun e w'' => ∃ a' cap', e = .returned (.slice a' m cap') ∧ LiesP w'' a' ps ∧ m ≤ cap' ∧ cap' ≤ maxLen ∧ Below w'.heap.size w' w'' ∧ Below w.heap.size w w'') := fun w' hb => by
    have := ownPackets_from pa pcap ps w w' hb HP.out.1 (by omega) HP.out.2
    rwa [hmm] at this
  rw [hmm] at hm HFit HRun HLf HRo HSp hm60 ⊢
  rw [hnr] at hnn HRun HNe HRo HSp h8 ⊢
  clear hmm hnr
  subst h8
  go_enter Tryd.func12, Tryd.ntmps12
  go_wp2_with fail
  refine (turned_any _).mono ?_
  rintro e w1 ⟨rfl, hb⟩
  have HB1 : Hid (Below w.heap.size w w1) := hb
  clear hb
  go_wp2_with fail
  refine (HFit.out _).mono ?_
  rintro e w1' ⟨rfl, rfl⟩
  go_wp2_with fail
  refine (HOwnP.out _ HB1.out).mono ?_
  rintro e w3 ⟨a3, k3, rfl, l3, g3, m3, b3, B3⟩
  have HB3 : Hid (Below w.heap.size w w3 ∧ LiesP w3 a3 ps ∧ m ≤ k3 ∧ k3 ≤ maxLen) := ⟨B3, l3, g3, m3⟩
  have HN3 : Hid (LiesN w3 na ns) := HN.out.1.below B3
  clear l3 g3 m3 b3 B3
  go_wp2_with (at_builtin; go_must (refine wpList_append_ints _ rfl _ _ 32 rfl 3 i0 (.int .i64 0) Tryd.underlying32 hi hz0 hz1 hz2 rfl na ncap 8 ns HM.out.2 rfl rfl HN3.out HN.out.2 (by omega) ?_; rintro a4 k4 w4 h4; have HB4 : Hid (Below w.heap.size w w4 ∧ LiesP w4 a3 ps ∧ LiesN w4 a4 ns) := ⟨HB3.out.1.trans (h4.2.2.2.mono HB3.out.1.size), HB3.out.2.1.below h4.2.2.2, h4.1⟩; clear h4))
  refine (HRun.out w4 a3 k3 a4 k4 HB4.out.1 HB4.out.2.1 HB4.out.2.2 HB3.out.2.2.1 HB3.out.2.2.2).mono ?_
  rintro e w5 ⟨a5, k5, l, rfl, h5, b5⟩
  have HB5 : Hid (Below w.heap.size w w5 ∧ LiesS w5 a5 l ∧ (a5 = none → l = [] ∧ k5 = 0)) := ⟨HB4.out.1.trans (b5.mono HB4.out.1.size), h5.1, h5.2.2.2⟩
  have HQ1 : Hid (RoundSent per ps ns l ∧ l.length = m) := ⟨h5.2.1, h5.2.2.1⟩
  clear b5 h5
  go_wp2_with fail
  refine (HLf.out _ HB5.out.1).mono ?_
  rintro e w6 ⟨rfl, b6⟩
  have HX6 : Hid (Below w5.heap.size w5 (w6.alloc (.cells #[.int .i64 0, .int .i64 (-1)] 39)) ∧ At2 (w6.alloc (.cells #[.int .i64 0, .int .i64 (-1)] 39)) w6.heap.size (.int .i64 0) (.int .i64 (-1)) ∧ w5.heap.size ≤ w6.heap.size) := ⟨b6.alloc b6.size _, at2_new w6 _ _ _, b6.size⟩
  clear b6
  go_wp2_with fail
  refine (HNe.out _ (HB5.out.1.trans (HX6.out.1.mono HB5.out.1.size))).mono ?_
  rintro e w7' ⟨rfl, hw7⟩
  rw [hw7]
  clear hw7
  go_wp2_with fail
  refine (bare_any 0 _).mono ?_
  rintro e w7 ⟨rfl, b7⟩
  obtain ⟨k0, k1, f0, f1⟩ := HX6.out.2.1.later b7
  have HX7 : Hid (Below w5.heap.size w5 ((w7.setCell ⟨w6.heap.size, 0, none⟩ (.int .i64 0)).setCell ⟨w6.heap.size, 1, none⟩ (.int .i64 (-1)))) := ((HX6.out.1.trans (b7.mono HX6.out.1.size)).setCell HX6.out.2.2 _).setCell HX6.out.2.2 _
  clear b7
  go_wp2_with fail
  refine (HRo.out _ (HB5.out.1.trans (HX7.out.mono HB5.out.1.size))).mono ?_
  rintro e w8 ⟨v8, l8, rfl, o8, e8, b8⟩
  obtain ⟨a8, k8, rfl, -, -, g8, -, -⟩ := o8.open
  have hsame : l8 = l := e8.same HQ1.out.1
  subst hsame
  have HX8 : Hid (Below w5.heap.size w5 w8 ∧ LiesS w8 a8 l8) := ⟨HX7.out.trans (b8.mono HX7.out.size), g8⟩
  have hll : l8.length = m := HQ1.out.2
  have HSame : Hid (∀ W, Below w5.heap.size w5 W → LiesS W a8 l8 → Calls Tryd.prog 27 #[.slice a5 m k5, .slice a8 m k8] W fun e w' => e = .returned (.bool true) ∧ Below W.heap.size W w') := fun W hb hS => by
    have := sameSent_yes a5 a8 k5 k8 l8 W (HB5.out.2.1.below hb) hS (by omega)
    rwa [hll] at this
  have HOwnS : Hid (∀ W, Below w5.heap.size w5 W → Calls Tryd.prog 18 #[.slice a5 m k5] W fun e w' => ∃ a' cap', e = .returned (.slice a' m cap') ∧ LiesS w' a' l8 ∧ Below W.heap.size W w' ∧ Below w5.heap.size w5 w') := fun W hb => by
    have := ownSent_from a5 k5 l8 w5 W hb HB5.out.2.1 (by omega) HB5.out.2.2
    rwa [hll] at this
  rw [hll]
  clear b8 o8 g8 e8 hll
  go_wp2_with fail
  refine (HSame.out _ HX8.out.1 HX8.out.2).mono ?_
  rintro e w9 ⟨rfl, b9⟩
  have HX9 : Hid (Below w5.heap.size w5 w9) := HX8.out.1.trans (b9.mono HX8.out.1.size)
  clear b9
  go_wp2_with fail
  refine (HOwnP.out _ (HB5.out.1.trans (HX9.out.mono HB5.out.1.size))).mono ?_
  rintro e w10 ⟨a10, k10, rfl, l10, g10, m10, b10, B10⟩
  have HB10 : Hid (Below w.heap.size w w10 ∧ LiesP w10 a10 ps ∧ m ≤ k10 ∧ k10 ≤ maxLen ∧ Below w5.heap.size w5 w10) := ⟨B10, l10, g10, m10, HX9.out.trans (b10.mono HX9.out.size)⟩
  clear l10 g10 m10 b10 B10
  go_wp2_with fail
  refine (HOwnS.out _ HB10.out.2.2.2.2).mono ?_
  rintro e w11 ⟨a11, k11, rfl, l11, b11, B11⟩
  have HB11 : Hid (Below w.heap.size w w11 ∧ LiesP w11 a10 ps ∧ LiesS w11 a11 l8 ∧ Below w5.heap.size w5 w11) := ⟨HB10.out.1.trans (b11.mono HB10.out.1.size), HB10.out.2.1.below b11, l11, B11⟩
  have HN11 : Hid (LiesN w11 na ns) := HN.out.1.below HB11.out.1
  clear l11 b11 B11
  go_wp2_with (at_builtin; go_must (refine wpList_append_ints _ rfl _ _ 32 rfl 3 i0 (.int .i64 0) Tryd.underlying32 hi hz0 hz1 hz2 rfl na ncap 8 ns HM.out.2 rfl rfl HN11.out HN.out.2 (by omega) ?_; rintro a12 k12 w12 h12; have HB12 : Hid (Below w.heap.size w w12 ∧ LiesP w12 a10 ps ∧ LiesS w12 a11 l8 ∧ LiesN w12 a12 ns ∧ Below w5.heap.size w5 w12) := ⟨HB11.out.1.trans (h12.2.2.2.mono HB11.out.1.size), HB11.out.2.1.below h12.2.2.2, HB11.out.2.2.1.below h12.2.2.2, h12.1, HB11.out.2.2.2.trans (h12.2.2.2.mono HB11.out.2.2.2.size)⟩; clear h12))
  refine (HSp.out w12 a10 k10 a11 k11 a12 k12 l8 HB12.out.1 HB12.out.2.1 HB12.out.2.2.1 HB12.out.2.2.2.1 HB10.out.2.2.1 HB10.out.2.2.2.1 HQ1.out.1 HQ1.out.2).mono ?_
  rintro e w13 ⟨ty, v, rfl, hE13, b13⟩
  have HB13 : Hid (Below w.heap.size w w13 ∧ ErrIs w13 (.iface ty v) 2 (-1)) := ⟨HB12.out.1.trans (b13.mono HB12.out.1.size), hE13⟩
  clear hE13 b13
  go_wp2_with fail
  refine (coded_yes (.iface ty v) 2 _ HB13.out.2.code).mono ?_
  rintro e w14 ⟨rfl, b14⟩
  have HB14 : Hid (Below w.heap.size w w14) := HB13.out.1.trans (b14.mono HB13.out.1.size)
  clear b14
  go_wp2_with fail
  go_ret
  exact ⟨rfl, HB14.out⟩

set_option maxRecDepth 100000 in
set_option maxHeartbeats 4000000 in
theorem rnLaw_y8 (pa : Option Addr) (pcap : Nat) (ps : List Pk) (per : Int) (na : Option Addr) (ncap : Nat) (ns : List Int) (x y : Int) (w : World) (ad : Nat → Addr) (he : Errs9 w ad) (hp : LiesP w pa ps) (hpa : pa = none → ps = [] ∧ pcap = 0) (hpc : ps.length ≤ pcap) (hpm : pcap ≤ maxLen) (hn : LiesN w na ns) (hna : na = none → ns = [] ∧ ncap = 0) (hm : ps.length ≤ 60 ∨ ps.length = 301) (hnn : ns.length ≤ 30) (ho : OkPks ps) (h1 : 1 ≤ per) (h2 : per ≤ 1000) (hk : NumsOk 1 3000 ns) (hx0 : ¬ x < 0) (hx8 : ¬ 8 ≤ x) (hy0 : ¬ y < 0) (hy : 8 ≤ y) :
    Calls Tryd.prog 12 #[.slice pa ps.length pcap, .int .i64 per, .slice na ns.length ncap, .int .i64 x, .int .i64 y] w fun e w' => e = .returned (.bool true) ∧ Below w.heap.size w w' := by
  obtain ⟨i0, hi, hz0, hz1, hz2⟩ := info_parts Tryd.infoInt
  have HP : Hid (LiesP w pa ps ∧ (pa = none → ps = [] ∧ pcap = 0)) := ⟨hp, hpa⟩
  have HN : Hid (LiesN w na ns ∧ (na = none → ns = [] ∧ ncap = 0)) := ⟨hn, hna⟩
  have HFit : Hid (∀ w', Calls Tryd.prog 24 #[.slice pa ps.length pcap, .int .i64 60] w' fun e w'' => e = .returned (.bool true) ∧ w'' = w') := fun w' => fitPkts_yes pa ps.length pcap 60 w' (Nat.le_trans hpc hpm) (by omega)
  have HRun : Hid (∀ W a3 k3 a5 k5, Below w.heap.size w W → LiesP W a3 ps → LiesN W a5 ns → ps.length ≤ k3 → k3 ≤ maxLen → Calls Tryd.prog 42 #[.slice a3 ps.length k3, .int .i64 per, .slice a5 ns.length k5] W fun e w' => ∃ a' k' l, e = .returned (.tuple #[.slice a' ps.length k', .nilIface]) ∧ (LiesS w' a' l ∧ RoundSent per ps ns l ∧ l.length = ps.length ∧ (a' = none → l = [] ∧ k' = 0)) ∧ Below W.heap.size W w') := fun W a3 k3 a5 k5 hb g1 g2 g3 g4 => roundRun_lies a3 k3 ps per a5 k5 ns W g1 g2 ho h1 h2 hk
  have HLf : Hid (∀ W, Below w.heap.size w W → Calls Tryd.prog 26 #[.slice pa ps.length pcap, .int .i64 per] W fun e w' => e = .returned (.agg #[.int .i64 0, .int .i64 (-1)]) ∧ Below W.heap.size W w') := fun W hb => refLinkFault_is pa pcap ps per 0 (-1) W (hp.below hb) hpc hpm (.inr (.inr ⟨ho, h1, h2, rfl, rfl⟩))
  have HNe : Hid (∀ W, Below w.heap.size w W → Calls Tryd.prog 32 #[.slice na ns.length ncap, .int .i64 1, .int .i64 3000] W fun e w' => e = .returned (.int .i64 0) ∧ w' = W) := fun W hb => numbersError_is na ncap ns 1 3000 W (hn.below hb) 0 (.inr (.inr ⟨rfl, hk⟩))
  have HRo : Hid (∀ W, Below w.heap.size w W → Calls Tryd.prog 43 #[.slice pa ps.length pcap, .int .i64 per, .slice na ns.length ncap] W fun e w' => RoundEnd per ps ns W e w') := fun W hb => roundOf_any pa pcap ps per na ncap ns W (hp.below hb) (hn.below hb) ho h1 h2 hk
  have hm60 : ps.length ≤ 60 := by have := ho.few; omega
  have hqu : ∀ f, 1 ≤ quOf ns f := fun f => (quOf_in hk.each (by omega) f).1
  have HTm : Hid (∀ l, RoundSent per ps ns l → tameAll l ∧ ∀ (i : Nat) x, l[i]? = some x → named ps.length x = true) := fun l hl => by
    obtain ⟨n1, n2⟩ := hl.nums ho hqu ⟨h1, h2⟩
    exact ⟨fun i x hx => by have := n2 i x hx; exact decide_eq_true (by omega), fun i x hx => by
      obtain ⟨k, e1, e2⟩ := n1 i x hx
      exact decide_eq_true (by omega)⟩
  have hno : ¬ Flows x y := fun h => by unfold Flows at h; omega
  have HSp : Hid (∀ W a3 k3 a4 k4 a5 k5 l, Below w.heap.size w W → LiesP W a3 ps → LiesS W a4 l → LiesN W a5 ns → ps.length ≤ k3 → k3 ≤ maxLen → RoundSent per ps ns l → l.length = ps.length → Calls Tryd.prog 39 #[.slice a3 ps.length k3, .slice a4 ps.length k4, .slice a5 ns.length k5, .int .i64 x, .int .i64 y] W fun e w' => ∃ ty v, e = .returned (.tuple #[.int .i64 0, .iface ty v]) ∧ (ErrIs w' (.iface ty v) 2 (-1) ∧ Below W.heap.size W w')) := fun W a3 k3 a4 k4 a5 k5 l hb g1 g2 g3 g4 g5 g6 g7 => by
    have := spread_is a3 k3 ps a4 k4 l a5 k5 ns x y W ad (he.below hb) g1 g2 g3 g4 g5 (by omega) (HTm.out l g6).1 2 (-1) (.inr (.inl ⟨hk, hno, rfl, rfl⟩))
    rwa [g7] at this
  have h8 := hk.len
  clear ho hk hno hqu
  clear hp hpa hpc hpm hn hna he
  obtain ⟨m, hmm⟩ : ∃ m, ps.length = m := ⟨_, rfl⟩
  obtain ⟨r, hnr⟩ : ∃ r, ns.length = r := ⟨_, rfl⟩
  have HM : Hid (ps.length = m ∧ ns.length = r) := ⟨hmm, hnr⟩
  have HOwnP : Hid (∀ w', Below w.heap.size w w' → Calls Tryd.prog 21 #[.slice pa m pcap] w' fun e w'' => ∃ a' cap', e = .returned (.slice a' m cap') ∧ LiesP w'' a' ps ∧ m ≤ cap' ∧ cap' ≤ maxLen ∧ Below w'.heap.size w' w'' ∧ Below w.heap.size w w'') := fun w' hb => by
    have := ownPackets_from pa pcap ps w w' hb HP.out.1 (by omega) HP.out.2
    rwa [hmm] at this
  rw [hmm] at hm HFit HRun HLf HRo HSp hm60 ⊢
  rw [hnr] at hnn HRun HNe HRo HSp h8 ⊢
  clear hmm hnr
  subst h8
  go_enter Tryd.func12, Tryd.ntmps12
  go_wp2_with fail
  refine (turned_any _).mono ?_
  rintro e w1 ⟨rfl, hb⟩
  have HB1 : Hid (Below w.heap.size w w1) := hb
  clear hb
  go_wp2_with fail
  refine (HFit.out _).mono ?_
  rintro e w1' ⟨rfl, rfl⟩
  go_wp2_with fail
  refine (HOwnP.out _ HB1.out).mono ?_
  rintro e w3 ⟨a3, k3, rfl, l3, g3, m3, b3, B3⟩
  have HB3 : Hid (Below w.heap.size w w3 ∧ LiesP w3 a3 ps ∧ m ≤ k3 ∧ k3 ≤ maxLen) := ⟨B3, l3, g3, m3⟩
  have HN3 : Hid (LiesN w3 na ns) := HN.out.1.below B3
  clear l3 g3 m3 b3 B3
  go_wp2_with (at_builtin; go_must (refine wpList_append_ints _ rfl _ _ 32 rfl 3 i0 (.int .i64 0) Tryd.underlying32 hi hz0 hz1 hz2 rfl na ncap 8 ns HM.out.2 rfl rfl HN3.out HN.out.2 (by omega) ?_; rintro a4 k4 w4 h4; have HB4 : Hid (Below w.heap.size w w4 ∧ LiesP w4 a3 ps ∧ LiesN w4 a4 ns) := ⟨HB3.out.1.trans (h4.2.2.2.mono HB3.out.1.size), HB3.out.2.1.below h4.2.2.2, h4.1⟩; clear h4))
  refine (HRun.out w4 a3 k3 a4 k4 HB4.out.1 HB4.out.2.1 HB4.out.2.2 HB3.out.2.2.1 HB3.out.2.2.2).mono ?_
  rintro e w5 ⟨a5, k5, l, rfl, h5, b5⟩
  have HB5 : Hid (Below w.heap.size w w5 ∧ LiesS w5 a5 l ∧ (a5 = none → l = [] ∧ k5 = 0)) := ⟨HB4.out.1.trans (b5.mono HB4.out.1.size), h5.1, h5.2.2.2⟩
  have HQ1 : Hid (RoundSent per ps ns l ∧ l.length = m) := ⟨h5.2.1, h5.2.2.1⟩
  clear b5 h5
  go_wp2_with fail
  refine (HLf.out _ HB5.out.1).mono ?_
  rintro e w6 ⟨rfl, b6⟩
  have HX6 : Hid (Below w5.heap.size w5 (w6.alloc (.cells #[.int .i64 0, .int .i64 (-1)] 39)) ∧ At2 (w6.alloc (.cells #[.int .i64 0, .int .i64 (-1)] 39)) w6.heap.size (.int .i64 0) (.int .i64 (-1)) ∧ w5.heap.size ≤ w6.heap.size) := ⟨b6.alloc b6.size _, at2_new w6 _ _ _, b6.size⟩
  clear b6
  go_wp2_with fail
  refine (HNe.out _ (HB5.out.1.trans (HX6.out.1.mono HB5.out.1.size))).mono ?_
  rintro e w7' ⟨rfl, hw7⟩
  rw [hw7]
  clear hw7
  go_wp2_with fail
  refine (bare_any 0 _).mono ?_
  rintro e w7 ⟨rfl, b7⟩
  obtain ⟨k0, k1, f0, f1⟩ := HX6.out.2.1.later b7
  have HX7 : Hid (Below w5.heap.size w5 ((w7.setCell ⟨w6.heap.size, 0, none⟩ (.int .i64 0)).setCell ⟨w6.heap.size, 1, none⟩ (.int .i64 (-1)))) := ((HX6.out.1.trans (b7.mono HX6.out.1.size)).setCell HX6.out.2.2 _).setCell HX6.out.2.2 _
  clear b7
  go_wp2_with fail
  refine (HRo.out _ (HB5.out.1.trans (HX7.out.mono HB5.out.1.size))).mono ?_
  rintro e w8 ⟨v8, l8, rfl, o8, e8, b8⟩
  obtain ⟨a8, k8, rfl, -, -, g8, -, -⟩ := o8.open
  have hsame : l8 = l := e8.same HQ1.out.1
  subst hsame
  have HX8 : Hid (Below w5.heap.size w5 w8 ∧ LiesS w8 a8 l8) := ⟨HX7.out.trans (b8.mono HX7.out.size), g8⟩
  have hll : l8.length = m := HQ1.out.2
  have HSame : Hid (∀ W, Below w5.heap.size w5 W → LiesS W a8 l8 → Calls Tryd.prog 27 #[.slice a5 m k5, .slice a8 m k8] W fun e w' => e = .returned (.bool true) ∧ Below W.heap.size W w') := fun W hb hS => by
    have := sameSent_yes a5 a8 k5 k8 l8 W (HB5.out.2.1.below hb) hS (by omega)
    rwa [hll] at this
  have HOwnS : Hid (∀ W, Below w5.heap.size w5 W → Calls Tryd.prog 18 #[.slice a5 m k5] W fun e w' => ∃ a' cap', e = .returned (.slice a' m cap') ∧ LiesS w' a' l8 ∧ Below W.heap.size W w' ∧ Below w5.heap.size w5 w') := fun W hb => by
    have := ownSent_from a5 k5 l8 w5 W hb HB5.out.2.1 (by omega) HB5.out.2.2
    rwa [hll] at this
  rw [hll]
  clear b8 o8 g8 e8 hll
  go_wp2_with fail
  refine (HSame.out _ HX8.out.1 HX8.out.2).mono ?_
  rintro e w9 ⟨rfl, b9⟩
  have HX9 : Hid (Below w5.heap.size w5 w9) := HX8.out.1.trans (b9.mono HX8.out.1.size)
  clear b9
  go_wp2_with fail
  refine (HOwnP.out _ (HB5.out.1.trans (HX9.out.mono HB5.out.1.size))).mono ?_
  rintro e w10 ⟨a10, k10, rfl, l10, g10, m10, b10, B10⟩
  have HB10 : Hid (Below w.heap.size w w10 ∧ LiesP w10 a10 ps ∧ m ≤ k10 ∧ k10 ≤ maxLen ∧ Below w5.heap.size w5 w10) := ⟨B10, l10, g10, m10, HX9.out.trans (b10.mono HX9.out.size)⟩
  clear l10 g10 m10 b10 B10
  go_wp2_with fail
  refine (HOwnS.out _ HB10.out.2.2.2.2).mono ?_
  rintro e w11 ⟨a11, k11, rfl, l11, b11, B11⟩
  have HB11 : Hid (Below w.heap.size w w11 ∧ LiesP w11 a10 ps ∧ LiesS w11 a11 l8 ∧ Below w5.heap.size w5 w11) := ⟨HB10.out.1.trans (b11.mono HB10.out.1.size), HB10.out.2.1.below b11, l11, B11⟩
  have HN11 : Hid (LiesN w11 na ns) := HN.out.1.below HB11.out.1
  clear l11 b11 B11
  go_wp2_with (at_builtin; go_must (refine wpList_append_ints _ rfl _ _ 32 rfl 3 i0 (.int .i64 0) Tryd.underlying32 hi hz0 hz1 hz2 rfl na ncap 8 ns HM.out.2 rfl rfl HN11.out HN.out.2 (by omega) ?_; rintro a12 k12 w12 h12; have HB12 : Hid (Below w.heap.size w w12 ∧ LiesP w12 a10 ps ∧ LiesS w12 a11 l8 ∧ LiesN w12 a12 ns ∧ Below w5.heap.size w5 w12) := ⟨HB11.out.1.trans (h12.2.2.2.mono HB11.out.1.size), HB11.out.2.1.below h12.2.2.2, HB11.out.2.2.1.below h12.2.2.2, h12.1, HB11.out.2.2.2.trans (h12.2.2.2.mono HB11.out.2.2.2.size)⟩; clear h12))
  refine (HSp.out w12 a10 k10 a11 k11 a12 k12 l8 HB12.out.1 HB12.out.2.1 HB12.out.2.2.1 HB12.out.2.2.2.1 HB10.out.2.2.1 HB10.out.2.2.2.1 HQ1.out.1 HQ1.out.2).mono ?_
  rintro e w13 ⟨ty, v, rfl, hE13, b13⟩
  have HB13 : Hid (Below w.heap.size w w13 ∧ ErrIs w13 (.iface ty v) 2 (-1)) := ⟨HB12.out.1.trans (b13.mono HB12.out.1.size), hE13⟩
  clear hE13 b13
  go_wp2_with fail
  refine (coded_yes (.iface ty v) 2 _ HB13.out.2.code).mono ?_
  rintro e w14 ⟨rfl, b14⟩
  have HB14 : Hid (Below w.heap.size w w14) := HB13.out.1.trans (b14.mono HB13.out.1.size)
  clear b14
  go_wp2_with fail
  go_ret
  exact ⟨rfl, HB14.out⟩

set_option maxRecDepth 100000 in
set_option maxHeartbeats 4000000 in
theorem rnLaw_ok (pa : Option Addr) (pcap : Nat) (ps : List Pk) (per : Int) (na : Option Addr) (ncap : Nat) (ns : List Int) (x y : Int) (w : World) (ad : Nat → Addr) (he : Errs9 w ad) (hp : LiesP w pa ps) (hpa : pa = none → ps = [] ∧ pcap = 0) (hpc : ps.length ≤ pcap) (hpm : pcap ≤ maxLen) (hn : LiesN w na ns) (hna : na = none → ns = [] ∧ ncap = 0) (hm : ps.length ≤ 60 ∨ ps.length = 301) (hnn : ns.length ≤ 30) (ho : OkPks ps) (h1 : 1 ≤ per) (h2 : per ≤ 1000) (hk : NumsOk 1 3000 ns) (hx0 : ¬ x < 0) (hx8 : ¬ 8 ≤ x) (hy0 : ¬ y < 0) (hy8 : ¬ 8 ≤ y) :
    Calls Tryd.prog 12 #[.slice pa ps.length pcap, .int .i64 per, .slice na ns.length ncap, .int .i64 x, .int .i64 y] w fun e w' => e = .returned (.bool true) ∧ Below w.heap.size w w' := by
  obtain ⟨i0, hi, hz0, hz1, hz2⟩ := info_parts Tryd.infoInt
  have HP : Hid (LiesP w pa ps ∧ (pa = none → ps = [] ∧ pcap = 0)) := ⟨hp, hpa⟩
  have HN : Hid (LiesN w na ns ∧ (na = none → ns = [] ∧ ncap = 0)) := ⟨hn, hna⟩
  have HFit : Hid (∀ w', Calls Tryd.prog 24 #[.slice pa ps.length pcap, .int .i64 60] w' fun e w'' => e = .returned (.bool true) ∧ w'' = w') := fun w' => fitPkts_yes pa ps.length pcap 60 w' (Nat.le_trans hpc hpm) (by omega)
  have HRun : Hid (∀ W a3 k3 a5 k5, Below w.heap.size w W → LiesP W a3 ps → LiesN W a5 ns → ps.length ≤ k3 → k3 ≤ maxLen → Calls Tryd.prog 42 #[.slice a3 ps.length k3, .int .i64 per, .slice a5 ns.length k5] W fun e w' => ∃ a' k' l, e = .returned (.tuple #[.slice a' ps.length k', .nilIface]) ∧ (LiesS w' a' l ∧ RoundSent per ps ns l ∧ l.length = ps.length ∧ (a' = none → l = [] ∧ k' = 0)) ∧ Below W.heap.size W w') := fun W a3 k3 a5 k5 hb g1 g2 g3 g4 => roundRun_lies a3 k3 ps per a5 k5 ns W g1 g2 ho h1 h2 hk
  have HLf : Hid (∀ W, Below w.heap.size w W → Calls Tryd.prog 26 #[.slice pa ps.length pcap, .int .i64 per] W fun e w' => e = .returned (.agg #[.int .i64 0, .int .i64 (-1)]) ∧ Below W.heap.size W w') := fun W hb => refLinkFault_is pa pcap ps per 0 (-1) W (hp.below hb) hpc hpm (.inr (.inr ⟨ho, h1, h2, rfl, rfl⟩))
  have HNe : Hid (∀ W, Below w.heap.size w W → Calls Tryd.prog 32 #[.slice na ns.length ncap, .int .i64 1, .int .i64 3000] W fun e w' => e = .returned (.int .i64 0) ∧ w' = W) := fun W hb => numbersError_is na ncap ns 1 3000 W (hn.below hb) 0 (.inr (.inr ⟨rfl, hk⟩))
  have HRo : Hid (∀ W, Below w.heap.size w W → Calls Tryd.prog 43 #[.slice pa ps.length pcap, .int .i64 per, .slice na ns.length ncap] W fun e w' => RoundEnd per ps ns W e w') := fun W hb => roundOf_any pa pcap ps per na ncap ns W (hp.below hb) (hn.below hb) ho h1 h2 hk
  have hm60 : ps.length ≤ 60 := by have := ho.few; omega
  have hqu : ∀ f, 1 ≤ quOf ns f := fun f => (quOf_in hk.each (by omega) f).1
  have HTm : Hid (∀ l, RoundSent per ps ns l → tameAll l ∧ ∀ (i : Nat) x, l[i]? = some x → named ps.length x = true) := fun l hl => by
    obtain ⟨n1, n2⟩ := hl.nums ho hqu ⟨h1, h2⟩
    exact ⟨fun i x hx => by have := n2 i x hx; exact decide_eq_true (by omega), fun i x hx => by
      obtain ⟨k, e1, e2⟩ := n1 i x hx
      exact decide_eq_true (by omega)⟩
  obtain ⟨a, rfl⟩ : ∃ a : Nat, x = a := ⟨x.toNat, by omega⟩
  obtain ⟨b, rfl⟩ : ∃ b : Nat, y = b := ⟨y.toNat, by omega⟩
  have HSp : Hid (∀ W a3 k3 a4 k4 a5 k5 l, Below w.heap.size w W → LiesP W a3 ps → LiesS W a4 l → LiesN W a5 ns → RoundSent per ps ns l → l.length = ps.length → Calls Tryd.prog 39 #[.slice a3 ps.length k3, .slice a4 ps.length k4, .slice a5 ns.length k5, .int .i64 (a : Int), .int .i64 (b : Int)] W fun e w' => ∃ N, e = .returned (.tuple #[.int .i64 N, .nilIface]) ∧ SpreadIs ps ns l a b N ∧ Below W.heap.size W w') := fun W a3 k3 a4 k4 a5 k5 l hb g1 g2 g3 g6 g7 => by
    have := spread_ok a3 k3 ps a4 k4 l a5 k5 ns a b W ad (he.below hb).c3 g1 g2 g3 ho hk (by omega) (by omega) (by omega) (HTm.out l g6).1 (HTm.out l g6).2
    rwa [g7] at this
  have HOf : Hid (∀ W a4 k4 l N, Below w.heap.size w W → LiesS W a4 l → RoundSent per ps ns l → l.length = ps.length → SpreadIs ps ns l a b N → Calls Tryd.prog 41 #[.slice pa ps.length pcap, .slice a4 ps.length k4, .slice na ns.length ncap, .int .i64 (a : Int), .int .i64 (b : Int)] W fun e w' => e = .returned (.int .i64 N) ∧ Below W.heap.size W w') := fun W a4 k4 l N hb g2 g6 g7 hN => by
    have h := spreadOf_any pa pcap ps a4 k4 l na ncap ns a b W (hp.below hb) g2 (hn.below hb) ho hk (by omega) (by omega) (by omega) (HTm.out l g6).2
    rw [g7] at h
    refine h.mono ?_
    rintro e w' ⟨M, rfl, hM, hb'⟩
    exact ⟨by rw [MostIn.same hM hN], hb'⟩
  have h8 := hk.len
  clear ho hk hqu
  clear hp hpa hpc hpm hn hna he
  obtain ⟨m, hmm⟩ : ∃ m, ps.length = m := ⟨_, rfl⟩
  obtain ⟨r, hnr⟩ : ∃ r, ns.length = r := ⟨_, rfl⟩
  have HM : Hid (ps.length = m ∧ ns.length = r) := ⟨hmm, hnr⟩
  have HOwnP : Hid (∀ w', Below w.heap.size w w' → Calls Tryd.prog 21 #[.slice pa m pcap] w' fun e w'' => ∃ a' cap', e = .returned (.slice a' m cap') ∧ LiesP w'' a' ps ∧ m ≤ cap' ∧ cap' ≤ maxLen ∧ Below w'.heap.size w' w'' ∧ Below w.heap.size w w'') := fun w' hb => by
    have := ownPackets_from pa pcap ps w w' hb HP.out.1 (by omega) HP.out.2
    rwa [hmm] at this
  rw [hmm] at hm HFit HRun HLf HRo HSp HOf hm60 ⊢
  rw [hnr] at hnn HRun HNe HRo HSp HOf h8 ⊢
  clear hmm hnr
  subst h8
  go_enter Tryd.func12, Tryd.ntmps12
  go_wp2_with fail
  refine (turned_any _).mono ?_
  rintro e w1 ⟨rfl, hb⟩
  have HB1 : Hid (Below w.heap.size w w1) := hb
  clear hb
  go_wp2_with fail
  refine (HFit.out _).mono ?_
  rintro e w1' ⟨rfl, rfl⟩
  go_wp2_with fail
  refine (HOwnP.out _ HB1.out).mono ?_
  rintro e w3 ⟨a3, k3, rfl, l3, g3, m3, b3, B3⟩
  have HB3 : Hid (Below w.heap.size w w3 ∧ LiesP w3 a3 ps ∧ m ≤ k3 ∧ k3 ≤ maxLen) := ⟨B3, l3, g3, m3⟩
  have HN3 : Hid (LiesN w3 na ns) := HN.out.1.below B3
  clear l3 g3 m3 b3 B3
  go_wp2_with (at_builtin; go_must (refine wpList_append_ints _ rfl _ _ 32 rfl 3 i0 (.int .i64 0) Tryd.underlying32 hi hz0 hz1 hz2 rfl na ncap 8 ns HM.out.2 rfl rfl HN3.out HN.out.2 (by omega) ?_; rintro a4 k4 w4 h4; have HB4 : Hid (Below w.heap.size w w4 ∧ LiesP w4 a3 ps ∧ LiesN w4 a4 ns) := ⟨HB3.out.1.trans (h4.2.2.2.mono HB3.out.1.size), HB3.out.2.1.below h4.2.2.2, h4.1⟩; clear h4))
  refine (HRun.out w4 a3 k3 a4 k4 HB4.out.1 HB4.out.2.1 HB4.out.2.2 HB3.out.2.2.1 HB3.out.2.2.2).mono ?_
  rintro e w5 ⟨a5, k5, l, rfl, h5, b5⟩
  have HB5 : Hid (Below w.heap.size w w5 ∧ LiesS w5 a5 l ∧ (a5 = none → l = [] ∧ k5 = 0)) := ⟨HB4.out.1.trans (b5.mono HB4.out.1.size), h5.1, h5.2.2.2⟩
  have HQ1 : Hid (RoundSent per ps ns l ∧ l.length = m) := ⟨h5.2.1, h5.2.2.1⟩
  clear b5 h5
  go_wp2_with fail
  refine (HLf.out _ HB5.out.1).mono ?_
  rintro e w6 ⟨rfl, b6⟩
  have HX6 : Hid (Below w5.heap.size w5 (w6.alloc (.cells #[.int .i64 0, .int .i64 (-1)] 39)) ∧ At2 (w6.alloc (.cells #[.int .i64 0, .int .i64 (-1)] 39)) w6.heap.size (.int .i64 0) (.int .i64 (-1)) ∧ w5.heap.size ≤ w6.heap.size) := ⟨b6.alloc b6.size _, at2_new w6 _ _ _, b6.size⟩
  clear b6
  go_wp2_with fail
  refine (HNe.out _ (HB5.out.1.trans (HX6.out.1.mono HB5.out.1.size))).mono ?_
  rintro e w7' ⟨rfl, hw7⟩
  rw [hw7]
  clear hw7
  go_wp2_with fail
  refine (bare_any 0 _).mono ?_
  rintro e w7 ⟨rfl, b7⟩
  obtain ⟨k0, k1, f0, f1⟩ := HX6.out.2.1.later b7
  have HX7 : Hid (Below w5.heap.size w5 ((w7.setCell ⟨w6.heap.size, 0, none⟩ (.int .i64 0)).setCell ⟨w6.heap.size, 1, none⟩ (.int .i64 (-1)))) := ((HX6.out.1.trans (b7.mono HX6.out.1.size)).setCell HX6.out.2.2 _).setCell HX6.out.2.2 _
  clear b7
  go_wp2_with fail
  refine (HRo.out _ (HB5.out.1.trans (HX7.out.mono HB5.out.1.size))).mono ?_
  rintro e w8 ⟨v8, l8, rfl, o8, e8, b8⟩
  obtain ⟨a8, k8, rfl, -, -, g8, -, -⟩ := o8.open
  have hsame : l8 = l := e8.same HQ1.out.1
  subst hsame
  have HX8 : Hid (Below w5.heap.size w5 w8 ∧ LiesS w8 a8 l8) := ⟨HX7.out.trans (b8.mono HX7.out.size), g8⟩
  have hll : l8.length = m := HQ1.out.2
  have HSame : Hid (∀ W, Below w5.heap.size w5 W → LiesS W a8 l8 → Calls Tryd.prog 27 #[.slice a5 m k5, .slice a8 m k8] W fun e w' => e = .returned (.bool true) ∧ Below W.heap.size W w') := fun W hb hS => by
    have := sameSent_yes a5 a8 k5 k8 l8 W (HB5.out.2.1.below hb) hS (by omega)
    rwa [hll] at this
  have HOwnS : Hid (∀ W, Below w5.heap.size w5 W → Calls Tryd.prog 18 #[.slice a5 m k5] W fun e w' => ∃ a' cap', e = .returned (.slice a' m cap') ∧ LiesS w' a' l8 ∧ Below W.heap.size W w' ∧ Below w5.heap.size w5 w') := fun W hb => by
    have := ownSent_from a5 k5 l8 w5 W hb HB5.out.2.1 (by omega) HB5.out.2.2
    rwa [hll] at this
  rw [hll]
  clear b8 o8 g8 e8 hll
  go_wp2_with fail
  refine (HSame.out _ HX8.out.1 HX8.out.2).mono ?_
  rintro e w9 ⟨rfl, b9⟩
  have HX9 : Hid (Below w5.heap.size w5 w9) := HX8.out.1.trans (b9.mono HX8.out.1.size)
  clear b9
  go_wp2_with fail
  refine (HOwnP.out _ (HB5.out.1.trans (HX9.out.mono HB5.out.1.size))).mono ?_
  rintro e w10 ⟨a10, k10, rfl, l10, g10, m10, b10, B10⟩
  have HB10 : Hid (Below w.heap.size w w10 ∧ LiesP w10 a10 ps ∧ m ≤ k10 ∧ k10 ≤ maxLen ∧ Below w5.heap.size w5 w10) := ⟨B10, l10, g10, m10, HX9.out.trans (b10.mono HX9.out.size)⟩
  clear l10 g10 m10 b10 B10
  go_wp2_with fail
  refine (HOwnS.out _ HB10.out.2.2.2.2).mono ?_
  rintro e w11 ⟨a11, k11, rfl, l11, b11, B11⟩
  have HB11 : Hid (Below w.heap.size w w11 ∧ LiesP w11 a10 ps ∧ LiesS w11 a11 l8 ∧ Below w5.heap.size w5 w11) := ⟨HB10.out.1.trans (b11.mono HB10.out.1.size), HB10.out.2.1.below b11, l11, B11⟩
  have HN11 : Hid (LiesN w11 na ns) := HN.out.1.below HB11.out.1
  clear l11 b11 B11
  go_wp2_with (at_builtin; go_must (refine wpList_append_ints _ rfl _ _ 32 rfl 3 i0 (.int .i64 0) Tryd.underlying32 hi hz0 hz1 hz2 rfl na ncap 8 ns HM.out.2 rfl rfl HN11.out HN.out.2 (by omega) ?_; rintro a12 k12 w12 h12; have HB12 : Hid (Below w.heap.size w w12 ∧ LiesP w12 a10 ps ∧ LiesS w12 a11 l8 ∧ LiesN w12 a12 ns ∧ Below w5.heap.size w5 w12) := ⟨HB11.out.1.trans (h12.2.2.2.mono HB11.out.1.size), HB11.out.2.1.below h12.2.2.2, HB11.out.2.2.1.below h12.2.2.2, h12.1, HB11.out.2.2.2.trans (h12.2.2.2.mono HB11.out.2.2.2.size)⟩; clear h12))
  refine (HSp.out w12 a10 k10 a11 k11 a12 k12 l8 HB12.out.1 HB12.out.2.1 HB12.out.2.2.1 HB12.out.2.2.2.1 HQ1.out.1 HQ1.out.2).mono ?_
  rintro e w13 ⟨N, rfl, hN, b13⟩
  have HB13 : Hid (Below w.heap.size w w13 ∧ SpreadIs ps ns l8 a b N ∧ LiesS w13 a5 l8) := ⟨HB12.out.1.trans (b13.mono HB12.out.1.size), hN, HB5.out.2.1.below (HB12.out.2.2.2.2.trans (b13.mono HB12.out.2.2.2.2.size))⟩
  have hNN : (N == N) = true := by simp
  clear hN b13
  go_wp2_with fail
  refine (HOf.out w13 a5 k5 l8 N HB13.out.1 HB13.out.2.2 HQ1.out.1 HQ1.out.2 HB13.out.2.1).mono ?_
  rintro e w14 ⟨rfl, b14⟩
  have HB14 : Hid (Below w.heap.size w w14) := HB13.out.1.trans (b14.mono HB13.out.1.size)
  clear b14
  go_wp2_with fail
  go_ret
  exact ⟨rfl, HB14.out⟩

end Go.Proofs.YtepnfioldbhffabDoor
