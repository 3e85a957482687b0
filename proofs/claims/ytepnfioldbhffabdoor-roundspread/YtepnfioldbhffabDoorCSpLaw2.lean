/- RoundSpread: its long ways. -/
import Derived.Test.YtepnfioldbhffabDoorCSpLaw1
namespace Go.Proofs.YtepnfioldbhffabDoor
open Go.RowKit

set_option maxRecDepth 100000 in
set_option maxHeartbeats 4000000 in
theorem spLaw_shape (pa : Option Addr) (pcap : Nat) (ps : List Pk) (a : Option Addr) (cap : Nat) (l : List Sn) (na : Option Addr) (ncap : Nat) (ns : List Int) (x y : Int) (w : World) (ad : Nat → Addr) (he : Errs9 w ad) (hp : LiesP w pa ps) (hpa : pa = none → ps = [] ∧ pcap = 0) (hpc : ps.length ≤ pcap) (hpm : pcap ≤ maxLen) (hl : LiesS w a l) (hla : a = none → l = [] ∧ cap = 0) (hn : LiesN w na ns) (hna : na = none → ns = [] ∧ ncap = 0) (hm : ps.length ≤ 60 ∨ ps.length = 301) (hll : l.length ≤ 60) (hnn : ns.length ≤ 30) (h8 : ns.length ≠ 8) :
    Calls Tryd.prog 10 #[.slice pa ps.length pcap, .slice a l.length cap, .slice na ns.length ncap, .int .i64 x, .int .i64 y] w fun e w' => e = .returned (.bool true) ∧ Below w.heap.size w w' := by
  obtain ⟨i0, hi, hz0, hz1, hz2⟩ := info_parts Tryd.infoInt
  have HP : Hid (LiesP w pa ps ∧ (pa = none → ps = [] ∧ pcap = 0)) := ⟨hp, hpa⟩
  have HL : Hid (LiesS w a l ∧ (a = none → l = [] ∧ cap = 0)) := ⟨hl, hla⟩
  have HN : Hid (LiesN w na ns ∧ (na = none → ns = [] ∧ ncap = 0)) := ⟨hn, hna⟩
  have HFit : Hid (∀ w', Calls Tryd.prog 24 #[.slice pa ps.length pcap, .int .i64 60] w' fun e w'' => e = .returned (.bool true) ∧ w'' = w') := fun w' => fitPkts_yes pa ps.length pcap 60 w' (Nat.le_trans hpc hpm) (by omega)
  have HTame : Hid (∀ w', Below w.heap.size w w' → Calls Tryd.prog 16 #[.slice a l.length cap] w' fun e w'' => TameEnd l w' e w'') := fun w' hb => tameSent_any a cap l w' (hl.below hb) (by omega)
  have hf : SpreadFaultIs ps ns l x y 3 (-1) := .inl ⟨⟨3, .inl ⟨rfl, h8⟩, by omega, rfl⟩, rfl⟩
  have HSp : Hid (∀ W a3 k3 a4 k4 a5 k5, Below w.heap.size w W → LiesP W a3 ps → LiesS W a4 l → LiesN W a5 ns → ps.length ≤ k3 → k3 ≤ maxLen → tameAll l → Calls Tryd.prog 39 #[.slice a3 ps.length k3, .slice a4 l.length k4, .slice a5 ns.length k5, .int .i64 x, .int .i64 y] W fun e w' => ∃ ty v, e = .returned (.tuple #[.int .i64 0, .iface ty v]) ∧ (ErrIs w' (.iface ty v) 3 (-1) ∧ Below W.heap.size W w')) := fun W a3 k3 a4 k4 a5 k5 hb h1 h2 h3 h4 h5 h6 => spread_is a3 k3 ps a4 k4 l a5 k5 ns x y W ad (he.below hb) h1 h2 h3 h4 h5 (by omega) h6 3 (-1) hf
  clear he hp hpa hpc hpm hl hla hn hna
  obtain ⟨m, hmm⟩ : ∃ m, ps.length = m := ⟨_, rfl⟩
  obtain ⟨n, hnl⟩ : ∃ n, l.length = n := ⟨_, rfl⟩
  obtain ⟨r, hnr⟩ : ∃ r, ns.length = r := ⟨_, rfl⟩
  have HM : Hid (ps.length = m ∧ l.length = n ∧ ns.length = r) := ⟨hmm, hnl, hnr⟩
  have HOwnP : Hid (∀ w', Below w.heap.size w w' → Calls Tryd.prog 21 #[.slice pa m pcap] w' fun e w'' => ∃ a' cap', e = .returned (.slice a' m cap') ∧ LiesP w'' a' ps ∧ m ≤ cap' ∧ cap' ≤ maxLen ∧ Below w'.heap.size w' w'' ∧ Below w.heap.size w w'') := fun w' hb => by
    have := ownPackets_from pa pcap ps w w' hb HP.out.1 (by omega) HP.out.2
    rwa [hmm] at this
  have HOwnS : Hid (∀ w', Below w.heap.size w w' → Calls Tryd.prog 18 #[.slice a n cap] w' fun e w'' => ∃ a' cap', e = .returned (.slice a' n cap') ∧ LiesS w'' a' l ∧ Below w'.heap.size w' w'' ∧ Below w.heap.size w w'') := fun w' hb => by
    have := ownSent_from a cap l w w' hb HL.out.1 (by omega) HL.out.2
    rwa [hnl] at this
  rw [hmm] at hm HFit HSp ⊢
  rw [hnl] at hll HTame HSp ⊢
  rw [hnr] at hnn HSp h8 ⊢
  clear hmm hnl hnr
  have hll' : ¬ 60 < n := by omega
  have hnn' : ¬ 30 < r := by omega
  go_enter Tryd.func10, Tryd.ntmps10
  go_wp2_with fail
  refine (turned_any _).mono ?_
  rintro e w1 ⟨rfl, hb⟩
  have HB1 : Hid (Below w.heap.size w w1) := hb
  clear hb
  go_wp2_with fail
  refine (HFit.out _).mono ?_
  rintro e w1' ⟨rfl, rfl⟩
  go_wp2_with fail
  refine (HTame.out _ HB1.out).mono ?_
  rintro e w2 ⟨⟨rfl, htame⟩ | rfl, hb2⟩
  · have HB2 : Hid (Below w.heap.size w w2 ∧ tameAll l) := ⟨HB1.out.trans (hb2.mono HB1.out.size), htame⟩
    clear hb2 htame
    go_wp2_with fail
    refine (HOwnP.out _ HB2.out.1).mono ?_
    rintro e w3 ⟨a3, k3, rfl, l3, g3, m3, b3, B3⟩
    have HB3 : Hid (Below w.heap.size w w3 ∧ LiesP w3 a3 ps ∧ m ≤ k3 ∧ k3 ≤ maxLen) := ⟨B3, l3, g3, m3⟩
    clear l3 g3 m3 b3 B3
    go_wp2_with fail
    refine (HOwnS.out _ HB3.out.1).mono ?_
    rintro e w4 ⟨a4, k4, rfl, l4, b4, B4⟩
    have HB4 : Hid (Below w.heap.size w w4 ∧ LiesP w4 a3 ps ∧ LiesS w4 a4 l) := ⟨B4, HB3.out.2.1.below b4, l4⟩
    have HN4 : Hid (LiesN w4 na ns) := HN.out.1.below B4
    clear l4 b4 B4
    go_wp2_with (at_builtin; go_must (refine wpList_append_ints _ rfl _ _ 32 rfl 3 i0 (.int .i64 0) Tryd.underlying32 hi hz0 hz1 hz2 rfl na ncap r ns HM.out.2.2 rfl rfl HN4.out HN.out.2 (by omega) ?_; rintro a5 k5 w5 h5; have HB5 : Hid (Below w.heap.size w w5 ∧ LiesP w5 a3 ps ∧ LiesS w5 a4 l ∧ LiesN w5 a5 ns) := ⟨HB4.out.1.trans (h5.2.2.2.mono HB4.out.1.size), HB4.out.2.1.below h5.2.2.2, HB4.out.2.2.below h5.2.2.2, h5.1⟩; clear h5))
    refine (HSp.out w5 a3 k3 a4 k4 a5 k5 HB5.out.1 HB5.out.2.1 HB5.out.2.2.1 HB5.out.2.2.2 HB3.out.2.2.1 HB3.out.2.2.2 HB2.out.2).mono ?_
    rintro e w6 ⟨ty, v, rfl, hE6, b6⟩
    have HB6 : Hid (Below w.heap.size w w6 ∧ ErrIs w6 (.iface ty v) 3 (-1)) := ⟨HB5.out.1.trans (b6.mono HB5.out.1.size), hE6⟩
    clear b6 hE6
    go_wp2_with fail
    refine (fine_any _).mono ?_
    rintro e w7 ⟨rfl, b7⟩
    have HX7 : Hid (Below w6.heap.size w6 (w7.alloc (.cells #[.int .i64 0, .int .i64 (-1)] 39)) ∧ At2 (w7.alloc (.cells #[.int .i64 0, .int .i64 (-1)] 39)) w7.heap.size (.int .i64 0) (.int .i64 (-1)) ∧ w6.heap.size ≤ w7.heap.size) := ⟨b7.alloc b7.size _, at2_new w7 _ _ _, b7.size⟩
    clear b7
    have hr8 : ((r : Int) == 8) = false := by simp; omega
    go_wp2_with fail
    refine (bare_any 3 _).mono ?_
    rintro e w8 ⟨rfl, b8⟩
    obtain ⟨k0, k1, f0, f1⟩ := HX7.out.2.1.later b8
    have HA8 : Hid (Below w6.heap.size w6 ((w8.setCell ⟨w7.heap.size, 0, none⟩ (.int .i64 3)).setCell ⟨w7.heap.size, 1, none⟩ (.int .i64 (-1)))) := ((HX7.out.1.trans (b8.mono HX7.out.1.size)).setCell HX7.out.2.2 _).setCell HX7.out.2.2 _
    clear b8
    go_wp2_with fail
    refine (faulted_yes (.iface ty v) 3 (-1) _ (HB6.out.2.code.below HA8.out)).mono ?_
    rintro e w9 ⟨rfl, b9⟩
    have HB9 : Hid (Below w.heap.size w w9) := HB6.out.1.trans ((HA8.out.trans (b9.mono HA8.out.size)).mono HB6.out.1.size)
    clear b9
    go_wp2_with fail
    go_ret
    exact ⟨rfl, HB9.out⟩

  · have HB2 : Hid (Below w.heap.size w w2) := HB1.out.trans (hb2.mono HB1.out.size)
    clear hb2
    go_wp2_with fail
    go_ret
    exact ⟨rfl, HB2.out⟩

set_option maxRecDepth 100000 in
set_option maxHeartbeats 4000000 in
theorem spLaw_x0 (pa : Option Addr) (pcap : Nat) (ps : List Pk) (a : Option Addr) (cap : Nat) (l : List Sn) (na : Option Addr) (ncap : Nat) (ns : List Int) (x y : Int) (w : World) (ad : Nat → Addr) (he : Errs9 w ad) (hp : LiesP w pa ps) (hpa : pa = none → ps = [] ∧ pcap = 0) (hpc : ps.length ≤ pcap) (hpm : pcap ≤ maxLen) (hl : LiesS w a l) (hla : a = none → l = [] ∧ cap = 0) (hn : LiesN w na ns) (hna : na = none → ns = [] ∧ ncap = 0) (hm : ps.length ≤ 60 ∨ ps.length = 301) (hll : l.length ≤ 60) (hnn : ns.length ≤ 30) (h8 : ns.length = 8) (hx : x < 0) :
    Calls Tryd.prog 10 #[.slice pa ps.length pcap, .slice a l.length cap, .slice na ns.length ncap, .int .i64 x, .int .i64 y] w fun e w' => e = .returned (.bool true) ∧ Below w.heap.size w w' := by
  obtain ⟨i0, hi, hz0, hz1, hz2⟩ := info_parts Tryd.infoInt
  have HP : Hid (LiesP w pa ps ∧ (pa = none → ps = [] ∧ pcap = 0)) := ⟨hp, hpa⟩
  have HL : Hid (LiesS w a l ∧ (a = none → l = [] ∧ cap = 0)) := ⟨hl, hla⟩
  have HN : Hid (LiesN w na ns ∧ (na = none → ns = [] ∧ ncap = 0)) := ⟨hn, hna⟩
  have HFit : Hid (∀ w', Calls Tryd.prog 24 #[.slice pa ps.length pcap, .int .i64 60] w' fun e w'' => e = .returned (.bool true) ∧ w'' = w') := fun w' => fitPkts_yes pa ps.length pcap 60 w' (Nat.le_trans hpc hpm) (by omega)
  have HTame : Hid (∀ w', Below w.heap.size w w' → Calls Tryd.prog 16 #[.slice a l.length cap] w' fun e w'' => TameEnd l w' e w'') := fun w' hb => tameSent_any a cap l w' (hl.below hb) (by omega)
  have hno : ¬ Flows x y := fun h => by unfold Flows at h; omega
  have hf : SpreadFaultIs ps ns l x y 2 (-1) := by
    obtain ⟨k, hk⟩ := numsFault_is 1 3000 ns
    rcases hk with ⟨rfl, h⟩ | ⟨rfl, h⟩ | ⟨rfl, h⟩
    · exact absurd h8 h
    · exact .inl ⟨⟨2, .inr (.inl ⟨rfl, h⟩), by omega, rfl⟩, rfl⟩
    · exact .inr (.inl ⟨h, hno, rfl, rfl⟩)
  have HSp : Hid (∀ W a3 k3 a4 k4 a5 k5, Below w.heap.size w W → LiesP W a3 ps → LiesS W a4 l → LiesN W a5 ns → ps.length ≤ k3 → k3 ≤ maxLen → tameAll l → Calls Tryd.prog 39 #[.slice a3 ps.length k3, .slice a4 l.length k4, .slice a5 ns.length k5, .int .i64 x, .int .i64 y] W fun e w' => ∃ ty v, e = .returned (.tuple #[.int .i64 0, .iface ty v]) ∧ (ErrIs w' (.iface ty v) 2 (-1) ∧ Below W.heap.size W w')) := fun W a3 k3 a4 k4 a5 k5 hb h1 h2 h3 h4 h5 h6 => spread_is a3 k3 ps a4 k4 l a5 k5 ns x y W ad (he.below hb) h1 h2 h3 h4 h5 (by omega) h6 2 (-1) hf
  clear hno hf he hp hpa hpc hpm hl hla hn hna
  obtain ⟨m, hmm⟩ : ∃ m, ps.length = m := ⟨_, rfl⟩
  obtain ⟨n, hnl⟩ : ∃ n, l.length = n := ⟨_, rfl⟩
  obtain ⟨r, hnr⟩ : ∃ r, ns.length = r := ⟨_, rfl⟩
  have HM : Hid (ps.length = m ∧ l.length = n ∧ ns.length = r) := ⟨hmm, hnl, hnr⟩
  have HOwnP : Hid (∀ w', Below w.heap.size w w' → Calls Tryd.prog 21 #[.slice pa m pcap] w' fun e w'' => ∃ a' cap', e = .returned (.slice a' m cap') ∧ LiesP w'' a' ps ∧ m ≤ cap' ∧ cap' ≤ maxLen ∧ Below w'.heap.size w' w'' ∧ Below w.heap.size w w'') := fun w' hb => by
    have := ownPackets_from pa pcap ps w w' hb HP.out.1 (by omega) HP.out.2
    rwa [hmm] at this
  have HOwnS : Hid (∀ w', Below w.heap.size w w' → Calls Tryd.prog 18 #[.slice a n cap] w' fun e w'' => ∃ a' cap', e = .returned (.slice a' n cap') ∧ LiesS w'' a' l ∧ Below w'.heap.size w' w'' ∧ Below w.heap.size w w'') := fun w' hb => by
    have := ownSent_from a cap l w w' hb HL.out.1 (by omega) HL.out.2
    rwa [hnl] at this
  rw [hmm] at hm HFit HSp ⊢
  rw [hnl] at hll HTame HSp ⊢
  rw [hnr] at hnn HSp h8 ⊢
  clear hmm hnl hnr
  subst h8
  have hll' : ¬ 60 < n := by omega
  go_enter Tryd.func10, Tryd.ntmps10
  go_wp2_with fail
  refine (turned_any _).mono ?_
  rintro e w1 ⟨rfl, hb⟩
  have HB1 : Hid (Below w.heap.size w w1) := hb
  clear hb
  go_wp2_with fail
  refine (HFit.out _).mono ?_
  rintro e w1' ⟨rfl, rfl⟩
  go_wp2_with fail
  refine (HTame.out _ HB1.out).mono ?_
  rintro e w2 ⟨⟨rfl, htame⟩ | rfl, hb2⟩
  · have HB2 : Hid (Below w.heap.size w w2 ∧ tameAll l) := ⟨HB1.out.trans (hb2.mono HB1.out.size), htame⟩
    clear hb2 htame
    go_wp2_with fail
    refine (HOwnP.out _ HB2.out.1).mono ?_
    rintro e w3 ⟨a3, k3, rfl, l3, g3, m3, b3, B3⟩
    have HB3 : Hid (Below w.heap.size w w3 ∧ LiesP w3 a3 ps ∧ m ≤ k3 ∧ k3 ≤ maxLen) := ⟨B3, l3, g3, m3⟩
    clear l3 g3 m3 b3 B3
    go_wp2_with fail
    refine (HOwnS.out _ HB3.out.1).mono ?_
    rintro e w4 ⟨a4, k4, rfl, l4, b4, B4⟩
    have HB4 : Hid (Below w.heap.size w w4 ∧ LiesP w4 a3 ps ∧ LiesS w4 a4 l) := ⟨B4, HB3.out.2.1.below b4, l4⟩
    have HN4 : Hid (LiesN w4 na ns) := HN.out.1.below B4
    clear l4 b4 B4
    go_wp2_with (at_builtin; go_must (refine wpList_append_ints _ rfl _ _ 32 rfl 3 i0 (.int .i64 0) Tryd.underlying32 hi hz0 hz1 hz2 rfl na ncap 8 ns HM.out.2.2 rfl rfl HN4.out HN.out.2 (by omega) ?_; rintro a5 k5 w5 h5; have HB5 : Hid (Below w.heap.size w w5 ∧ LiesP w5 a3 ps ∧ LiesS w5 a4 l ∧ LiesN w5 a5 ns) := ⟨HB4.out.1.trans (h5.2.2.2.mono HB4.out.1.size), HB4.out.2.1.below h5.2.2.2, HB4.out.2.2.below h5.2.2.2, h5.1⟩; clear h5))
    refine (HSp.out w5 a3 k3 a4 k4 a5 k5 HB5.out.1 HB5.out.2.1 HB5.out.2.2.1 HB5.out.2.2.2 HB3.out.2.2.1 HB3.out.2.2.2 HB2.out.2).mono ?_
    rintro e w6 ⟨ty, v, rfl, hE6, b6⟩
    have HB6 : Hid (Below w.heap.size w w6 ∧ ErrIs w6 (.iface ty v) 2 (-1)) := ⟨HB5.out.1.trans (b6.mono HB5.out.1.size), hE6⟩
    clear b6 hE6
    go_wp2_with fail
    refine (fine_any _).mono ?_
    rintro e w7 ⟨rfl, b7⟩
    have HX7 : Hid (Below w6.heap.size w6 (w7.alloc (.cells #[.int .i64 0, .int .i64 (-1)] 39)) ∧ At2 (w7.alloc (.cells #[.int .i64 0, .int .i64 (-1)] 39)) w7.heap.size (.int .i64 0) (.int .i64 (-1)) ∧ w6.heap.size ≤ w7.heap.size) := ⟨b7.alloc b7.size _, at2_new w7 _ _ _, b7.size⟩
    clear b7
    go_wp2_with fail
    refine (bare_any 2 _).mono ?_
    rintro e w8 ⟨rfl, b8⟩
    obtain ⟨k0, k1, f0, f1⟩ := HX7.out.2.1.later b8
    have HA8 : Hid (Below w6.heap.size w6 ((w8.setCell ⟨w7.heap.size, 0, none⟩ (.int .i64 2)).setCell ⟨w7.heap.size, 1, none⟩ (.int .i64 (-1)))) := ((HX7.out.1.trans (b8.mono HX7.out.1.size)).setCell HX7.out.2.2 _).setCell HX7.out.2.2 _
    clear b8
    go_wp2_with fail
    refine (faulted_yes (.iface ty v) 2 (-1) _ (HB6.out.2.code.below HA8.out)).mono ?_
    rintro e w9 ⟨rfl, b9⟩
    have HB9 : Hid (Below w.heap.size w w9) := HB6.out.1.trans ((HA8.out.trans (b9.mono HA8.out.size)).mono HB6.out.1.size)
    clear b9
    go_wp2_with fail
    go_ret
    exact ⟨rfl, HB9.out⟩

  · have HB2 : Hid (Below w.heap.size w w2) := HB1.out.trans (hb2.mono HB1.out.size)
    clear hb2
    go_wp2_with fail
    go_ret
    exact ⟨rfl, HB2.out⟩

set_option maxRecDepth 100000 in
set_option maxHeartbeats 4000000 in
theorem spLaw_x8 (pa : Option Addr) (pcap : Nat) (ps : List Pk) (a : Option Addr) (cap : Nat) (l : List Sn) (na : Option Addr) (ncap : Nat) (ns : List Int) (x y : Int) (w : World) (ad : Nat → Addr) (he : Errs9 w ad) (hp : LiesP w pa ps) (hpa : pa = none → ps = [] ∧ pcap = 0) (hpc : ps.length ≤ pcap) (hpm : pcap ≤ maxLen) (hl : LiesS w a l) (hla : a = none → l = [] ∧ cap = 0) (hn : LiesN w na ns) (hna : na = none → ns = [] ∧ ncap = 0) (hm : ps.length ≤ 60 ∨ ps.length = 301) (hll : l.length ≤ 60) (hnn : ns.length ≤ 30) (h8 : ns.length = 8) (hx0 : ¬ x < 0) (hx : 8 ≤ x) :
    Calls Tryd.prog 10 #[.slice pa ps.length pcap, .slice a l.length cap, .slice na ns.length ncap, .int .i64 x, .int .i64 y] w fun e w' => e = .returned (.bool true) ∧ Below w.heap.size w w' := by
  obtain ⟨i0, hi, hz0, hz1, hz2⟩ := info_parts Tryd.infoInt
  have HP : Hid (LiesP w pa ps ∧ (pa = none → ps = [] ∧ pcap = 0)) := ⟨hp, hpa⟩
  have HL : Hid (LiesS w a l ∧ (a = none → l = [] ∧ cap = 0)) := ⟨hl, hla⟩
  have HN : Hid (LiesN w na ns ∧ (na = none → ns = [] ∧ ncap = 0)) := ⟨hn, hna⟩
  have HFit : Hid (∀ w', Calls Tryd.prog 24 #[.slice pa ps.length pcap, .int .i64 60] w' fun e w'' => e = .returned (.bool true) ∧ w'' = w') := fun w' => fitPkts_yes pa ps.length pcap 60 w' (Nat.le_trans hpc hpm) (by omega)
  have HTame : Hid (∀ w', Below w.heap.size w w' → Calls Tryd.prog 16 #[.slice a l.length cap] w' fun e w'' => TameEnd l w' e w'') := fun w' hb => tameSent_any a cap l w' (hl.below hb) (by omega)
  have hno : ¬ Flows x y := fun h => by unfold Flows at h; omega
  have hf : SpreadFaultIs ps ns l x y 2 (-1) := by
    obtain ⟨k, hk⟩ := numsFault_is 1 3000 ns
    rcases hk with ⟨rfl, h⟩ | ⟨rfl, h⟩ | ⟨rfl, h⟩
    · exact absurd h8 h
    · exact .inl ⟨⟨2, .inr (.inl ⟨rfl, h⟩), by omega, rfl⟩, rfl⟩
    · exact .inr (.inl ⟨h, hno, rfl, rfl⟩)
  have HSp : Hid (∀ W a3 k3 a4 k4 a5 k5, Below w.heap.size w W → LiesP W a3 ps → LiesS W a4 l → LiesN W a5 ns → ps.length ≤ k3 → k3 ≤ maxLen → tameAll l → Calls Tryd.prog 39 #[.slice a3 ps.length k3, .slice a4 l.length k4, .slice a5 ns.length k5, .int .i64 x, .int .i64 y] W fun e w' => ∃ ty v, e = .returned (.tuple #[.int .i64 0, .iface ty v]) ∧ (ErrIs w' (.iface ty v) 2 (-1) ∧ Below W.heap.size W w')) := fun W a3 k3 a4 k4 a5 k5 hb h1 h2 h3 h4 h5 h6 => spread_is a3 k3 ps a4 k4 l a5 k5 ns x y W ad (he.below hb) h1 h2 h3 h4 h5 (by omega) h6 2 (-1) hf
  clear hno hf he hp hpa hpc hpm hl hla hn hna
  obtain ⟨m, hmm⟩ : ∃ m, ps.length = m := ⟨_, rfl⟩
  obtain ⟨n, hnl⟩ : ∃ n, l.length = n := ⟨_, rfl⟩
  obtain ⟨r, hnr⟩ : ∃ r, ns.length = r := ⟨_, rfl⟩
  have HM : Hid (ps.length = m ∧ l.length = n ∧ ns.length = r) := ⟨hmm, hnl, hnr⟩
  have HOwnP : Hid (∀ w', Below w.heap.size w w' → Calls Tryd.prog 21 #[.slice pa m pcap] w' fun e w'' => ∃ a' cap', e = .returned (.slice a' m cap') ∧ LiesP w'' a' ps ∧ m ≤ cap' ∧ cap' ≤ maxLen ∧ Below w'.heap.size w' w'' ∧ Below w.heap.size w w'') := fun w' hb => by
    have := ownPackets_from pa pcap ps w w' hb HP.out.1 (by omega) HP.out.2
    rwa [hmm] at this
  have HOwnS : Hid (∀ w', Below w.heap.size w w' → Calls Tryd.prog 18 #[.slice a n cap] w' fun e w'' => ∃ a' cap', e = .returned (.slice a' n cap') ∧ LiesS w'' a' l ∧ Below w'.heap.size w' w'' ∧ Below w.heap.size w w'') := fun w' hb => by
    have := ownSent_from a cap l w w' hb HL.out.1 (by omega) HL.out.2
    rwa [hnl] at this
  rw [hmm] at hm HFit HSp ⊢
  rw [hnl] at hll HTame HSp ⊢
  rw [hnr] at hnn HSp h8 ⊢
  clear hmm hnl hnr
  subst h8
  have hll' : ¬ 60 < n := by omega
  go_enter Tryd.func10, Tryd.ntmps10
  go_wp2_with fail
  refine (turned_any _).mono ?_
  rintro e w1 ⟨rfl, hb⟩
  have HB1 : Hid (Below w.heap.size w w1) := hb
  clear hb
  go_wp2_with fail
  refine (HFit.out _).mono ?_
  rintro e w1' ⟨rfl, rfl⟩
  go_wp2_with fail
  refine (HTame.out _ HB1.out).mono ?_
  rintro e w2 ⟨⟨rfl, htame⟩ | rfl, hb2⟩
  · have HB2 : Hid (Below w.heap.size w w2 ∧ tameAll l) := ⟨HB1.out.trans (hb2.mono HB1.out.size), htame⟩
    clear hb2 htame
    go_wp2_with fail
    refine (HOwnP.out _ HB2.out.1).mono ?_
    rintro e w3 ⟨a3, k3, rfl, l3, g3, m3, b3, B3⟩
    have HB3 : Hid (Below w.heap.size w w3 ∧ LiesP w3 a3 ps ∧ m ≤ k3 ∧ k3 ≤ maxLen) := ⟨B3, l3, g3, m3⟩
    clear l3 g3 m3 b3 B3
    go_wp2_with fail
    refine (HOwnS.out _ HB3.out.1).mono ?_
    rintro e w4 ⟨a4, k4, rfl, l4, b4, B4⟩
    have HB4 : Hid (Below w.heap.size w w4 ∧ LiesP w4 a3 ps ∧ LiesS w4 a4 l) := ⟨B4, HB3.out.2.1.below b4, l4⟩
    have HN4 : Hid (LiesN w4 na ns) := HN.out.1.below B4
    clear l4 b4 B4
    go_wp2_with (at_builtin; go_must (refine wpList_append_ints _ rfl _ _ 32 rfl 3 i0 (.int .i64 0) Tryd.underlying32 hi hz0 hz1 hz2 rfl na ncap 8 ns HM.out.2.2 rfl rfl HN4.out HN.out.2 (by omega) ?_; rintro a5 k5 w5 h5; have HB5 : Hid (Below w.heap.size w w5 ∧ LiesP w5 a3 ps ∧ LiesS w5 a4 l ∧ LiesN w5 a5 ns) := ⟨HB4.out.1.trans (h5.2.2.2.mono HB4.out.1.size), HB4.out.2.1.below h5.2.2.2, HB4.out.2.2.below h5.2.2.2, h5.1⟩; clear h5))
    refine (HSp.out w5 a3 k3 a4 k4 a5 k5 HB5.out.1 HB5.out.2.1 HB5.out.2.2.1 HB5.out.2.2.2 HB3.out.2.2.1 HB3.out.2.2.2 HB2.out.2).mono ?_
    rintro e w6 ⟨ty, v, rfl, hE6, b6⟩
    have HB6 : Hid (Below w.heap.size w w6 ∧ ErrIs w6 (.iface ty v) 2 (-1)) := ⟨HB5.out.1.trans (b6.mono HB5.out.1.size), hE6⟩
    clear b6 hE6
    go_wp2_with fail
    refine (fine_any _).mono ?_
    rintro e w7 ⟨rfl, b7⟩
    have HX7 : Hid (Below w6.heap.size w6 (w7.alloc (.cells #[.int .i64 0, .int .i64 (-1)] 39)) ∧ At2 (w7.alloc (.cells #[.int .i64 0, .int .i64 (-1)] 39)) w7.heap.size (.int .i64 0) (.int .i64 (-1)) ∧ w6.heap.size ≤ w7.heap.size) := ⟨b7.alloc b7.size _, at2_new w7 _ _ _, b7.size⟩
    clear b7
    go_wp2_with fail
    refine (bare_any 2 _).mono ?_
    rintro e w8 ⟨rfl, b8⟩
    obtain ⟨k0, k1, f0, f1⟩ := HX7.out.2.1.later b8
    have HA8 : Hid (Below w6.heap.size w6 ((w8.setCell ⟨w7.heap.size, 0, none⟩ (.int .i64 2)).setCell ⟨w7.heap.size, 1, none⟩ (.int .i64 (-1)))) := ((HX7.out.1.trans (b8.mono HX7.out.1.size)).setCell HX7.out.2.2 _).setCell HX7.out.2.2 _
    clear b8
    go_wp2_with fail
    refine (faulted_yes (.iface ty v) 2 (-1) _ (HB6.out.2.code.below HA8.out)).mono ?_
    rintro e w9 ⟨rfl, b9⟩
    have HB9 : Hid (Below w.heap.size w w9) := HB6.out.1.trans ((HA8.out.trans (b9.mono HA8.out.size)).mono HB6.out.1.size)
    clear b9
    go_wp2_with fail
    go_ret
    exact ⟨rfl, HB9.out⟩

  · have HB2 : Hid (Below w.heap.size w w2) := HB1.out.trans (hb2.mono HB1.out.size)
    clear hb2
    go_wp2_with fail
    go_ret
    exact ⟨rfl, HB2.out⟩

set_option maxRecDepth 100000 in
set_option maxHeartbeats 4000000 in
theorem spLaw_y0 (pa : Option Addr) (pcap : Nat) (ps : List Pk) (a : Option Addr) (cap : Nat) (l : List Sn) (na : Option Addr) (ncap : Nat) (ns : List Int) (x y : Int) (w : World) (ad : Nat → Addr) (he : Errs9 w ad) (hp : LiesP w pa ps) (hpa : pa = none → ps = [] ∧ pcap = 0) (hpc : ps.length ≤ pcap) (hpm : pcap ≤ maxLen) (hl : LiesS w a l) (hla : a = none → l = [] ∧ cap = 0) (hn : LiesN w na ns) (hna : na = none → ns = [] ∧ ncap = 0) (hm : ps.length ≤ 60 ∨ ps.length = 301) (hll : l.length ≤ 60) (hnn : ns.length ≤ 30) (h8 : ns.length = 8) (hx0 : ¬ x < 0) (hx8 : ¬ 8 ≤ x) (hy : y < 0) :
    Calls Tryd.prog 10 #[.slice pa ps.length pcap, .slice a l.length cap, .slice na ns.length ncap, .int .i64 x, .int .i64 y] w fun e w' => e = .returned (.bool true) ∧ Below w.heap.size w w' := by
  obtain ⟨i0, hi, hz0, hz1, hz2⟩ := info_parts Tryd.infoInt
  have HP : Hid (LiesP w pa ps ∧ (pa = none → ps = [] ∧ pcap = 0)) := ⟨hp, hpa⟩
  have HL : Hid (LiesS w a l ∧ (a = none → l = [] ∧ cap = 0)) := ⟨hl, hla⟩
  have HN : Hid (LiesN w na ns ∧ (na = none → ns = [] ∧ ncap = 0)) := ⟨hn, hna⟩
  have HFit : Hid (∀ w', Calls Tryd.prog 24 #[.slice pa ps.length pcap, .int .i64 60] w' fun e w'' => e = .returned (.bool true) ∧ w'' = w') := fun w' => fitPkts_yes pa ps.length pcap 60 w' (Nat.le_trans hpc hpm) (by omega)
  have HTame : Hid (∀ w', Below w.heap.size w w' → Calls Tryd.prog 16 #[.slice a l.length cap] w' fun e w'' => TameEnd l w' e w'') := fun w' hb => tameSent_any a cap l w' (hl.below hb) (by omega)
  have hno : ¬ Flows x y := fun h => by unfold Flows at h; omega
  have hf : SpreadFaultIs ps ns l x y 2 (-1) := by
    obtain ⟨k, hk⟩ := numsFault_is 1 3000 ns
    rcases hk with ⟨rfl, h⟩ | ⟨rfl, h⟩ | ⟨rfl, h⟩
    · exact absurd h8 h
    · exact .inl ⟨⟨2, .inr (.inl ⟨rfl, h⟩), by omega, rfl⟩, rfl⟩
    · exact .inr (.inl ⟨h, hno, rfl, rfl⟩)
  have HSp : Hid (∀ W a3 k3 a4 k4 a5 k5, Below w.heap.size w W → LiesP W a3 ps → LiesS W a4 l → LiesN W a5 ns → ps.length ≤ k3 → k3 ≤ maxLen → tameAll l → Calls Tryd.prog 39 #[.slice a3 ps.length k3, .slice a4 l.length k4, .slice a5 ns.length k5, .int .i64 x, .int .i64 y] W fun e w' => ∃ ty v, e = .returned (.tuple #[.int .i64 0, .iface ty v]) ∧ (ErrIs w' (.iface ty v) 2 (-1) ∧ Below W.heap.size W w')) := fun W a3 k3 a4 k4 a5 k5 hb h1 h2 h3 h4 h5 h6 => spread_is a3 k3 ps a4 k4 l a5 k5 ns x y W ad (he.below hb) h1 h2 h3 h4 h5 (by omega) h6 2 (-1) hf
  clear hno hf he hp hpa hpc hpm hl hla hn hna
  obtain ⟨m, hmm⟩ : ∃ m, ps.length = m := ⟨_, rfl⟩
  obtain ⟨n, hnl⟩ : ∃ n, l.length = n := ⟨_, rfl⟩
  obtain ⟨r, hnr⟩ : ∃ r, ns.length = r := ⟨_, rfl⟩
  have HM : Hid (ps.length = m ∧ l.length = n ∧ ns.length = r) := ⟨hmm, hnl, hnr⟩
  have HOwnP : Hid (∀ w', Below w.heap.size w w' → Calls Tryd.prog 21 #[.slice pa m pcap] w' fun e w'' => ∃ a' cap', e = .returned (.slice a' m cap') ∧ LiesP w'' a' ps ∧ m ≤ cap' ∧ cap' ≤ maxLen ∧ Below w'.heap.size w' w'' ∧ Below w.heap.size w w'') := fun w' hb => by
    have := ownPackets_from pa pcap ps w w' hb HP.out.1 (by omega) HP.out.2
    rwa [hmm] at this
  have HOwnS : Hid (∀ w', Below w.heap.size w w' → Calls Tryd.prog 18 #[.slice a n cap] w' fun e w'' => ∃ a' cap', e = .returned (.slice a' n cap') ∧ LiesS w'' a' l ∧ Below w'.heap.size w' w'' ∧ Below w.heap.size w w'') := fun w' hb => by
    have := ownSent_from a cap l w w' hb HL.out.1 (by omega) HL.out.2
    rwa [hnl] at this
  rw [hmm] at hm HFit HSp ⊢
  rw [hnl] at hll HTame HSp ⊢
  rw [hnr] at hnn HSp h8 ⊢
  clear hmm hnl hnr
  subst h8
  have hll' : ¬ 60 < n := by omega
  go_enter Tryd.func10, Tryd.ntmps10
  go_wp2_with fail
  refine (turned_any _).mono ?_
  rintro e w1 ⟨rfl, hb⟩
  have HB1 : Hid (Below w.heap.size w w1) := hb
  clear hb
  go_wp2_with fail
  refine (HFit.out _).mono ?_
  rintro e w1' ⟨rfl, rfl⟩
  go_wp2_with fail
  refine (HTame.out _ HB1.out).mono ?_
  rintro e w2 ⟨⟨rfl, htame⟩ | rfl, hb2⟩
  · have HB2 : Hid (Below w.heap.size w w2 ∧ tameAll l) := ⟨HB1.out.trans (hb2.mono HB1.out.size), htame⟩
    clear hb2 htame
    go_wp2_with fail
    refine (HOwnP.out _ HB2.out.1).mono ?_
    rintro e w3 ⟨a3, k3, rfl, l3, g3, m3, b3, B3⟩
    have HB3 : Hid (Below w.heap.size w w3 ∧ LiesP w3 a3 ps ∧ m ≤ k3 ∧ k3 ≤ maxLen) := ⟨B3, l3, g3, m3⟩
    clear l3 g3 m3 b3 B3
    go_wp2_with fail
    refine (HOwnS.out _ HB3.out.1).mono ?_
    rintro e w4 ⟨a4, k4, rfl, l4, b4, B4⟩
    have HB4 : Hid (Below w.heap.size w w4 ∧ LiesP w4 a3 ps ∧ LiesS w4 a4 l) := ⟨B4, HB3.out.2.1.below b4, l4⟩
    have HN4 : Hid (LiesN w4 na ns) := HN.out.1.below B4
    clear l4 b4 B4
    go_wp2_with (at_builtin; go_must (refine wpList_append_ints _ rfl _ _ 32 rfl 3 i0 (.int .i64 0) Tryd.underlying32 hi hz0 hz1 hz2 rfl na ncap 8 ns HM.out.2.2 rfl rfl HN4.out HN.out.2 (by omega) ?_; rintro a5 k5 w5 h5; have HB5 : Hid (Below w.heap.size w w5 ∧ LiesP w5 a3 ps ∧ LiesS w5 a4 l ∧ LiesN w5 a5 ns) := ⟨HB4.out.1.trans (h5.2.2.2.mono HB4.out.1.size), HB4.out.2.1.below h5.2.2.2, HB4.out.2.2.below h5.2.2.2, h5.1⟩; clear h5))
    refine (HSp.out w5 a3 k3 a4 k4 a5 k5 HB5.out.1 HB5.out.2.1 HB5.out.2.2.1 HB5.out.2.2.2 HB3.out.2.2.1 HB3.out.2.2.2 HB2.out.2).mono ?_
    rintro e w6 ⟨ty, v, rfl, hE6, b6⟩
    have HB6 : Hid (Below w.heap.size w w6 ∧ ErrIs w6 (.iface ty v) 2 (-1)) := ⟨HB5.out.1.trans (b6.mono HB5.out.1.size), hE6⟩
    clear b6 hE6
    go_wp2_with fail
    refine (fine_any _).mono ?_
    rintro e w7 ⟨rfl, b7⟩
    have HX7 : Hid (Below w6.heap.size w6 (w7.alloc (.cells #[.int .i64 0, .int .i64 (-1)] 39)) ∧ At2 (w7.alloc (.cells #[.int .i64 0, .int .i64 (-1)] 39)) w7.heap.size (.int .i64 0) (.int .i64 (-1)) ∧ w6.heap.size ≤ w7.heap.size) := ⟨b7.alloc b7.size _, at2_new w7 _ _ _, b7.size⟩
    clear b7
    go_wp2_with fail
    refine (bare_any 2 _).mono ?_
    rintro e w8 ⟨rfl, b8⟩
    obtain ⟨k0, k1, f0, f1⟩ := HX7.out.2.1.later b8
    have HA8 : Hid (Below w6.heap.size w6 ((w8.setCell ⟨w7.heap.size, 0, none⟩ (.int .i64 2)).setCell ⟨w7.heap.size, 1, none⟩ (.int .i64 (-1)))) := ((HX7.out.1.trans (b8.mono HX7.out.1.size)).setCell HX7.out.2.2 _).setCell HX7.out.2.2 _
    clear b8
    go_wp2_with fail
    refine (faulted_yes (.iface ty v) 2 (-1) _ (HB6.out.2.code.below HA8.out)).mono ?_
    rintro e w9 ⟨rfl, b9⟩
    have HB9 : Hid (Below w.heap.size w w9) := HB6.out.1.trans ((HA8.out.trans (b9.mono HA8.out.size)).mono HB6.out.1.size)
    clear b9
    go_wp2_with fail
    go_ret
    exact ⟨rfl, HB9.out⟩

  · have HB2 : Hid (Below w.heap.size w w2) := HB1.out.trans (hb2.mono HB1.out.size)
    clear hb2
    go_wp2_with fail
    go_ret
    exact ⟨rfl, HB2.out⟩

set_option maxRecDepth 100000 in
set_option maxHeartbeats 4000000 in
theorem spLaw_y8 (pa : Option Addr) (pcap : Nat) (ps : List Pk) (a : Option Addr) (cap : Nat) (l : List Sn) (na : Option Addr) (ncap : Nat) (ns : List Int) (x y : Int) (w : World) (ad : Nat → Addr) (he : Errs9 w ad) (hp : LiesP w pa ps) (hpa : pa = none → ps = [] ∧ pcap = 0) (hpc : ps.length ≤ pcap) (hpm : pcap ≤ maxLen) (hl : LiesS w a l) (hla : a = none → l = [] ∧ cap = 0) (hn : LiesN w na ns) (hna : na = none → ns = [] ∧ ncap = 0) (hm : ps.length ≤ 60 ∨ ps.length = 301) (hll : l.length ≤ 60) (hnn : ns.length ≤ 30) (h8 : ns.length = 8) (hx0 : ¬ x < 0) (hx8 : ¬ 8 ≤ x) (hy0 : ¬ y < 0) (hy : 8 ≤ y) :
    Calls Tryd.prog 10 #[.slice pa ps.length pcap, .slice a l.length cap, .slice na ns.length ncap, .int .i64 x, .int .i64 y] w fun e w' => e = .returned (.bool true) ∧ Below w.heap.size w w' := by
  obtain ⟨i0, hi, hz0, hz1, hz2⟩ := info_parts Tryd.infoInt
  have HP : Hid (LiesP w pa ps ∧ (pa = none → ps = [] ∧ pcap = 0)) := ⟨hp, hpa⟩
  have HL : Hid (LiesS w a l ∧ (a = none → l = [] ∧ cap = 0)) := ⟨hl, hla⟩
  have HN : Hid (LiesN w na ns ∧ (na = none → ns = [] ∧ ncap = 0)) := ⟨hn, hna⟩
  have HFit : Hid (∀ w', Calls Tryd.prog 24 #[.slice pa ps.length pcap, .int .i64 60] w' fun e w'' => e = .returned (.bool true) ∧ w'' = w') := fun w' => fitPkts_yes pa ps.length pcap 60 w' (Nat.le_trans hpc hpm) (by omega)
  have HTame : Hid (∀ w', Below w.heap.size w w' → Calls Tryd.prog 16 #[.slice a l.length cap] w' fun e w'' => TameEnd l w' e w'') := fun w' hb => tameSent_any a cap l w' (hl.below hb) (by omega)
  have hno : ¬ Flows x y := fun h => by unfold Flows at h; omega
  have hf : SpreadFaultIs ps ns l x y 2 (-1) := by
    obtain ⟨k, hk⟩ := numsFault_is 1 3000 ns
    rcases hk with ⟨rfl, h⟩ | ⟨rfl, h⟩ | ⟨rfl, h⟩
    · exact absurd h8 h
    · exact .inl ⟨⟨2, .inr (.inl ⟨rfl, h⟩), by omega, rfl⟩, rfl⟩
    · exact .inr (.inl ⟨h, hno, rfl, rfl⟩)
  have HSp : Hid (∀ W a3 k3 a4 k4 a5 k5, Below w.heap.size w W → LiesP W a3 ps → LiesS W a4 l → LiesN W a5 ns → ps.length ≤ k3 → k3 ≤ maxLen → tameAll l → Calls Tryd.prog 39 #[.slice a3 ps.length k3, .slice a4 l.length k4, .slice a5 ns.length k5, .int .i64 x, .int .i64 y] W fun e w' => ∃ ty v, e = .returned (.tuple #[.int .i64 0, .iface ty v]) ∧ (ErrIs w' (.iface ty v) 2 (-1) ∧ Below W.heap.size W w')) := fun W a3 k3 a4 k4 a5 k5 hb h1 h2 h3 h4 h5 h6 => spread_is a3 k3 ps a4 k4 l a5 k5 ns x y W ad (he.below hb) h1 h2 h3 h4 h5 (by omega) h6 2 (-1) hf
  clear hno hf he hp hpa hpc hpm hl hla hn hna
  obtain ⟨m, hmm⟩ : ∃ m, ps.length = m := ⟨_, rfl⟩
  obtain ⟨n, hnl⟩ : ∃ n, l.length = n := ⟨_, rfl⟩
  obtain ⟨r, hnr⟩ : ∃ r, ns.length = r := ⟨_, rfl⟩
  have HM : Hid (ps.length = m ∧ l.length = n ∧ ns.length = r) := ⟨hmm, hnl, hnr⟩
  have HOwnP : Hid (∀ w', Below w.heap.size w w' → Calls Tryd.prog 21 #[.slice pa m pcap] w' fun e w'' => ∃ a' cap', e = .returned (.slice a' m cap') ∧ LiesP w'' a' ps ∧ m ≤ cap' ∧ cap' ≤ maxLen ∧ Below w'.heap.size w' w'' ∧ Below w.heap.size w w'') := fun w' hb => by
    have := ownPackets_from pa pcap ps w w' hb HP.out.1 (by omega) HP.out.2
    rwa [hmm] at this
  have HOwnS : Hid (∀ w', Below w.heap.size w w' → Calls Tryd.prog 18 #[.slice a n cap] w' fun e w'' => ∃ a' cap', e = .returned (.slice a' n cap') ∧ LiesS w'' a' l ∧ Below w'.heap.size w' w'' ∧ Below w.heap.size w w'') := fun w' hb => by
    have := ownSent_from a cap l w w' hb HL.out.1 (by omega) HL.out.2
    rwa [hnl] at this
  rw [hmm] at hm HFit HSp ⊢
  rw [hnl] at hll HTame HSp ⊢
  rw [hnr] at hnn HSp h8 ⊢
  clear hmm hnl hnr
  subst h8
  have hll' : ¬ 60 < n := by omega
  go_enter Tryd.func10, Tryd.ntmps10
  go_wp2_with fail
  refine (turned_any _).mono ?_
  rintro e w1 ⟨rfl, hb⟩
  have HB1 : Hid (Below w.heap.size w w1) := hb
  clear hb
  go_wp2_with fail
  refine (HFit.out _).mono ?_
  rintro e w1' ⟨rfl, rfl⟩
  go_wp2_with fail
  refine (HTame.out _ HB1.out).mono ?_
  rintro e w2 ⟨⟨rfl, htame⟩ | rfl, hb2⟩
  · have HB2 : Hid (Below w.heap.size w w2 ∧ tameAll l) := ⟨HB1.out.trans (hb2.mono HB1.out.size), htame⟩
    clear hb2 htame
    go_wp2_with fail
    refine (HOwnP.out _ HB2.out.1).mono ?_
    rintro e w3 ⟨a3, k3, rfl, l3, g3, m3, b3, B3⟩
    have HB3 : Hid (Below w.heap.size w w3 ∧ LiesP w3 a3 ps ∧ m ≤ k3 ∧ k3 ≤ maxLen) := ⟨B3, l3, g3, m3⟩
    clear l3 g3 m3 b3 B3
    go_wp2_with fail
    refine (HOwnS.out _ HB3.out.1).mono ?_
    rintro e w4 ⟨a4, k4, rfl, l4, b4, B4⟩
    have HB4 : Hid (Below w.heap.size w w4 ∧ LiesP w4 a3 ps ∧ LiesS w4 a4 l) := ⟨B4, HB3.out.2.1.below b4, l4⟩
    have HN4 : Hid (LiesN w4 na ns) := HN.out.1.below B4
    clear l4 b4 B4
    go_wp2_with (at_builtin; go_must (refine wpList_append_ints _ rfl _ _ 32 rfl 3 i0 (.int .i64 0) Tryd.underlying32 hi hz0 hz1 hz2 rfl na ncap 8 ns HM.out.2.2 rfl rfl HN4.out HN.out.2 (by omega) ?_; rintro a5 k5 w5 h5; have HB5 : Hid (Below w.heap.size w w5 ∧ LiesP w5 a3 ps ∧ LiesS w5 a4 l ∧ LiesN w5 a5 ns) := ⟨HB4.out.1.trans (h5.2.2.2.mono HB4.out.1.size), HB4.out.2.1.below h5.2.2.2, HB4.out.2.2.below h5.2.2.2, h5.1⟩; clear h5))
    refine (HSp.out w5 a3 k3 a4 k4 a5 k5 HB5.out.1 HB5.out.2.1 HB5.out.2.2.1 HB5.out.2.2.2 HB3.out.2.2.1 HB3.out.2.2.2 HB2.out.2).mono ?_
    rintro e w6 ⟨ty, v, rfl, hE6, b6⟩
    have HB6 : Hid (Below w.heap.size w w6 ∧ ErrIs w6 (.iface ty v) 2 (-1)) := ⟨HB5.out.1.trans (b6.mono HB5.out.1.size), hE6⟩
    clear b6 hE6
    go_wp2_with fail
    refine (fine_any _).mono ?_
    rintro e w7 ⟨rfl, b7⟩
    have HX7 : Hid (Below w6.heap.size w6 (w7.alloc (.cells #[.int .i64 0, .int .i64 (-1)] 39)) ∧ At2 (w7.alloc (.cells #[.int .i64 0, .int .i64 (-1)] 39)) w7.heap.size (.int .i64 0) (.int .i64 (-1)) ∧ w6.heap.size ≤ w7.heap.size) := ⟨b7.alloc b7.size _, at2_new w7 _ _ _, b7.size⟩
    clear b7
    go_wp2_with fail
    refine (bare_any 2 _).mono ?_
    rintro e w8 ⟨rfl, b8⟩
    obtain ⟨k0, k1, f0, f1⟩ := HX7.out.2.1.later b8
    have HA8 : Hid (Below w6.heap.size w6 ((w8.setCell ⟨w7.heap.size, 0, none⟩ (.int .i64 2)).setCell ⟨w7.heap.size, 1, none⟩ (.int .i64 (-1)))) := ((HX7.out.1.trans (b8.mono HX7.out.1.size)).setCell HX7.out.2.2 _).setCell HX7.out.2.2 _
    clear b8
    go_wp2_with fail
    refine (faulted_yes (.iface ty v) 2 (-1) _ (HB6.out.2.code.below HA8.out)).mono ?_
    rintro e w9 ⟨rfl, b9⟩
    have HB9 : Hid (Below w.heap.size w w9) := HB6.out.1.trans ((HA8.out.trans (b9.mono HA8.out.size)).mono HB6.out.1.size)
    clear b9
    go_wp2_with fail
    go_ret
    exact ⟨rfl, HB9.out⟩

  · have HB2 : Hid (Below w.heap.size w w2) := HB1.out.trans (hb2.mono HB1.out.size)
    clear hb2
    go_wp2_with fail
    go_ret
    exact ⟨rfl, HB2.out⟩

set_option maxRecDepth 100000 in
set_option maxHeartbeats 4000000 in
theorem spLaw_num (pa : Option Addr) (pcap : Nat) (ps : List Pk) (a : Option Addr) (cap : Nat) (l : List Sn) (na : Option Addr) (ncap : Nat) (ns : List Int) (x y : Int) (w : World) (ad : Nat → Addr) (he : Errs9 w ad) (hp : LiesP w pa ps) (hpa : pa = none → ps = [] ∧ pcap = 0) (hpc : ps.length ≤ pcap) (hpm : pcap ≤ maxLen) (hl : LiesS w a l) (hla : a = none → l = [] ∧ cap = 0) (hn : LiesN w na ns) (hna : na = none → ns = [] ∧ ncap = 0) (hm : ps.length ≤ 60 ∨ ps.length = 301) (hll : l.length ≤ 60) (hnn : ns.length ≤ 30) (h8 : ns.length = 8) (hx0 : ¬ x < 0) (hx8 : ¬ 8 ≤ x) (hy0 : ¬ y < 0) (hy8 : ¬ 8 ≤ y) (hbad : ∃ j, NumBad 1 3000 ns j) :
    Calls Tryd.prog 10 #[.slice pa ps.length pcap, .slice a l.length cap, .slice na ns.length ncap, .int .i64 x, .int .i64 y] w fun e w' => e = .returned (.bool true) ∧ Below w.heap.size w w' := by
  obtain ⟨i0, hi, hz0, hz1, hz2⟩ := info_parts Tryd.infoInt
  have HP : Hid (LiesP w pa ps ∧ (pa = none → ps = [] ∧ pcap = 0)) := ⟨hp, hpa⟩
  have HL : Hid (LiesS w a l ∧ (a = none → l = [] ∧ cap = 0)) := ⟨hl, hla⟩
  have HN : Hid (LiesN w na ns ∧ (na = none → ns = [] ∧ ncap = 0)) := ⟨hn, hna⟩
  have HFit : Hid (∀ w', Calls Tryd.prog 24 #[.slice pa ps.length pcap, .int .i64 60] w' fun e w'' => e = .returned (.bool true) ∧ w'' = w') := fun w' => fitPkts_yes pa ps.length pcap 60 w' (Nat.le_trans hpc hpm) (by omega)
  have HTame : Hid (∀ w', Below w.heap.size w w' → Calls Tryd.prog 16 #[.slice a l.length cap] w' fun e w'' => TameEnd l w' e w'') := fun w' hb => tameSent_any a cap l w' (hl.below hb) (by omega)
  have hf : SpreadFaultIs ps ns l x y 2 (-1) := .inl ⟨⟨2, .inr (.inl ⟨rfl, hbad⟩), by omega, rfl⟩, rfl⟩
  have HNe : Hid (∀ W, Below w.heap.size w W → Calls Tryd.prog 32 #[.slice na ns.length ncap, .int .i64 1, .int .i64 3000] W fun e w' => e = .returned (.int .i64 (2 : Int)) ∧ w' = W) := fun W hb => numbersError_is na ncap ns 1 3000 W (hn.below hb) 2 (.inr (.inl ⟨rfl, hbad⟩))
  have HSp : Hid (∀ W a3 k3 a4 k4 a5 k5, Below w.heap.size w W → LiesP W a3 ps → LiesS W a4 l → LiesN W a5 ns → ps.length ≤ k3 → k3 ≤ maxLen → tameAll l → Calls Tryd.prog 39 #[.slice a3 ps.length k3, .slice a4 l.length k4, .slice a5 ns.length k5, .int .i64 x, .int .i64 y] W fun e w' => ∃ ty v, e = .returned (.tuple #[.int .i64 0, .iface ty v]) ∧ (ErrIs w' (.iface ty v) 2 (-1) ∧ Below W.heap.size W w')) := fun W a3 k3 a4 k4 a5 k5 hb h1 h2 h3 h4 h5 h6 => spread_is a3 k3 ps a4 k4 l a5 k5 ns x y W ad (he.below hb) h1 h2 h3 h4 h5 (by omega) h6 2 (-1) hf
  clear hf hbad he hp hpa hpc hpm hl hla hn hna
  obtain ⟨m, hmm⟩ : ∃ m, ps.length = m := ⟨_, rfl⟩
  obtain ⟨n, hnl⟩ : ∃ n, l.length = n := ⟨_, rfl⟩
  obtain ⟨r, hnr⟩ : ∃ r, ns.length = r := ⟨_, rfl⟩
  have HM : Hid (ps.length = m ∧ l.length = n ∧ ns.length = r) := ⟨hmm, hnl, hnr⟩
  have HOwnP : Hid (∀ w', Below w.heap.size w w' → Calls Tryd.prog 21 #[.slice pa m pcap] w' fun e w'' => ∃ a' cap', e = .returned (.slice a' m cap') ∧ LiesP w'' a' ps ∧ m ≤ cap' ∧ cap' ≤ maxLen ∧ Below w'.heap.size w' w'' ∧ Below w.heap.size w w'') := fun w' hb => by
    have := ownPackets_from pa pcap ps w w' hb HP.out.1 (by omega) HP.out.2
    rwa [hmm] at this
  have HOwnS : Hid (∀ w', Below w.heap.size w w' → Calls Tryd.prog 18 #[.slice a n cap] w' fun e w'' => ∃ a' cap', e = .returned (.slice a' n cap') ∧ LiesS w'' a' l ∧ Below w'.heap.size w' w'' ∧ Below w.heap.size w w'') := fun w' hb => by
    have := ownSent_from a cap l w w' hb HL.out.1 (by omega) HL.out.2
    rwa [hnl] at this
  rw [hmm] at hm HFit HSp ⊢
  rw [hnl] at hll HTame HSp ⊢
  rw [hnr] at hnn HSp h8 HNe ⊢
  clear hmm hnl hnr
  subst h8
  have hll' : ¬ 60 < n := by omega
  go_enter Tryd.func10, Tryd.ntmps10
  go_wp2_with fail
  refine (turned_any _).mono ?_
  rintro e w1 ⟨rfl, hb⟩
  have HB1 : Hid (Below w.heap.size w w1) := hb
  clear hb
  go_wp2_with fail
  refine (HFit.out _).mono ?_
  rintro e w1' ⟨rfl, rfl⟩
  go_wp2_with fail
  refine (HTame.out _ HB1.out).mono ?_
  rintro e w2 ⟨⟨rfl, htame⟩ | rfl, hb2⟩
  · have HB2 : Hid (Below w.heap.size w w2 ∧ tameAll l) := ⟨HB1.out.trans (hb2.mono HB1.out.size), htame⟩
    clear hb2 htame
    go_wp2_with fail
    refine (HOwnP.out _ HB2.out.1).mono ?_
    rintro e w3 ⟨a3, k3, rfl, l3, g3, m3, b3, B3⟩
    have HB3 : Hid (Below w.heap.size w w3 ∧ LiesP w3 a3 ps ∧ m ≤ k3 ∧ k3 ≤ maxLen) := ⟨B3, l3, g3, m3⟩
    clear l3 g3 m3 b3 B3
    go_wp2_with fail
    refine (HOwnS.out _ HB3.out.1).mono ?_
    rintro e w4 ⟨a4, k4, rfl, l4, b4, B4⟩
    have HB4 : Hid (Below w.heap.size w w4 ∧ LiesP w4 a3 ps ∧ LiesS w4 a4 l) := ⟨B4, HB3.out.2.1.below b4, l4⟩
    have HN4 : Hid (LiesN w4 na ns) := HN.out.1.below B4
    clear l4 b4 B4
    go_wp2_with (at_builtin; go_must (refine wpList_append_ints _ rfl _ _ 32 rfl 3 i0 (.int .i64 0) Tryd.underlying32 hi hz0 hz1 hz2 rfl na ncap 8 ns HM.out.2.2 rfl rfl HN4.out HN.out.2 (by omega) ?_; rintro a5 k5 w5 h5; have HB5 : Hid (Below w.heap.size w w5 ∧ LiesP w5 a3 ps ∧ LiesS w5 a4 l ∧ LiesN w5 a5 ns) := ⟨HB4.out.1.trans (h5.2.2.2.mono HB4.out.1.size), HB4.out.2.1.below h5.2.2.2, HB4.out.2.2.below h5.2.2.2, h5.1⟩; clear h5))
    refine (HSp.out w5 a3 k3 a4 k4 a5 k5 HB5.out.1 HB5.out.2.1 HB5.out.2.2.1 HB5.out.2.2.2 HB3.out.2.2.1 HB3.out.2.2.2 HB2.out.2).mono ?_
    rintro e w6 ⟨ty, v, rfl, hE6, b6⟩
    have HB6 : Hid (Below w.heap.size w w6 ∧ ErrIs w6 (.iface ty v) 2 (-1)) := ⟨HB5.out.1.trans (b6.mono HB5.out.1.size), hE6⟩
    clear b6 hE6
    go_wp2_with fail
    refine (fine_any _).mono ?_
    rintro e w7 ⟨rfl, b7⟩
    have HX7 : Hid (Below w6.heap.size w6 (w7.alloc (.cells #[.int .i64 0, .int .i64 (-1)] 39)) ∧ At2 (w7.alloc (.cells #[.int .i64 0, .int .i64 (-1)] 39)) w7.heap.size (.int .i64 0) (.int .i64 (-1)) ∧ w6.heap.size ≤ w7.heap.size) := ⟨b7.alloc b7.size _, at2_new w7 _ _ _, b7.size⟩
    clear b7
    go_wp2_with fail
    refine (HNe.out _ (HB6.out.1.trans (HX7.out.1.mono HB6.out.1.size))).mono ?_
    rintro e w7' ⟨rfl, hw7⟩
    rw [hw7]
    clear hw7
    go_wp2_with fail
    refine (bare_any 2 _).mono ?_
    rintro e w8 ⟨rfl, b8⟩
    obtain ⟨k0, k1, f0, f1⟩ := HX7.out.2.1.later b8
    have HA8 : Hid (Below w6.heap.size w6 ((w8.setCell ⟨w7.heap.size, 0, none⟩ (.int .i64 2)).setCell ⟨w7.heap.size, 1, none⟩ (.int .i64 (-1)))) := ((HX7.out.1.trans (b8.mono HX7.out.1.size)).setCell HX7.out.2.2 _).setCell HX7.out.2.2 _
    clear b8
    go_wp2_with fail
    refine (faulted_yes (.iface ty v) 2 (-1) _ (HB6.out.2.code.below HA8.out)).mono ?_
    rintro e w9 ⟨rfl, b9⟩
    have HB9 : Hid (Below w.heap.size w w9) := HB6.out.1.trans ((HA8.out.trans (b9.mono HA8.out.size)).mono HB6.out.1.size)
    clear b9
    go_wp2_with fail
    go_ret
    exact ⟨rfl, HB9.out⟩

  · have HB2 : Hid (Below w.heap.size w w2) := HB1.out.trans (hb2.mono HB1.out.size)
    clear hb2
    go_wp2_with fail
    go_ret
    exact ⟨rfl, HB2.out⟩

set_option maxRecDepth 100000 in
set_option maxHeartbeats 4000000 in
theorem spLaw_pkts (pa : Option Addr) (pcap : Nat) (ps : List Pk) (a : Option Addr) (cap : Nat) (l : List Sn) (na : Option Addr) (ncap : Nat) (ns : List Int) (x y : Int) (w : World) (ad : Nat → Addr) (he : Errs9 w ad) (hp : LiesP w pa ps) (hpa : pa = none → ps = [] ∧ pcap = 0) (hpc : ps.length ≤ pcap) (hpm : pcap ≤ maxLen) (hl : LiesS w a l) (hla : a = none → l = [] ∧ cap = 0) (hn : LiesN w na ns) (hna : na = none → ns = [] ∧ ncap = 0) (hm : ps.length ≤ 60 ∨ ps.length = 301) (hll : l.length ≤ 60) (hnn : ns.length ≤ 30) (hk : NumsOk 1 3000 ns) (hx0 : ¬ x < 0) (hx8 : ¬ 8 ≤ x) (hy0 : ¬ y < 0) (hy8 : ¬ 8 ≤ y) (c p : Int) (hq : PksFault ps c p) (hc : 0 < c) :
    Calls Tryd.prog 10 #[.slice pa ps.length pcap, .slice a l.length cap, .slice na ns.length ncap, .int .i64 x, .int .i64 y] w fun e w' => e = .returned (.bool true) ∧ Below w.heap.size w w' := by
  obtain ⟨i0, hi, hz0, hz1, hz2⟩ := info_parts Tryd.infoInt
  have HP : Hid (LiesP w pa ps ∧ (pa = none → ps = [] ∧ pcap = 0)) := ⟨hp, hpa⟩
  have HL : Hid (LiesS w a l ∧ (a = none → l = [] ∧ cap = 0)) := ⟨hl, hla⟩
  have HN : Hid (LiesN w na ns ∧ (na = none → ns = [] ∧ ncap = 0)) := ⟨hn, hna⟩
  have HFit : Hid (∀ w', Calls Tryd.prog 24 #[.slice pa ps.length pcap, .int .i64 60] w' fun e w'' => e = .returned (.bool true) ∧ w'' = w') := fun w' => fitPkts_yes pa ps.length pcap 60 w' (Nat.le_trans hpc hpm) (by omega)
  have HTame : Hid (∀ w', Below w.heap.size w w' → Calls Tryd.prog 16 #[.slice a l.length cap] w' fun e w'' => TameEnd l w' e w'') := fun w' hb => tameSent_any a cap l w' (hl.below hb) (by omega)
  have hfl : Flows x y := by unfold Flows; omega
  have hf : SpreadFaultIs ps ns l x y c p := .inr (.inr (.inl ⟨hk, hfl, hq, hc⟩))
  have HNe : Hid (∀ W, Below w.heap.size w W → Calls Tryd.prog 32 #[.slice na ns.length ncap, .int .i64 1, .int .i64 3000] W fun e w' => e = .returned (.int .i64 (0 : Int)) ∧ w' = W) := fun W hb => numbersError_is na ncap ns 1 3000 W (hn.below hb) 0 (.inr (.inr ⟨rfl, hk⟩))
  have HPf : Hid (∀ W, Below w.heap.size w W → Calls Tryd.prog 30 #[.slice pa ps.length pcap] W fun e w' => e = .returned (.agg #[.int .i64 c, .int .i64 p]) ∧ Below W.heap.size W w') := fun W hb => pfault_is pa pcap ps W (hp.below hb) hpc hpm c p hq
  have h8 := hk.len
  have hc0 : (c == 0) = false := by simpa using (show c ≠ 0 by omega)
  have HSp : Hid (∀ W a3 k3 a4 k4 a5 k5, Below w.heap.size w W → LiesP W a3 ps → LiesS W a4 l → LiesN W a5 ns → ps.length ≤ k3 → k3 ≤ maxLen → tameAll l → Calls Tryd.prog 39 #[.slice a3 ps.length k3, .slice a4 l.length k4, .slice a5 ns.length k5, .int .i64 x, .int .i64 y] W fun e w' => ∃ ty v, e = .returned (.tuple #[.int .i64 0, .iface ty v]) ∧ (ErrIs w' (.iface ty v) c p ∧ Below W.heap.size W w')) := fun W a3 k3 a4 k4 a5 k5 hb h1 h2 h3 h4 h5 h6 => spread_is a3 k3 ps a4 k4 l a5 k5 ns x y W ad (he.below hb) h1 h2 h3 h4 h5 (by omega) h6 c p hf
  clear hf hq hk hfl he hp hpa hpc hpm hl hla hn hna
  obtain ⟨m, hmm⟩ : ∃ m, ps.length = m := ⟨_, rfl⟩
  obtain ⟨n, hnl⟩ : ∃ n, l.length = n := ⟨_, rfl⟩
  obtain ⟨r, hnr⟩ : ∃ r, ns.length = r := ⟨_, rfl⟩
  have HM : Hid (ps.length = m ∧ l.length = n ∧ ns.length = r) := ⟨hmm, hnl, hnr⟩
  have HOwnP : Hid (∀ w', Below w.heap.size w w' → Calls Tryd.prog 21 #[.slice pa m pcap] w' fun e w'' => ∃ a' cap', e = .returned (.slice a' m cap') ∧ LiesP w'' a' ps ∧ m ≤ cap' ∧ cap' ≤ maxLen ∧ Below w'.heap.size w' w'' ∧ Below w.heap.size w w'') := fun w' hb => by
    have := ownPackets_from pa pcap ps w w' hb HP.out.1 (by omega) HP.out.2
    rwa [hmm] at this
  have HOwnS : Hid (∀ w', Below w.heap.size w w' → Calls Tryd.prog 18 #[.slice a n cap] w' fun e w'' => ∃ a' cap', e = .returned (.slice a' n cap') ∧ LiesS w'' a' l ∧ Below w'.heap.size w' w'' ∧ Below w.heap.size w w'') := fun w' hb => by
    have := ownSent_from a cap l w w' hb HL.out.1 (by omega) HL.out.2
    rwa [hnl] at this
  rw [hmm] at hm HFit HSp HPf ⊢
  rw [hnl] at hll HTame HSp ⊢
  rw [hnr] at hnn HSp h8 HNe ⊢
  clear hmm hnl hnr
  subst h8
  have hll' : ¬ 60 < n := by omega
  go_enter Tryd.func10, Tryd.ntmps10
  go_wp2_with fail
  refine (turned_any _).mono ?_
  rintro e w1 ⟨rfl, hb⟩
  have HB1 : Hid (Below w.heap.size w w1) := hb
  clear hb
  go_wp2_with fail
  refine (HFit.out _).mono ?_
  rintro e w1' ⟨rfl, rfl⟩
  go_wp2_with fail
  refine (HTame.out _ HB1.out).mono ?_
  rintro e w2 ⟨⟨rfl, htame⟩ | rfl, hb2⟩
  · have HB2 : Hid (Below w.heap.size w w2 ∧ tameAll l) := ⟨HB1.out.trans (hb2.mono HB1.out.size), htame⟩
    clear hb2 htame
    go_wp2_with fail
    refine (HOwnP.out _ HB2.out.1).mono ?_
    rintro e w3 ⟨a3, k3, rfl, l3, g3, m3, b3, B3⟩
    have HB3 : Hid (Below w.heap.size w w3 ∧ LiesP w3 a3 ps ∧ m ≤ k3 ∧ k3 ≤ maxLen) := ⟨B3, l3, g3, m3⟩
    clear l3 g3 m3 b3 B3
    go_wp2_with fail
    refine (HOwnS.out _ HB3.out.1).mono ?_
    rintro e w4 ⟨a4, k4, rfl, l4, b4, B4⟩
    have HB4 : Hid (Below w.heap.size w w4 ∧ LiesP w4 a3 ps ∧ LiesS w4 a4 l) := ⟨B4, HB3.out.2.1.below b4, l4⟩
    have HN4 : Hid (LiesN w4 na ns) := HN.out.1.below B4
    clear l4 b4 B4
    go_wp2_with (at_builtin; go_must (refine wpList_append_ints _ rfl _ _ 32 rfl 3 i0 (.int .i64 0) Tryd.underlying32 hi hz0 hz1 hz2 rfl na ncap 8 ns HM.out.2.2 rfl rfl HN4.out HN.out.2 (by omega) ?_; rintro a5 k5 w5 h5; have HB5 : Hid (Below w.heap.size w w5 ∧ LiesP w5 a3 ps ∧ LiesS w5 a4 l ∧ LiesN w5 a5 ns) := ⟨HB4.out.1.trans (h5.2.2.2.mono HB4.out.1.size), HB4.out.2.1.below h5.2.2.2, HB4.out.2.2.below h5.2.2.2, h5.1⟩; clear h5))
    refine (HSp.out w5 a3 k3 a4 k4 a5 k5 HB5.out.1 HB5.out.2.1 HB5.out.2.2.1 HB5.out.2.2.2 HB3.out.2.2.1 HB3.out.2.2.2 HB2.out.2).mono ?_
    rintro e w6 ⟨ty, v, rfl, hE6, b6⟩
    have HB6 : Hid (Below w.heap.size w w6 ∧ ErrIs w6 (.iface ty v) c p) := ⟨HB5.out.1.trans (b6.mono HB5.out.1.size), hE6⟩
    clear b6 hE6
    go_wp2_with fail
    refine (fine_any _).mono ?_
    rintro e w7 ⟨rfl, b7⟩
    have HX7 : Hid (Below w6.heap.size w6 (w7.alloc (.cells #[.int .i64 0, .int .i64 (-1)] 39)) ∧ At2 (w7.alloc (.cells #[.int .i64 0, .int .i64 (-1)] 39)) w7.heap.size (.int .i64 0) (.int .i64 (-1)) ∧ w6.heap.size ≤ w7.heap.size) := ⟨b7.alloc b7.size _, at2_new w7 _ _ _, b7.size⟩
    clear b7
    go_wp2_with fail
    refine (HNe.out _ (HB6.out.1.trans (HX7.out.1.mono HB6.out.1.size))).mono ?_
    rintro e w7' ⟨rfl, hw7⟩
    rw [hw7]
    clear hw7
    go_wp2_with fail
    refine (HPf.out _ (HB6.out.1.trans (HX7.out.1.mono HB6.out.1.size))).mono ?_
    rintro e w8 ⟨rfl, b8⟩
    have HT8 : Hid (At2 w8 w7.heap.size (.int .i64 0) (.int .i64 (-1)) ∧ Below w6.heap.size w6 w8) := ⟨HX7.out.2.1.later b8, HX7.out.1.trans (b8.mono HX7.out.1.size)⟩
    obtain ⟨k0, k1, f0, f1⟩ := HT8.out.1
    have HA8 : Hid (Below w6.heap.size w6 ((w8.setCell ⟨w7.heap.size, 0, none⟩ (.int .i64 c)).setCell ⟨w7.heap.size, 1, none⟩ (.int .i64 p))) := (HT8.out.2.setCell HX7.out.2.2 _).setCell HX7.out.2.2 _
    clear b8
    go_wp2_with fail
    refine (faulted_yes (.iface ty v) c p _ (HB6.out.2.code.below HA8.out)).mono ?_
    rintro e w9 ⟨rfl, b9⟩
    have HB9 : Hid (Below w.heap.size w w9) := HB6.out.1.trans ((HA8.out.trans (b9.mono HA8.out.size)).mono HB6.out.1.size)
    clear b9
    go_wp2_with fail
    go_ret
    exact ⟨rfl, HB9.out⟩

  · have HB2 : Hid (Below w.heap.size w w2) := HB1.out.trans (hb2.mono HB1.out.size)
    clear hb2
    go_wp2_with fail
    go_ret
    exact ⟨rfl, HB2.out⟩

set_option maxRecDepth 100000 in
set_option maxHeartbeats 4000000 in
theorem spLaw_sent (pa : Option Addr) (pcap : Nat) (ps : List Pk) (a : Option Addr) (cap : Nat) (l : List Sn) (na : Option Addr) (ncap : Nat) (ns : List Int) (x y : Int) (w : World) (ad : Nat → Addr) (he : Errs9 w ad) (hp : LiesP w pa ps) (hpa : pa = none → ps = [] ∧ pcap = 0) (hpc : ps.length ≤ pcap) (hpm : pcap ≤ maxLen) (hl : LiesS w a l) (hla : a = none → l = [] ∧ cap = 0) (hn : LiesN w na ns) (hna : na = none → ns = [] ∧ ncap = 0) (hm : ps.length ≤ 60 ∨ ps.length = 301) (hll : l.length ≤ 60) (hnn : ns.length ≤ 30) (hk : NumsOk 1 3000 ns) (hx0 : ¬ x < 0) (hx8 : ¬ 8 ≤ x) (hy0 : ¬ y < 0) (hy8 : ¬ 8 ≤ y) (ho : OkPks ps) (c p : Int) (hs : SentFaultIs ps.length l c p) (hc : 0 < c) :
    Calls Tryd.prog 10 #[.slice pa ps.length pcap, .slice a l.length cap, .slice na ns.length ncap, .int .i64 x, .int .i64 y] w fun e w' => e = .returned (.bool true) ∧ Below w.heap.size w w' := by
  obtain ⟨i0, hi, hz0, hz1, hz2⟩ := info_parts Tryd.infoInt
  have HP : Hid (LiesP w pa ps ∧ (pa = none → ps = [] ∧ pcap = 0)) := ⟨hp, hpa⟩
  have HL : Hid (LiesS w a l ∧ (a = none → l = [] ∧ cap = 0)) := ⟨hl, hla⟩
  have HN : Hid (LiesN w na ns ∧ (na = none → ns = [] ∧ ncap = 0)) := ⟨hn, hna⟩
  have HFit : Hid (∀ w', Calls Tryd.prog 24 #[.slice pa ps.length pcap, .int .i64 60] w' fun e w'' => e = .returned (.bool true) ∧ w'' = w') := fun w' => fitPkts_yes pa ps.length pcap 60 w' (Nat.le_trans hpc hpm) (by omega)
  have HTame : Hid (∀ w', Below w.heap.size w w' → Calls Tryd.prog 16 #[.slice a l.length cap] w' fun e w'' => TameEnd l w' e w'') := fun w' hb => tameSent_any a cap l w' (hl.below hb) (by omega)
  have hfl : Flows x y := by unfold Flows; omega
  have hf : SpreadFaultIs ps ns l x y c p := .inr (.inr (.inr ⟨hk, hfl, ho, hs, hc⟩))
  have HNe : Hid (∀ W, Below w.heap.size w W → Calls Tryd.prog 32 #[.slice na ns.length ncap, .int .i64 1, .int .i64 3000] W fun e w' => e = .returned (.int .i64 (0 : Int)) ∧ w' = W) := fun W hb => numbersError_is na ncap ns 1 3000 W (hn.below hb) 0 (.inr (.inr ⟨rfl, hk⟩))
  have HPf : Hid (∀ W, Below w.heap.size w W → Calls Tryd.prog 30 #[.slice pa ps.length pcap] W fun e w' => e = .returned (.agg #[.int .i64 0, .int .i64 (-1)]) ∧ Below W.heap.size W w') := fun W hb => pfault_is pa pcap ps W (hp.below hb) hpc hpm 0 (-1) (.inr (.inr ⟨ho, rfl, rfl⟩))
  have HSf : Hid (∀ W, Below w.heap.size w W → Calls Tryd.prog 22 #[.slice pa ps.length pcap, .slice a l.length cap] W fun e w' => e = .returned (.agg #[.int .i64 c, .int .i64 p]) ∧ Below W.heap.size W w') := fun W hb => sentFault_any pa ps.length pcap a cap l W (hl.below hb) (by omega) (by have := ho.few; omega) c p hs
  have h8 := hk.len
  have hc0 : (c == 0) = false := by simpa using (show c ≠ 0 by omega)
  have HSp : Hid (∀ W a3 k3 a4 k4 a5 k5, Below w.heap.size w W → LiesP W a3 ps → LiesS W a4 l → LiesN W a5 ns → ps.length ≤ k3 → k3 ≤ maxLen → tameAll l → Calls Tryd.prog 39 #[.slice a3 ps.length k3, .slice a4 l.length k4, .slice a5 ns.length k5, .int .i64 x, .int .i64 y] W fun e w' => ∃ ty v, e = .returned (.tuple #[.int .i64 0, .iface ty v]) ∧ (ErrIs w' (.iface ty v) c p ∧ Below W.heap.size W w')) := fun W a3 k3 a4 k4 a5 k5 hb h1 h2 h3 h4 h5 h6 => spread_is a3 k3 ps a4 k4 l a5 k5 ns x y W ad (he.below hb) h1 h2 h3 h4 h5 (by omega) h6 c p hf
  clear hf hs hk hfl ho he hp hpa hpc hpm hl hla hn hna
  obtain ⟨m, hmm⟩ : ∃ m, ps.length = m := ⟨_, rfl⟩
  obtain ⟨n, hnl⟩ : ∃ n, l.length = n := ⟨_, rfl⟩
  obtain ⟨r, hnr⟩ : ∃ r, ns.length = r := ⟨_, rfl⟩
  have HM : Hid (ps.length = m ∧ l.length = n ∧ ns.length = r) := ⟨hmm, hnl, hnr⟩
  have HOwnP : Hid (∀ w', Below w.heap.size w w' → Calls Tryd.prog 21 #[.slice pa m pcap] w' fun e w'' => ∃ a' cap', e = .returned (.slice a' m cap') ∧ LiesP w'' a' ps ∧ m ≤ cap' ∧ cap' ≤ maxLen ∧ Below w'.heap.size w' w'' ∧ Below w.heap.size w w'') := fun w' hb => by
    have := ownPackets_from pa pcap ps w w' hb HP.out.1 (by omega) HP.out.2
    rwa [hmm] at this
  have HOwnS : Hid (∀ w', Below w.heap.size w w' → Calls Tryd.prog 18 #[.slice a n cap] w' fun e w'' => ∃ a' cap', e = .returned (.slice a' n cap') ∧ LiesS w'' a' l ∧ Below w'.heap.size w' w'' ∧ Below w.heap.size w w'') := fun w' hb => by
    have := ownSent_from a cap l w w' hb HL.out.1 (by omega) HL.out.2
    rwa [hnl] at this
  rw [hmm] at hm HFit HSp HPf HSf ⊢
  rw [hnl] at hll HTame HSp HSf ⊢
  rw [hnr] at hnn HSp h8 HNe ⊢
  clear hmm hnl hnr
  subst h8
  have hll' : ¬ 60 < n := by omega
  go_enter Tryd.func10, Tryd.ntmps10
  go_wp2_with fail
  refine (turned_any _).mono ?_
  rintro e w1 ⟨rfl, hb⟩
  have HB1 : Hid (Below w.heap.size w w1) := hb
  clear hb
  go_wp2_with fail
  refine (HFit.out _).mono ?_
  rintro e w1' ⟨rfl, rfl⟩
  go_wp2_with fail
  refine (HTame.out _ HB1.out).mono ?_
  rintro e w2 ⟨⟨rfl, htame⟩ | rfl, hb2⟩
  · have HB2 : Hid (Below w.heap.size w w2 ∧ tameAll l) := ⟨HB1.out.trans (hb2.mono HB1.out.size), htame⟩
    clear hb2 htame
    go_wp2_with fail
    refine (HOwnP.out _ HB2.out.1).mono ?_
    rintro e w3 ⟨a3, k3, rfl, l3, g3, m3, b3, B3⟩
    have HB3 : Hid (Below w.heap.size w w3 ∧ LiesP w3 a3 ps ∧ m ≤ k3 ∧ k3 ≤ maxLen) := ⟨B3, l3, g3, m3⟩
    clear l3 g3 m3 b3 B3
    go_wp2_with fail
    refine (HOwnS.out _ HB3.out.1).mono ?_
    rintro e w4 ⟨a4, k4, rfl, l4, b4, B4⟩
    have HB4 : Hid (Below w.heap.size w w4 ∧ LiesP w4 a3 ps ∧ LiesS w4 a4 l) := ⟨B4, HB3.out.2.1.below b4, l4⟩
    have HN4 : Hid (LiesN w4 na ns) := HN.out.1.below B4
    clear l4 b4 B4
    go_wp2_with (at_builtin; go_must (refine wpList_append_ints _ rfl _ _ 32 rfl 3 i0 (.int .i64 0) Tryd.underlying32 hi hz0 hz1 hz2 rfl na ncap 8 ns HM.out.2.2 rfl rfl HN4.out HN.out.2 (by omega) ?_; rintro a5 k5 w5 h5; have HB5 : Hid (Below w.heap.size w w5 ∧ LiesP w5 a3 ps ∧ LiesS w5 a4 l ∧ LiesN w5 a5 ns) := ⟨HB4.out.1.trans (h5.2.2.2.mono HB4.out.1.size), HB4.out.2.1.below h5.2.2.2, HB4.out.2.2.below h5.2.2.2, h5.1⟩; clear h5))
    refine (HSp.out w5 a3 k3 a4 k4 a5 k5 HB5.out.1 HB5.out.2.1 HB5.out.2.2.1 HB5.out.2.2.2 HB3.out.2.2.1 HB3.out.2.2.2 HB2.out.2).mono ?_
    rintro e w6 ⟨ty, v, rfl, hE6, b6⟩
    have HB6 : Hid (Below w.heap.size w w6 ∧ ErrIs w6 (.iface ty v) c p) := ⟨HB5.out.1.trans (b6.mono HB5.out.1.size), hE6⟩
    clear b6 hE6
    go_wp2_with fail
    refine (fine_any _).mono ?_
    rintro e w7 ⟨rfl, b7⟩
    have HX7 : Hid (Below w6.heap.size w6 (w7.alloc (.cells #[.int .i64 0, .int .i64 (-1)] 39)) ∧ At2 (w7.alloc (.cells #[.int .i64 0, .int .i64 (-1)] 39)) w7.heap.size (.int .i64 0) (.int .i64 (-1)) ∧ w6.heap.size ≤ w7.heap.size) := ⟨b7.alloc b7.size _, at2_new w7 _ _ _, b7.size⟩
    clear b7
    go_wp2_with fail
    refine (HNe.out _ (HB6.out.1.trans (HX7.out.1.mono HB6.out.1.size))).mono ?_
    rintro e w7' ⟨rfl, hw7⟩
    rw [hw7]
    clear hw7
    go_wp2_with fail
    refine (HPf.out _ (HB6.out.1.trans (HX7.out.1.mono HB6.out.1.size))).mono ?_
    rintro e w8 ⟨rfl, b8⟩
    have HT8 : Hid (At2 w8 w7.heap.size (.int .i64 0) (.int .i64 (-1)) ∧ Below w6.heap.size w6 w8) := ⟨HX7.out.2.1.later b8, HX7.out.1.trans (b8.mono HX7.out.1.size)⟩
    obtain ⟨k0, k1, f0, f1⟩ := HT8.out.1
    have HAs : Hid (Below w6.heap.size w6 ((w8.setCell ⟨w7.heap.size, 0, none⟩ (.int .i64 0)).setCell ⟨w7.heap.size, 1, none⟩ (.int .i64 (-1)))) := (HT8.out.2.setCell HX7.out.2.2 _).setCell HX7.out.2.2 _
    clear b8
    have HT9 : Hid (At2 ((w8.setCell ⟨w7.heap.size, 0, none⟩ (.int .i64 0)).setCell ⟨w7.heap.size, 1, none⟩ (.int .i64 (-1))) w7.heap.size (.int .i64 0) (.int .i64 (-1))) := HT8.out.1.set _ _
    go_wp2_with fail
    refine (HSf.out _ (HB6.out.1.trans (HAs.out.mono HB6.out.1.size))).mono ?_
    rintro e w10 ⟨rfl, b10⟩
    obtain ⟨q0, q1, r0, r1⟩ := HT9.out.later b10
    have HA8 : Hid (Below w6.heap.size w6 ((w10.setCell ⟨w7.heap.size, 0, none⟩ (.int .i64 c)).setCell ⟨w7.heap.size, 1, none⟩ (.int .i64 p))) := ((HAs.out.trans (b10.mono HAs.out.size)).setCell HX7.out.2.2 _).setCell HX7.out.2.2 _
    clear b10
    go_wp2_with fail
    refine (faulted_yes (.iface ty v) c p _ (HB6.out.2.code.below HA8.out)).mono ?_
    rintro e w9 ⟨rfl, b9⟩
    have HB9 : Hid (Below w.heap.size w w9) := HB6.out.1.trans ((HA8.out.trans (b9.mono HA8.out.size)).mono HB6.out.1.size)
    clear b9
    go_wp2_with fail
    go_ret
    exact ⟨rfl, HB9.out⟩

  · have HB2 : Hid (Below w.heap.size w w2) := HB1.out.trans (hb2.mono HB1.out.size)
    clear hb2
    go_wp2_with fail
    go_ret
    exact ⟨rfl, HB2.out⟩

set_option maxRecDepth 100000 in
set_option maxHeartbeats 4000000 in
theorem spLaw_ok (pa : Option Addr) (pcap : Nat) (ps : List Pk) (a : Option Addr) (cap : Nat) (l : List Sn) (na : Option Addr) (ncap : Nat) (ns : List Int) (x y : Int) (w : World) (ad : Nat → Addr) (he : Errs9 w ad) (hp : LiesP w pa ps) (hpa : pa = none → ps = [] ∧ pcap = 0) (hpc : ps.length ≤ pcap) (hpm : pcap ≤ maxLen) (hl : LiesS w a l) (hla : a = none → l = [] ∧ cap = 0) (hn : LiesN w na ns) (hna : na = none → ns = [] ∧ ncap = 0) (hm : ps.length ≤ 60 ∨ ps.length = 301) (hll : l.length ≤ 60) (hnn : ns.length ≤ 30) (hk : NumsOk 1 3000 ns) (hx0 : ¬ x < 0) (hx8 : ¬ 8 ≤ x) (hy0 : ¬ y < 0) (hy8 : ¬ 8 ≤ y) (ho : OkPks ps) (hs : ∀ (i : Nat) x, l[i]? = some x → named ps.length x = true) :
    Calls Tryd.prog 10 #[.slice pa ps.length pcap, .slice a l.length cap, .slice na ns.length ncap, .int .i64 x, .int .i64 y] w fun e w' => e = .returned (.bool true) ∧ Below w.heap.size w w' := by
  obtain ⟨i0, hi, hz0, hz1, hz2⟩ := info_parts Tryd.infoInt
  have HP : Hid (LiesP w pa ps ∧ (pa = none → ps = [] ∧ pcap = 0)) := ⟨hp, hpa⟩
  have HL : Hid (LiesS w a l ∧ (a = none → l = [] ∧ cap = 0)) := ⟨hl, hla⟩
  have HN : Hid (LiesN w na ns ∧ (na = none → ns = [] ∧ ncap = 0)) := ⟨hn, hna⟩
  have HFit : Hid (∀ w', Calls Tryd.prog 24 #[.slice pa ps.length pcap, .int .i64 60] w' fun e w'' => e = .returned (.bool true) ∧ w'' = w') := fun w' => fitPkts_yes pa ps.length pcap 60 w' (Nat.le_trans hpc hpm) (by omega)
  have HTame : Hid (∀ w', Below w.heap.size w w' → Calls Tryd.prog 16 #[.slice a l.length cap] w' fun e w'' => TameEnd l w' e w'') := fun w' hb => tameSent_any a cap l w' (hl.below hb) (by omega)
  obtain ⟨xa, rfl⟩ : ∃ xa : Nat, x = xa := ⟨x.toNat, by omega⟩
  obtain ⟨yb, rfl⟩ : ∃ yb : Nat, y = yb := ⟨y.toNat, by omega⟩
  have HSp : Hid (∀ W a3 k3 a4 k4 a5 k5, Below w.heap.size w W → LiesP W a3 ps → LiesS W a4 l → LiesN W a5 ns → tameAll l → Calls Tryd.prog 39 #[.slice a3 ps.length k3, .slice a4 l.length k4, .slice a5 ns.length k5, .int .i64 (xa : Int), .int .i64 (yb : Int)] W fun e w' => ∃ m, e = .returned (.tuple #[.int .i64 m, .nilIface]) ∧ SpreadIs ps ns l xa yb m ∧ Below W.heap.size W w') := fun W a3 k3 a4 k4 a5 k5 hb h1 h2 h3 h6 => spread_ok a3 k3 ps a4 k4 l a5 k5 ns xa yb W ad (he.below hb).c3 h1 h2 h3 ho hk (by omega) (by omega) (by omega) h6 hs
  have HOf : Hid (∀ W N, Below w.heap.size w W → SpreadIs ps ns l xa yb N → Calls Tryd.prog 41 #[.slice pa ps.length pcap, .slice a l.length cap, .slice na ns.length ncap, .int .i64 (xa : Int), .int .i64 (yb : Int)] W fun e w' => e = .returned (.int .i64 N) ∧ Below W.heap.size W w') := fun W N hb hN => by
    refine (spreadOf_any pa pcap ps a cap l na ncap ns xa yb W (hp.below hb) (hl.below hb) (hn.below hb) ho hk (by omega) (by omega) (by omega) hs).mono ?_
    rintro e w' ⟨M, rfl, hM, hb'⟩
    exact ⟨by rw [MostIn.same hM hN], hb'⟩
  have HNe : Hid (∀ W, Below w.heap.size w W → Calls Tryd.prog 32 #[.slice na ns.length ncap, .int .i64 1, .int .i64 3000] W fun e w' => e = .returned (.int .i64 (0 : Int)) ∧ w' = W) := fun W hb => numbersError_is na ncap ns 1 3000 W (hn.below hb) 0 (.inr (.inr ⟨rfl, hk⟩))
  have HPf : Hid (∀ W, Below w.heap.size w W → Calls Tryd.prog 30 #[.slice pa ps.length pcap] W fun e w' => e = .returned (.agg #[.int .i64 0, .int .i64 (-1)]) ∧ Below W.heap.size W w') := fun W hb => pfault_is pa pcap ps W (hp.below hb) hpc hpm 0 (-1) (.inr (.inr ⟨ho, rfl, rfl⟩))
  have HSf : Hid (∀ W, Below w.heap.size w W → Calls Tryd.prog 22 #[.slice pa ps.length pcap, .slice a l.length cap] W fun e w' => e = .returned (.agg #[.int .i64 0, .int .i64 (-1)]) ∧ Below W.heap.size W w') := fun W hb => sentFault_any pa ps.length pcap a cap l W (hl.below hb) (by omega) (by have := ho.few; omega) 0 (-1) (.inr ⟨hs, rfl, rfl⟩)
  have h8 := hk.len
  clear hs hk ho he hp hpa hpc hpm hl hla hn hna
  obtain ⟨m, hmm⟩ : ∃ m, ps.length = m := ⟨_, rfl⟩
  obtain ⟨n, hnl⟩ : ∃ n, l.length = n := ⟨_, rfl⟩
  obtain ⟨r, hnr⟩ : ∃ r, ns.length = r := ⟨_, rfl⟩
  have HM : Hid (ps.length = m ∧ l.length = n ∧ ns.length = r) := ⟨hmm, hnl, hnr⟩
  have HOwnP : Hid (∀ w', Below w.heap.size w w' → Calls Tryd.prog 21 #[.slice pa m pcap] w' fun e w'' => ∃ a' cap', e = .returned (.slice a' m cap') ∧ LiesP w'' a' ps ∧ m ≤ cap' ∧ cap' ≤ maxLen ∧ Below w'.heap.size w' w'' ∧ Below w.heap.size w w'') := fun w' hb => by
    have := ownPackets_from pa pcap ps w w' hb HP.out.1 (by omega) HP.out.2
    rwa [hmm] at this
  have HOwnS : Hid (∀ w', Below w.heap.size w w' → Calls Tryd.prog 18 #[.slice a n cap] w' fun e w'' => ∃ a' cap', e = .returned (.slice a' n cap') ∧ LiesS w'' a' l ∧ Below w'.heap.size w' w'' ∧ Below w.heap.size w w'') := fun w' hb => by
    have := ownSent_from a cap l w w' hb HL.out.1 (by omega) HL.out.2
    rwa [hnl] at this
  rw [hmm] at hm HFit HSp HPf HSf HOf ⊢
  rw [hnl] at hll HTame HSp HSf HOf ⊢
  rw [hnr] at hnn HSp h8 HNe HOf ⊢
  clear hmm hnl hnr
  subst h8
  have hll' : ¬ 60 < n := by omega
  go_enter Tryd.func10, Tryd.ntmps10
  go_wp2_with fail
  refine (turned_any _).mono ?_
  rintro e w1 ⟨rfl, hb⟩
  have HB1 : Hid (Below w.heap.size w w1) := hb
  clear hb
  go_wp2_with fail
  refine (HFit.out _).mono ?_
  rintro e w1' ⟨rfl, rfl⟩
  go_wp2_with fail
  refine (HTame.out _ HB1.out).mono ?_
  rintro e w2 ⟨⟨rfl, htame⟩ | rfl, hb2⟩
  · have HB2 : Hid (Below w.heap.size w w2 ∧ tameAll l) := ⟨HB1.out.trans (hb2.mono HB1.out.size), htame⟩
    clear hb2 htame
    go_wp2_with fail
    refine (HOwnP.out _ HB2.out.1).mono ?_
    rintro e w3 ⟨a3, k3, rfl, l3, g3, m3, b3, B3⟩
    have HB3 : Hid (Below w.heap.size w w3 ∧ LiesP w3 a3 ps ∧ m ≤ k3 ∧ k3 ≤ maxLen) := ⟨B3, l3, g3, m3⟩
    clear l3 g3 m3 b3 B3
    go_wp2_with fail
    refine (HOwnS.out _ HB3.out.1).mono ?_
    rintro e w4 ⟨a4, k4, rfl, l4, b4, B4⟩
    have HB4 : Hid (Below w.heap.size w w4 ∧ LiesP w4 a3 ps ∧ LiesS w4 a4 l) := ⟨B4, HB3.out.2.1.below b4, l4⟩
    have HN4 : Hid (LiesN w4 na ns) := HN.out.1.below B4
    clear l4 b4 B4
    go_wp2_with (at_builtin; go_must (refine wpList_append_ints _ rfl _ _ 32 rfl 3 i0 (.int .i64 0) Tryd.underlying32 hi hz0 hz1 hz2 rfl na ncap 8 ns HM.out.2.2 rfl rfl HN4.out HN.out.2 (by omega) ?_; rintro a5 k5 w5 h5; have HB5 : Hid (Below w.heap.size w w5 ∧ LiesP w5 a3 ps ∧ LiesS w5 a4 l ∧ LiesN w5 a5 ns) := ⟨HB4.out.1.trans (h5.2.2.2.mono HB4.out.1.size), HB4.out.2.1.below h5.2.2.2, HB4.out.2.2.below h5.2.2.2, h5.1⟩; clear h5))
    refine (HSp.out w5 a3 k3 a4 k4 a5 k5 HB5.out.1 HB5.out.2.1 HB5.out.2.2.1 HB5.out.2.2.2 HB2.out.2).mono ?_
    rintro e w6 ⟨N, rfl, hE6, b6⟩
    have HB6 : Hid (Below w.heap.size w w6 ∧ SpreadIs ps ns l xa yb N) := ⟨HB5.out.1.trans (b6.mono HB5.out.1.size), hE6⟩
    have hNN : (N == N) = true := by simp
    clear b6 hE6
    go_wp2_with fail
    refine (fine_any _).mono ?_
    rintro e w7 ⟨rfl, b7⟩
    have HX7 : Hid (Below w6.heap.size w6 (w7.alloc (.cells #[.int .i64 0, .int .i64 (-1)] 39)) ∧ At2 (w7.alloc (.cells #[.int .i64 0, .int .i64 (-1)] 39)) w7.heap.size (.int .i64 0) (.int .i64 (-1)) ∧ w6.heap.size ≤ w7.heap.size) := ⟨b7.alloc b7.size _, at2_new w7 _ _ _, b7.size⟩
    clear b7
    go_wp2_with fail
    refine (HNe.out _ (HB6.out.1.trans (HX7.out.1.mono HB6.out.1.size))).mono ?_
    rintro e w7' ⟨rfl, hw7⟩
    rw [hw7]
    clear hw7
    go_wp2_with fail
    refine (HPf.out _ (HB6.out.1.trans (HX7.out.1.mono HB6.out.1.size))).mono ?_
    rintro e w8 ⟨rfl, b8⟩
    have HT8 : Hid (At2 w8 w7.heap.size (.int .i64 0) (.int .i64 (-1)) ∧ Below w6.heap.size w6 w8) := ⟨HX7.out.2.1.later b8, HX7.out.1.trans (b8.mono HX7.out.1.size)⟩
    obtain ⟨k0, k1, f0, f1⟩ := HT8.out.1
    have HAs : Hid (Below w6.heap.size w6 ((w8.setCell ⟨w7.heap.size, 0, none⟩ (.int .i64 0)).setCell ⟨w7.heap.size, 1, none⟩ (.int .i64 (-1)))) := (HT8.out.2.setCell HX7.out.2.2 _).setCell HX7.out.2.2 _
    clear b8
    have HT9 : Hid (At2 ((w8.setCell ⟨w7.heap.size, 0, none⟩ (.int .i64 0)).setCell ⟨w7.heap.size, 1, none⟩ (.int .i64 (-1))) w7.heap.size (.int .i64 0) (.int .i64 (-1))) := HT8.out.1.set _ _
    go_wp2_with fail
    refine (HSf.out _ (HB6.out.1.trans (HAs.out.mono HB6.out.1.size))).mono ?_
    rintro e w10 ⟨rfl, b10⟩
    obtain ⟨q0, q1, r0, r1⟩ := HT9.out.later b10
    have HA8 : Hid (Below w6.heap.size w6 ((w10.setCell ⟨w7.heap.size, 0, none⟩ (.int .i64 0)).setCell ⟨w7.heap.size, 1, none⟩ (.int .i64 (-1)))) := ((HAs.out.trans (b10.mono HAs.out.size)).setCell HX7.out.2.2 _).setCell HX7.out.2.2 _
    clear b10
    go_wp2_with fail
    refine (HOf.out _ _ (HB6.out.1.trans (HA8.out.mono HB6.out.1.size)) HB6.out.2).mono ?_
    rintro e w9 ⟨rfl, b9⟩
    have HB9 : Hid (Below w.heap.size w w9) := HB6.out.1.trans ((HA8.out.trans (b9.mono HA8.out.size)).mono HB6.out.1.size)
    clear b9
    go_wp2_with fail
    go_ret
    exact ⟨rfl, HB9.out⟩

  · have HB2 : Hid (Below w.heap.size w w2) := HB1.out.trans (hb2.mono HB1.out.size)
    clear hb2
    go_wp2_with fail
    go_ret
    exact ⟨rfl, HB2.out⟩

end Go.Proofs.YtepnfioldbhffabDoor
