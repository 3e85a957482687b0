/- RankLate: its long ways. -/
import Derived.Test.YtcldgpbimaoliabDoorCLateLaw1
namespace Go.Proofs.YtcldgpbimaoliabDoor
open Go.RowKit

theorem two_set {w w1 : World} {x y : Value} (h : Two w w1 x y) (u v : Value) : Two w ((w1.setCell ⟨w.heap.size, 0, none⟩ u).setCell ⟨w.heap.size, 1, none⟩ v) u v := by
  obtain ⟨h0, h1, h2, h3⟩ := h
  have e0 : (w1.setCell ⟨w.heap.size, 0, none⟩ u).cell? ⟨w.heap.size, 0, none⟩ = some u := World.cell?_setCell_same' _ _ _ (by rw [h0]; rfl)
  have e1 : (w1.setCell ⟨w.heap.size, 0, none⟩ u).cell? ⟨w.heap.size, 1, none⟩ = some y := by
    rw [World.cell?_setCell_other _ _ _ _ (by intro e; cases e)]
    exact h1
  refine ⟨?_, World.cell?_setCell_same' _ _ _ (by rw [e1]; rfl), ?_, ?_⟩
  · rw [World.cell?_setCell_other _ _ _ _ (by intro e; cases e)]
    exact e0
  · rw [World.frozen?_setCell, World.frozen?_setCell]; exact h2
  · rw [World.frozen?_setCell, World.frozen?_setCell]; exact h3

set_option maxRecDepth 100000 in
set_option maxHeartbeats 4000000 in
theorem lateLaw_bad1 (pa : Option Addr) (pcap : Nat) (ps : List Pk) (a : Option Addr) (cap : Nat) (l : List Sn) (na : Option Addr) (ncap : Nat) (ns : List Int) (w : World) (ad : Nat → Addr) (he : Errs9 w ad) (hp : LiesP w pa ps) (hpa : pa = none → ps = [] ∧ pcap = 0) (hpc : ps.length ≤ pcap) (hpm : pcap ≤ maxLen) (hl : LiesS w a l) (hla : a = none → l = [] ∧ cap = 0) (hn : LiesN w na ns) (hna : na = none → ns = [] ∧ ncap = 0) (hm : ps.length ≤ 80 ∨ ps.length = 301) (hll : l.length ≤ 100) (hnn : ns.length ≤ 30) (c p : Int) (hq : PksFault ps c p) (hc : 0 < c) :
    Calls Tryd.prog 6 #[.slice pa ps.length pcap, .slice a l.length cap, .slice na ns.length ncap] w fun e w' => e = .returned (.bool true) ∧ Below w.heap.size w w' := by
  obtain ⟨i0, hi, hz0, hz1, hz2⟩ := info_parts Tryd.infoInt
  have HE : Hid (Errs9 w ad) := he
  have HP : Hid (LiesP w pa ps ∧ (pa = none → ps = [] ∧ pcap = 0) ∧ ps.length ≤ pcap ∧ pcap ≤ maxLen) := ⟨hp, hpa, hpc, hpm⟩
  have HL : Hid (LiesS w a l ∧ (a = none → l = [] ∧ cap = 0)) := ⟨hl, hla⟩
  have HN : Hid (LiesN w na ns ∧ (na = none → ns = [] ∧ ncap = 0)) := ⟨hn, hna⟩
  have HFit : Hid (∀ w', Calls Tryd.prog 19 #[.slice pa ps.length pcap, .int .i64 80] w' fun e w'' => e = .returned (.bool true) ∧ w'' = w') := fun w' => fitPkts_yes pa ps.length pcap 80 w' (Nat.le_trans hpc hpm) (by omega)
  have HTame : Hid (∀ w', Below w.heap.size w w' → Calls Tryd.prog 11 #[.slice a l.length cap] w' fun e w'' => TameEnd l w' e w'') := fun w' hb => tameSent_any a cap l w' (hl.below hb) (by omega)
  have hf : LateFaultIs ps ns l c p := .inl ⟨hq, hc⟩
  have HLate : Hid (∀ W a3 k3 a4 k4 a5 k5, Below w.heap.size w W → LiesP W a3 ps → LiesS W a4 l → LiesN W a5 ns → ps.length ≤ k3 → k3 ≤ maxLen → tameAll l → Calls Tryd.prog 24 #[.slice a3 ps.length k3, .slice a4 l.length k4, .slice a5 ns.length k5] W fun e w' => ∃ ty v, e = .returned (.tuple #[.int .i64 0, .iface ty v]) ∧ (ErrIs w' (.iface ty v) c p ∧ Below W.heap.size W w')) := fun W a3 k3 a4 k4 a5 k5 hb h1 h2 h3 h4 h5 h6 => late_is a3 k3 ps a4 k4 l a5 k5 ns W ad (he.below hb) h1 h2 h3 h4 h5 (by omega) h6 c p hf
  have HPf : Hid (∀ W, Below w.heap.size w W → Calls Tryd.prog 25 #[.slice pa ps.length pcap] W fun e w' => e = .returned (.agg #[.int .i64 c, .int .i64 p]) ∧ Below W.heap.size W w') := fun W hb => pfault_is pa pcap ps W (hp.below hb) hpc hpm c p hq
  have hc0 : (c == 0) = false := by simpa using (show c ≠ 0 by omega)
  clear hq hf
  clear he hp hpa hpc hpm hl hla hn hna
  obtain ⟨m, hmm⟩ : ∃ m, ps.length = m := ⟨_, rfl⟩
  obtain ⟨n, hnl⟩ : ∃ n, l.length = n := ⟨_, rfl⟩
  obtain ⟨r, hnr⟩ : ∃ r, ns.length = r := ⟨_, rfl⟩
  have HM : Hid (ps.length = m ∧ l.length = n ∧ ns.length = r) := ⟨hmm, hnl, hnr⟩
  have HOwnP : Hid (∀ w', Below w.heap.size w w' → Calls Tryd.prog 16 #[.slice pa m pcap] w' fun e w'' => ∃ a' cap', e = .returned (.slice a' m cap') ∧ LiesP w'' a' ps ∧ m ≤ cap' ∧ cap' ≤ maxLen ∧ Below w'.heap.size w' w'' ∧ Below w.heap.size w w'') := fun w' hb => by
    have := ownPackets_from pa pcap ps w w' hb HP.out.1 (by omega) HP.out.2.1
    rwa [hmm] at this
  have HOwnS : Hid (∀ w', Below w.heap.size w w' → Calls Tryd.prog 13 #[.slice a n cap] w' fun e w'' => ∃ a' cap', e = .returned (.slice a' n cap') ∧ LiesS w'' a' l ∧ Below w'.heap.size w' w'' ∧ Below w.heap.size w w'') := fun w' hb => by
    have := ownSent_from a cap l w w' hb HL.out.1 (by omega) HL.out.2
    rwa [hnl] at this
  rw [hmm] at hm HFit HLate HPf ⊢
  rw [hnl] at hll HTame HLate ⊢
  rw [hnr] at hnn HLate ⊢
  clear hmm hnl hnr
  have hll' : ¬ 100 < n := by omega
  have hnn' : ¬ 30 < r := by omega
  go_enter Tryd.func6, Tryd.ntmps6
  go_wp2_with fail
  refine (sends_any _).mono ?_
  rintro e w1 ⟨rfl, hb⟩
  have HB1 : Hid (Below w.heap.size w w1) := hb
  clear hb
  go_wp2_with fail
  refine (HFit.out _).mono ?_
  rintro e w1' ⟨rfl, rfl⟩
  go_wp2_with fail
  refine (HTame.out _ HB1.out).mono ?_
  rintro e w2 ⟨⟨rfl, htame⟩ | rfl, hb2⟩
  · have HB2 : Hid (Below w.heap.size w w2 ∧ tameAll l) := ⟨HB1.out.trans (hb2.mono HB1.out.size), htame⟩
    clear hb2 htame
    go_wp2_with fail
    refine (HOwnP.out _ HB2.out.1).mono ?_
    rintro e w3 ⟨a3, k3, rfl, l3, g3, m3, b3, B3⟩
    have HB3 : Hid (Below w.heap.size w w3 ∧ LiesP w3 a3 ps ∧ m ≤ k3 ∧ k3 ≤ maxLen) := ⟨B3, l3, g3, m3⟩
    clear l3 g3 m3 b3 B3
    go_wp2_with fail
    refine (HOwnS.out _ HB3.out.1).mono ?_
    rintro e w4 ⟨a4, k4, rfl, l4, b4, B4⟩
    have HB4 : Hid (Below w.heap.size w w4 ∧ LiesP w4 a3 ps ∧ LiesS w4 a4 l) := ⟨B4, HB3.out.2.1.below b4, l4⟩
    have HN4 : Hid (LiesN w4 na ns) := HN.out.1.below B4
    clear l4 b4 B4
    go_wp2_with (at_builtin; go_must (refine wpList_append_ints _ rfl _ _ 32 rfl 3 i0 (.int .i64 0) Tryd.underlying32 hi hz0 hz1 hz2 rfl na ncap r ns HM.out.2.2 rfl rfl HN4.out HN.out.2 (by omega) ?_; rintro a5 k5 w5 h5; have HB5 : Hid (Below w.heap.size w w5 ∧ LiesP w5 a3 ps ∧ LiesS w5 a4 l ∧ LiesN w5 a5 ns) := ⟨HB4.out.1.trans (h5.2.2.2.mono HB4.out.1.size), HB4.out.2.1.below h5.2.2.2, HB4.out.2.2.below h5.2.2.2, h5.1⟩; clear h5))
    refine (HLate.out w5 a3 k3 a4 k4 a5 k5 HB5.out.1 HB5.out.2.1 HB5.out.2.2.1 HB5.out.2.2.2 HB3.out.2.2.1 HB3.out.2.2.2 HB2.out.2).mono ?_
    rintro e w6 ⟨ty, v, rfl, hE6, b6⟩
    have HB6 : Hid (Below w.heap.size w w6 ∧ ErrIs w6 (.iface ty v) c p) := ⟨HB5.out.1.trans (b6.mono HB5.out.1.size), hE6⟩
    clear b6 hE6
    go_wp2_with fail
    refine (HPf.out _ HB6.out.1).mono ?_
    rintro e w7 ⟨rfl, b7⟩
    have HA7 : Hid (Below w6.heap.size w6 (w7.alloc (.cells #[.int .i64 c, .int .i64 p] 39))) := b7.alloc b7.size _
    have HT7 : Hid (Two w7 (w7.alloc (.cells #[.int .i64 c, .int .i64 p] 39)) (.int .i64 c) (.int .i64 p)) := two_new w7 _ _ _
    have HS7 : Hid (w6.heap.size ≤ w7.heap.size) := b7.size
    clear b7
    have HA8 : Hid (Below w6.heap.size w6 (w7.alloc (.cells #[.int .i64 c, .int .i64 p] 39))) := HA7.out
    go_wp2_with fail
    refine (faulted_yes (.iface ty v) c p _ (HB6.out.2.code.below HA8.out)).mono ?_
    rintro e w9 ⟨rfl, b9⟩
    have HB9 : Hid (Below w.heap.size w w9) := HB6.out.1.trans ((HA8.out.trans (b9.mono HA8.out.size)).mono HB6.out.1.size)
    clear b9
    go_wp2_with fail
    go_ret
    exact ⟨rfl, HB9.out⟩
  · have HB2 : Hid (Below w.heap.size w w2) := HB1.out.trans (hb2.mono HB1.out.size)
    clear hb2
    go_wp2_with fail
    go_ret
    exact ⟨rfl, HB2.out⟩

set_option maxRecDepth 100000 in
set_option maxHeartbeats 4000000 in
theorem lateLaw_bad2 (pa : Option Addr) (pcap : Nat) (ps : List Pk) (a : Option Addr) (cap : Nat) (l : List Sn) (na : Option Addr) (ncap : Nat) (ns : List Int) (w : World) (ad : Nat → Addr) (he : Errs9 w ad) (hp : LiesP w pa ps) (hpa : pa = none → ps = [] ∧ pcap = 0) (hpc : ps.length ≤ pcap) (hpm : pcap ≤ maxLen) (hl : LiesS w a l) (hla : a = none → l = [] ∧ cap = 0) (hn : LiesN w na ns) (hna : na = none → ns = [] ∧ ncap = 0) (hm : ps.length ≤ 80 ∨ ps.length = 301) (hll : l.length ≤ 100) (hnn : ns.length ≤ 30) (ho : OkPks ps) (k : Nat) (hk : NumsFault 0 1099511627776 ns k) (hk0 : 0 < k) :
    Calls Tryd.prog 6 #[.slice pa ps.length pcap, .slice a l.length cap, .slice na ns.length ncap] w fun e w' => e = .returned (.bool true) ∧ Below w.heap.size w w' := by
  obtain ⟨i0, hi, hz0, hz1, hz2⟩ := info_parts Tryd.infoInt
  have HE : Hid (Errs9 w ad) := he
  have HP : Hid (LiesP w pa ps ∧ (pa = none → ps = [] ∧ pcap = 0) ∧ ps.length ≤ pcap ∧ pcap ≤ maxLen) := ⟨hp, hpa, hpc, hpm⟩
  have HL : Hid (LiesS w a l ∧ (a = none → l = [] ∧ cap = 0)) := ⟨hl, hla⟩
  have HN : Hid (LiesN w na ns ∧ (na = none → ns = [] ∧ ncap = 0)) := ⟨hn, hna⟩
  have HFit : Hid (∀ w', Calls Tryd.prog 19 #[.slice pa ps.length pcap, .int .i64 80] w' fun e w'' => e = .returned (.bool true) ∧ w'' = w') := fun w' => fitPkts_yes pa ps.length pcap 80 w' (Nat.le_trans hpc hpm) (by omega)
  have HTame : Hid (∀ w', Below w.heap.size w w' → Calls Tryd.prog 11 #[.slice a l.length cap] w' fun e w'' => TameEnd l w' e w'') := fun w' hb => tameSent_any a cap l w' (hl.below hb) (by omega)
  obtain ⟨c, hc⟩ : ∃ c : Int, (k : Int) = c := ⟨_, rfl⟩
  obtain ⟨p, hpp⟩ : ∃ p : Int, p = -1 := ⟨_, rfl⟩
  have hc1 : 0 < c := by omega
  have hf : LateFaultIs ps ns l c p := .inr (.inl ⟨ho, ⟨k, hk, hk0, hc.symm⟩, hpp⟩)
  have HLate : Hid (∀ W a3 k3 a4 k4 a5 k5, Below w.heap.size w W → LiesP W a3 ps → LiesS W a4 l → LiesN W a5 ns → ps.length ≤ k3 → k3 ≤ maxLen → tameAll l → Calls Tryd.prog 24 #[.slice a3 ps.length k3, .slice a4 l.length k4, .slice a5 ns.length k5] W fun e w' => ∃ ty v, e = .returned (.tuple #[.int .i64 0, .iface ty v]) ∧ (ErrIs w' (.iface ty v) c p ∧ Below W.heap.size W w')) := fun W a3 k3 a4 k4 a5 k5 hb h1 h2 h3 h4 h5 h6 => late_is a3 k3 ps a4 k4 l a5 k5 ns W ad (he.below hb) h1 h2 h3 h4 h5 (by omega) h6 c p hf
  have HPf : Hid (∀ W, Below w.heap.size w W → Calls Tryd.prog 25 #[.slice pa ps.length pcap] W fun e w' => e = .returned (.agg #[.int .i64 0, .int .i64 (-1)]) ∧ Below W.heap.size W w') := fun W hb => pfault_is pa pcap ps W (hp.below hb) hpc hpm 0 (-1) (.inr (.inr ⟨ho, rfl, rfl⟩))
  have HNe : Hid (∀ W, Below w.heap.size w W → Calls Tryd.prog 27 #[.slice na ns.length ncap, .int .i64 0, .int .i64 1099511627776] W fun e w' => e = .returned (.int .i64 c) ∧ w' = W) := fun W hb => by
    have := numbersError_is na ncap ns 0 1099511627776 W (hn.below hb) k hk
    rwa [hc] at this
  subst hpp
  have hc0 : (c == 0) = false := by simpa using (show c ≠ 0 by omega)
  clear hk hf ho hc hk0
  clear he hp hpa hpc hpm hl hla hn hna
  obtain ⟨m, hmm⟩ : ∃ m, ps.length = m := ⟨_, rfl⟩
  obtain ⟨n, hnl⟩ : ∃ n, l.length = n := ⟨_, rfl⟩
  obtain ⟨r, hnr⟩ : ∃ r, ns.length = r := ⟨_, rfl⟩
  have HM : Hid (ps.length = m ∧ l.length = n ∧ ns.length = r) := ⟨hmm, hnl, hnr⟩
  have HOwnP : Hid (∀ w', Below w.heap.size w w' → Calls Tryd.prog 16 #[.slice pa m pcap] w' fun e w'' => ∃ a' cap', e = .returned (.slice a' m cap') ∧ LiesP w'' a' ps ∧ m ≤ cap' ∧ cap' ≤ maxLen ∧ Below w'.heap.size w' w'' ∧ Below w.heap.size w w'') := fun w' hb => by
    have := ownPackets_from pa pcap ps w w' hb HP.out.1 (by omega) HP.out.2.1
    rwa [hmm] at this
  have HOwnS : Hid (∀ w', Below w.heap.size w w' → Calls Tryd.prog 13 #[.slice a n cap] w' fun e w'' => ∃ a' cap', e = .returned (.slice a' n cap') ∧ LiesS w'' a' l ∧ Below w'.heap.size w' w'' ∧ Below w.heap.size w w'') := fun w' hb => by
    have := ownSent_from a cap l w w' hb HL.out.1 (by omega) HL.out.2
    rwa [hnl] at this
  rw [hmm] at hm HFit HLate HPf ⊢
  rw [hnl] at hll HTame HLate ⊢
  rw [hnr] at hnn HLate HNe ⊢
  clear hmm hnl hnr
  have hll' : ¬ 100 < n := by omega
  have hnn' : ¬ 30 < r := by omega
  go_enter Tryd.func6, Tryd.ntmps6
  go_wp2_with fail
  refine (sends_any _).mono ?_
  rintro e w1 ⟨rfl, hb⟩
  have HB1 : Hid (Below w.heap.size w w1) := hb
  clear hb
  go_wp2_with fail
  refine (HFit.out _).mono ?_
  rintro e w1' ⟨rfl, rfl⟩
  go_wp2_with fail
  refine (HTame.out _ HB1.out).mono ?_
  rintro e w2 ⟨⟨rfl, htame⟩ | rfl, hb2⟩
  · have HB2 : Hid (Below w.heap.size w w2 ∧ tameAll l) := ⟨HB1.out.trans (hb2.mono HB1.out.size), htame⟩
    clear hb2 htame
    go_wp2_with fail
    refine (HOwnP.out _ HB2.out.1).mono ?_
    rintro e w3 ⟨a3, k3, rfl, l3, g3, m3, b3, B3⟩
    have HB3 : Hid (Below w.heap.size w w3 ∧ LiesP w3 a3 ps ∧ m ≤ k3 ∧ k3 ≤ maxLen) := ⟨B3, l3, g3, m3⟩
    clear l3 g3 m3 b3 B3
    go_wp2_with fail
    refine (HOwnS.out _ HB3.out.1).mono ?_
    rintro e w4 ⟨a4, k4, rfl, l4, b4, B4⟩
    have HB4 : Hid (Below w.heap.size w w4 ∧ LiesP w4 a3 ps ∧ LiesS w4 a4 l) := ⟨B4, HB3.out.2.1.below b4, l4⟩
    have HN4 : Hid (LiesN w4 na ns) := HN.out.1.below B4
    clear l4 b4 B4
    go_wp2_with (at_builtin; go_must (refine wpList_append_ints _ rfl _ _ 32 rfl 3 i0 (.int .i64 0) Tryd.underlying32 hi hz0 hz1 hz2 rfl na ncap r ns HM.out.2.2 rfl rfl HN4.out HN.out.2 (by omega) ?_; rintro a5 k5 w5 h5; have HB5 : Hid (Below w.heap.size w w5 ∧ LiesP w5 a3 ps ∧ LiesS w5 a4 l ∧ LiesN w5 a5 ns) := ⟨HB4.out.1.trans (h5.2.2.2.mono HB4.out.1.size), HB4.out.2.1.below h5.2.2.2, HB4.out.2.2.below h5.2.2.2, h5.1⟩; clear h5))
    refine (HLate.out w5 a3 k3 a4 k4 a5 k5 HB5.out.1 HB5.out.2.1 HB5.out.2.2.1 HB5.out.2.2.2 HB3.out.2.2.1 HB3.out.2.2.2 HB2.out.2).mono ?_
    rintro e w6 ⟨ty, v, rfl, hE6, b6⟩
    have HB6 : Hid (Below w.heap.size w w6 ∧ ErrIs w6 (.iface ty v) c (-1)) := ⟨HB5.out.1.trans (b6.mono HB5.out.1.size), hE6⟩
    clear b6 hE6
    go_wp2_with fail
    refine (HPf.out _ HB6.out.1).mono ?_
    rintro e w7 ⟨rfl, b7⟩
    have HA7 : Hid (Below w6.heap.size w6 (w7.alloc (.cells #[.int .i64 0, .int .i64 (-1)] 39))) := b7.alloc b7.size _
    have HT7 : Hid (Two w7 (w7.alloc (.cells #[.int .i64 0, .int .i64 (-1)] 39)) (.int .i64 0) (.int .i64 (-1))) := two_new w7 _ _ _
    have HS7 : Hid (w6.heap.size ≤ w7.heap.size) := b7.size
    clear b7
    go_wp2_with fail
    refine (HNe.out _ (HB6.out.1.trans (HA7.out.mono HB6.out.1.size))).mono ?_
    rintro e w8 ⟨rfl, rfl⟩
    go_wp2_with fail
    refine (bare_any c _).mono ?_
    rintro e w8 ⟨rfl, b8⟩
    obtain ⟨k0, k1, f0, f1⟩ := HT7.out.later b8
    have HA8' : Hid (Below w6.heap.size w6 w8) := HA7.out.trans (b8.mono HA7.out.size)
    clear b8
    have HA8 : Hid (Below w6.heap.size w6 ((w8.setCell ⟨w7.heap.size, 0, none⟩ (.int .i64 c)).setCell ⟨w7.heap.size, 1, none⟩ (.int .i64 (-1)))) := (HA8'.out.setCell HS7.out _).setCell HS7.out _
    go_wp2_with fail
    refine (faulted_yes (.iface ty v) c (-1) _ (HB6.out.2.code.below HA8.out)).mono ?_
    rintro e w9 ⟨rfl, b9⟩
    have HB9 : Hid (Below w.heap.size w w9) := HB6.out.1.trans ((HA8.out.trans (b9.mono HA8.out.size)).mono HB6.out.1.size)
    clear b9
    go_wp2_with fail
    go_ret
    exact ⟨rfl, HB9.out⟩
  · have HB2 : Hid (Below w.heap.size w w2) := HB1.out.trans (hb2.mono HB1.out.size)
    clear hb2
    go_wp2_with fail
    go_ret
    exact ⟨rfl, HB2.out⟩

set_option maxRecDepth 100000 in
set_option maxHeartbeats 4000000 in
theorem lateLaw_bad3 (pa : Option Addr) (pcap : Nat) (ps : List Pk) (a : Option Addr) (cap : Nat) (l : List Sn) (na : Option Addr) (ncap : Nat) (ns : List Int) (w : World) (ad : Nat → Addr) (he : Errs9 w ad) (hp : LiesP w pa ps) (hpa : pa = none → ps = [] ∧ pcap = 0) (hpc : ps.length ≤ pcap) (hpm : pcap ≤ maxLen) (hl : LiesS w a l) (hla : a = none → l = [] ∧ cap = 0) (hn : LiesN w na ns) (hna : na = none → ns = [] ∧ ncap = 0) (hm : ps.length ≤ 80 ∨ ps.length = 301) (hll : l.length ≤ 100) (hnn : ns.length ≤ 30) (ho : OkPks ps) (hk : NumsOk 0 1099511627776 ns) (c p : Int) (hs : SentFaultIs ps.length l c p) (hc : 0 < c) :
    Calls Tryd.prog 6 #[.slice pa ps.length pcap, .slice a l.length cap, .slice na ns.length ncap] w fun e w' => e = .returned (.bool true) ∧ Below w.heap.size w w' := by
  obtain ⟨i0, hi, hz0, hz1, hz2⟩ := info_parts Tryd.infoInt
  have HE : Hid (Errs9 w ad) := he
  have HP : Hid (LiesP w pa ps ∧ (pa = none → ps = [] ∧ pcap = 0) ∧ ps.length ≤ pcap ∧ pcap ≤ maxLen) := ⟨hp, hpa, hpc, hpm⟩
  have HL : Hid (LiesS w a l ∧ (a = none → l = [] ∧ cap = 0)) := ⟨hl, hla⟩
  have HN : Hid (LiesN w na ns ∧ (na = none → ns = [] ∧ ncap = 0)) := ⟨hn, hna⟩
  have HFit : Hid (∀ w', Calls Tryd.prog 19 #[.slice pa ps.length pcap, .int .i64 80] w' fun e w'' => e = .returned (.bool true) ∧ w'' = w') := fun w' => fitPkts_yes pa ps.length pcap 80 w' (Nat.le_trans hpc hpm) (by omega)
  have HTame : Hid (∀ w', Below w.heap.size w w' → Calls Tryd.prog 11 #[.slice a l.length cap] w' fun e w'' => TameEnd l w' e w'') := fun w' hb => tameSent_any a cap l w' (hl.below hb) (by omega)
  have hf : LateFaultIs ps ns l c p := .inr (.inr ⟨ho, hk, hs, hc⟩)
  have HLate : Hid (∀ W a3 k3 a4 k4 a5 k5, Below w.heap.size w W → LiesP W a3 ps → LiesS W a4 l → LiesN W a5 ns → ps.length ≤ k3 → k3 ≤ maxLen → tameAll l → Calls Tryd.prog 24 #[.slice a3 ps.length k3, .slice a4 l.length k4, .slice a5 ns.length k5] W fun e w' => ∃ ty v, e = .returned (.tuple #[.int .i64 0, .iface ty v]) ∧ (ErrIs w' (.iface ty v) c p ∧ Below W.heap.size W w')) := fun W a3 k3 a4 k4 a5 k5 hb h1 h2 h3 h4 h5 h6 => late_is a3 k3 ps a4 k4 l a5 k5 ns W ad (he.below hb) h1 h2 h3 h4 h5 (by omega) h6 c p hf
  have HPf : Hid (∀ W, Below w.heap.size w W → Calls Tryd.prog 25 #[.slice pa ps.length pcap] W fun e w' => e = .returned (.agg #[.int .i64 0, .int .i64 (-1)]) ∧ Below W.heap.size W w') := fun W hb => pfault_is pa pcap ps W (hp.below hb) hpc hpm 0 (-1) (.inr (.inr ⟨ho, rfl, rfl⟩))
  have HNe : Hid (∀ W, Below w.heap.size w W → Calls Tryd.prog 27 #[.slice na ns.length ncap, .int .i64 0, .int .i64 1099511627776] W fun e w' => e = .returned (.int .i64 (0 : Int)) ∧ w' = W) := fun W hb => numbersError_is na ncap ns 0 1099511627776 W (hn.below hb) 0 (.inr (.inr ⟨rfl, hk⟩))
  have HSf : Hid (∀ W, Below w.heap.size w W → Calls Tryd.prog 17 #[.slice pa ps.length pcap, .slice a l.length cap] W fun e w' => e = .returned (.agg #[.int .i64 c, .int .i64 p]) ∧ Below W.heap.size W w') := fun W hb => sentFault_any pa ps.length pcap a cap l W (hl.below hb) (by omega) (by have := ho.few; omega) c p hs
  have hc0 : (c == 0) = false := by simpa using (show c ≠ 0 by omega)
  clear hk hf ho hs
  clear he hp hpa hpc hpm hl hla hn hna
  obtain ⟨m, hmm⟩ : ∃ m, ps.length = m := ⟨_, rfl⟩
  obtain ⟨n, hnl⟩ : ∃ n, l.length = n := ⟨_, rfl⟩
  obtain ⟨r, hnr⟩ : ∃ r, ns.length = r := ⟨_, rfl⟩
  have HM : Hid (ps.length = m ∧ l.length = n ∧ ns.length = r) := ⟨hmm, hnl, hnr⟩
  have HOwnP : Hid (∀ w', Below w.heap.size w w' → Calls Tryd.prog 16 #[.slice pa m pcap] w' fun e w'' => ∃ a' cap', e = .returned (.slice a' m cap') ∧ LiesP w'' a' ps ∧ m ≤ cap' ∧ cap' ≤ maxLen ∧ Below w'.heap.size w' w'' ∧ Below w.heap.size w w'') := fun w' hb => by
    have := ownPackets_from pa pcap ps w w' hb HP.out.1 (by omega) HP.out.2.1
    rwa [hmm] at this
  have HOwnS : Hid (∀ w', Below w.heap.size w w' → Calls Tryd.prog 13 #[.slice a n cap] w' fun e w'' => ∃ a' cap', e = .returned (.slice a' n cap') ∧ LiesS w'' a' l ∧ Below w'.heap.size w' w'' ∧ Below w.heap.size w w'') := fun w' hb => by
    have := ownSent_from a cap l w w' hb HL.out.1 (by omega) HL.out.2
    rwa [hnl] at this
  rw [hmm] at hm HFit HLate HPf HSf ⊢
  rw [hnl] at hll HTame HLate HSf ⊢
  rw [hnr] at hnn HLate HNe ⊢
  clear hmm hnl hnr
  have hll' : ¬ 100 < n := by omega
  have hnn' : ¬ 30 < r := by omega
  go_enter Tryd.func6, Tryd.ntmps6
  go_wp2_with fail
  refine (sends_any _).mono ?_
  rintro e w1 ⟨rfl, hb⟩
  have HB1 : Hid (Below w.heap.size w w1) := hb
  clear hb
  go_wp2_with fail
  refine (HFit.out _).mono ?_
  rintro e w1' ⟨rfl, rfl⟩
  go_wp2_with fail
  refine (HTame.out _ HB1.out).mono ?_
  rintro e w2 ⟨⟨rfl, htame⟩ | rfl, hb2⟩
  · have HB2 : Hid (Below w.heap.size w w2 ∧ tameAll l) := ⟨HB1.out.trans (hb2.mono HB1.out.size), htame⟩
    clear hb2 htame
    go_wp2_with fail
    refine (HOwnP.out _ HB2.out.1).mono ?_
    rintro e w3 ⟨a3, k3, rfl, l3, g3, m3, b3, B3⟩
    have HB3 : Hid (Below w.heap.size w w3 ∧ LiesP w3 a3 ps ∧ m ≤ k3 ∧ k3 ≤ maxLen) := ⟨B3, l3, g3, m3⟩
    clear l3 g3 m3 b3 B3
    go_wp2_with fail
    refine (HOwnS.out _ HB3.out.1).mono ?_
    rintro e w4 ⟨a4, k4, rfl, l4, b4, B4⟩
    have HB4 : Hid (Below w.heap.size w w4 ∧ LiesP w4 a3 ps ∧ LiesS w4 a4 l) := ⟨B4, HB3.out.2.1.below b4, l4⟩
    have HN4 : Hid (LiesN w4 na ns) := HN.out.1.below B4
    clear l4 b4 B4
    go_wp2_with (at_builtin; go_must (refine wpList_append_ints _ rfl _ _ 32 rfl 3 i0 (.int .i64 0) Tryd.underlying32 hi hz0 hz1 hz2 rfl na ncap r ns HM.out.2.2 rfl rfl HN4.out HN.out.2 (by omega) ?_; rintro a5 k5 w5 h5; have HB5 : Hid (Below w.heap.size w w5 ∧ LiesP w5 a3 ps ∧ LiesS w5 a4 l ∧ LiesN w5 a5 ns) := ⟨HB4.out.1.trans (h5.2.2.2.mono HB4.out.1.size), HB4.out.2.1.below h5.2.2.2, HB4.out.2.2.below h5.2.2.2, h5.1⟩; clear h5))
    refine (HLate.out w5 a3 k3 a4 k4 a5 k5 HB5.out.1 HB5.out.2.1 HB5.out.2.2.1 HB5.out.2.2.2 HB3.out.2.2.1 HB3.out.2.2.2 HB2.out.2).mono ?_
    rintro e w6 ⟨ty, v, rfl, hE6, b6⟩
    have HB6 : Hid (Below w.heap.size w w6 ∧ ErrIs w6 (.iface ty v) c p) := ⟨HB5.out.1.trans (b6.mono HB5.out.1.size), hE6⟩
    clear b6 hE6
    go_wp2_with fail
    refine (HPf.out _ HB6.out.1).mono ?_
    rintro e w7 ⟨rfl, b7⟩
    have HA7 : Hid (Below w6.heap.size w6 (w7.alloc (.cells #[.int .i64 0, .int .i64 (-1)] 39))) := b7.alloc b7.size _
    have HT7 : Hid (Two w7 (w7.alloc (.cells #[.int .i64 0, .int .i64 (-1)] 39)) (.int .i64 0) (.int .i64 (-1))) := two_new w7 _ _ _
    have HS7 : Hid (w6.heap.size ≤ w7.heap.size) := b7.size
    clear b7
    go_wp2_with fail
    refine (HNe.out _ (HB6.out.1.trans (HA7.out.mono HB6.out.1.size))).mono ?_
    rintro e w8 ⟨rfl, rfl⟩
    go_wp2_with fail
    refine (bare_any 0 _).mono ?_
    rintro e w8 ⟨rfl, b8⟩
    obtain ⟨k0, k1, f0, f1⟩ := HT7.out.later b8
    have HA8' : Hid (Below w6.heap.size w6 w8) := HA7.out.trans (b8.mono HA7.out.size)
    clear b8
    have HAs : Hid (Below w6.heap.size w6 ((w8.setCell ⟨w7.heap.size, 0, none⟩ (.int .i64 0)).setCell ⟨w7.heap.size, 1, none⟩ (.int .i64 (-1)))) := (HA8'.out.setCell HS7.out _).setCell HS7.out _
    have HT8 : Hid (Two w7 ((w8.setCell ⟨w7.heap.size, 0, none⟩ (.int .i64 0)).setCell ⟨w7.heap.size, 1, none⟩ (.int .i64 (-1))) (.int .i64 0) (.int .i64 (-1))) := two_set ⟨k0, k1, f0, f1⟩ _ _
    go_wp2_with fail
    refine (HSf.out _ (HB6.out.1.trans (HAs.out.mono HB6.out.1.size))).mono ?_
    rintro e w10 ⟨rfl, b10⟩
    obtain ⟨q0, q1, r0, r1⟩ := HT8.out.later b10
    have HA8b : Hid (Below w6.heap.size w6 w10) := HAs.out.trans (b10.mono HAs.out.size)
    clear b10
    have HA8 : Hid (Below w6.heap.size w6 ((w10.setCell ⟨w7.heap.size, 0, none⟩ (.int .i64 c)).setCell ⟨w7.heap.size, 1, none⟩ (.int .i64 p))) := (HA8b.out.setCell HS7.out _).setCell HS7.out _
    go_wp2_with fail
    refine (faulted_yes (.iface ty v) c p _ (HB6.out.2.code.below HA8.out)).mono ?_
    rintro e w9 ⟨rfl, b9⟩
    have HB9 : Hid (Below w.heap.size w w9) := HB6.out.1.trans ((HA8.out.trans (b9.mono HA8.out.size)).mono HB6.out.1.size)
    clear b9
    go_wp2_with fail
    go_ret
    exact ⟨rfl, HB9.out⟩
  · have HB2 : Hid (Below w.heap.size w w2) := HB1.out.trans (hb2.mono HB1.out.size)
    clear hb2
    go_wp2_with fail
    go_ret
    exact ⟨rfl, HB2.out⟩

set_option maxRecDepth 100000 in
set_option maxHeartbeats 4000000 in
theorem lateLaw_ok (pa : Option Addr) (pcap : Nat) (ps : List Pk) (a : Option Addr) (cap : Nat) (l : List Sn) (na : Option Addr) (ncap : Nat) (ns : List Int) (w : World) (ad : Nat → Addr) (he : Errs9 w ad) (hp : LiesP w pa ps) (hpa : pa = none → ps = [] ∧ pcap = 0) (hpc : ps.length ≤ pcap) (hpm : pcap ≤ maxLen) (hl : LiesS w a l) (hla : a = none → l = [] ∧ cap = 0) (hn : LiesN w na ns) (hna : na = none → ns = [] ∧ ncap = 0) (hm : ps.length ≤ 80 ∨ ps.length = 301) (hll : l.length ≤ 100) (hnn : ns.length ≤ 30) (ho : OkPks ps) (hk : NumsOk 0 1099511627776 ns) (hs : ∀ (i : Nat) x, l[i]? = some x → named ps.length x = true) :
    Calls Tryd.prog 6 #[.slice pa ps.length pcap, .slice a l.length cap, .slice na ns.length ncap] w fun e w' => e = .returned (.bool true) ∧ Below w.heap.size w w' := by
  obtain ⟨i0, hi, hz0, hz1, hz2⟩ := info_parts Tryd.infoInt
  have HE : Hid (Errs9 w ad) := he
  have HP : Hid (LiesP w pa ps ∧ (pa = none → ps = [] ∧ pcap = 0) ∧ ps.length ≤ pcap ∧ pcap ≤ maxLen) := ⟨hp, hpa, hpc, hpm⟩
  have HL : Hid (LiesS w a l ∧ (a = none → l = [] ∧ cap = 0)) := ⟨hl, hla⟩
  have HN : Hid (LiesN w na ns ∧ (na = none → ns = [] ∧ ncap = 0)) := ⟨hn, hna⟩
  have HFit : Hid (∀ w', Calls Tryd.prog 19 #[.slice pa ps.length pcap, .int .i64 80] w' fun e w'' => e = .returned (.bool true) ∧ w'' = w') := fun w' => fitPkts_yes pa ps.length pcap 80 w' (Nat.le_trans hpc hpm) (by omega)
  have HTame : Hid (∀ w', Below w.heap.size w w' → Calls Tryd.prog 11 #[.slice a l.length cap] w' fun e w'' => TameEnd l w' e w'') := fun w' hb => tameSent_any a cap l w' (hl.below hb) (by omega)
  obtain ⟨N, hN⟩ : ∃ N, lateAll ps ns l = N := ⟨_, rfl⟩
  have HLate : Hid (∀ W a3 k3 a4 k4 a5 k5, Below w.heap.size w W → LiesP W a3 ps → LiesS W a4 l → LiesN W a5 ns → tameAll l → Calls Tryd.prog 24 #[.slice a3 ps.length k3, .slice a4 l.length k4, .slice a5 ns.length k5] W fun e w' => e = .returned (.tuple #[.int .i64 N, .nilIface]) ∧ Below W.heap.size W w') := fun W a3 k3 a4 k4 a5 k5 hb h1 h2 h3 h6 => by
    refine (late_any a3 k3 ps a4 k4 l a5 k5 ns W ad (he.below hb).c3 h1 h2 h3 ho hk (by omega) h6).mono ?_
    rintro e w' ⟨hb, ⟨rfl, -⟩ | ⟨j, x, F, hx, -, hbad, -⟩⟩
    · exact ⟨by rw [hN], hb⟩
    · rw [hs j x hx] at hbad; cases hbad
  have HPf : Hid (∀ W, Below w.heap.size w W → Calls Tryd.prog 25 #[.slice pa ps.length pcap] W fun e w' => e = .returned (.agg #[.int .i64 0, .int .i64 (-1)]) ∧ Below W.heap.size W w') := fun W hb => pfault_is pa pcap ps W (hp.below hb) hpc hpm 0 (-1) (.inr (.inr ⟨ho, rfl, rfl⟩))
  have HNe : Hid (∀ W, Below w.heap.size w W → Calls Tryd.prog 27 #[.slice na ns.length ncap, .int .i64 0, .int .i64 1099511627776] W fun e w' => e = .returned (.int .i64 (0 : Int)) ∧ w' = W) := fun W hb => numbersError_is na ncap ns 0 1099511627776 W (hn.below hb) 0 (.inr (.inr ⟨rfl, hk⟩))
  have HSf : Hid (∀ W, Below w.heap.size w W → Calls Tryd.prog 17 #[.slice pa ps.length pcap, .slice a l.length cap] W fun e w' => e = .returned (.agg #[.int .i64 0, .int .i64 (-1)]) ∧ Below W.heap.size W w') := fun W hb => sentFault_any pa ps.length pcap a cap l W (hl.below hb) (by omega) (by have := ho.few; omega) 0 (-1) (.inr ⟨hs, rfl, rfl⟩)
  have HOf : Hid (∀ W, Below w.heap.size w W → tameAll l → Calls Tryd.prog 28 #[.slice pa ps.length pcap, .slice a l.length cap, .slice na ns.length ncap] W fun e w' => e = .returned (.int .i64 N) ∧ Below W.heap.size W w') := fun W hb ht => by
    rw [← hN]
    exact lateOf_any pa pcap ps a cap l na ncap ns W (hp.below hb) (hl.below hb) (hn.below hb) ho hk (by omega) ht hs
  have hNN : (N == N) = true := by simp
  clear hk ho hs hN
  clear he hp hpa hpc hpm hl hla hn hna
  obtain ⟨m, hmm⟩ : ∃ m, ps.length = m := ⟨_, rfl⟩
  obtain ⟨n, hnl⟩ : ∃ n, l.length = n := ⟨_, rfl⟩
  obtain ⟨r, hnr⟩ : ∃ r, ns.length = r := ⟨_, rfl⟩
  have HM : Hid (ps.length = m ∧ l.length = n ∧ ns.length = r) := ⟨hmm, hnl, hnr⟩
  have HOwnP : Hid (∀ w', Below w.heap.size w w' → Calls Tryd.prog 16 #[.slice pa m pcap] w' fun e w'' => ∃ a' cap', e = .returned (.slice a' m cap') ∧ LiesP w'' a' ps ∧ m ≤ cap' ∧ cap' ≤ maxLen ∧ Below w'.heap.size w' w'' ∧ Below w.heap.size w w'') := fun w' hb => by
    have := ownPackets_from pa pcap ps w w' hb HP.out.1 (by omega) HP.out.2.1
    rwa [hmm] at this
  have HOwnS : Hid (∀ w', Below w.heap.size w w' → Calls Tryd.prog 13 #[.slice a n cap] w' fun e w'' => ∃ a' cap', e = .returned (.slice a' n cap') ∧ LiesS w'' a' l ∧ Below w'.heap.size w' w'' ∧ Below w.heap.size w w'') := fun w' hb => by
    have := ownSent_from a cap l w w' hb HL.out.1 (by omega) HL.out.2
    rwa [hnl] at this
  rw [hmm] at hm HFit HLate HPf HSf HOf ⊢
  rw [hnl] at hll HTame HLate HSf HOf ⊢
  rw [hnr] at hnn HLate HNe HOf ⊢
  clear hmm hnl hnr
  have hll' : ¬ 100 < n := by omega
  have hnn' : ¬ 30 < r := by omega
  go_enter Tryd.func6, Tryd.ntmps6
  go_wp2_with fail
  refine (sends_any _).mono ?_
  rintro e w1 ⟨rfl, hb⟩
  have HB1 : Hid (Below w.heap.size w w1) := hb
  clear hb
  go_wp2_with fail
  refine (HFit.out _).mono ?_
  rintro e w1' ⟨rfl, rfl⟩
  go_wp2_with fail
  refine (HTame.out _ HB1.out).mono ?_
  rintro e w2 ⟨⟨rfl, htame⟩ | rfl, hb2⟩
  · have HB2 : Hid (Below w.heap.size w w2 ∧ tameAll l) := ⟨HB1.out.trans (hb2.mono HB1.out.size), htame⟩
    clear hb2 htame
    go_wp2_with fail
    refine (HOwnP.out _ HB2.out.1).mono ?_
    rintro e w3 ⟨a3, k3, rfl, l3, g3, m3, b3, B3⟩
    have HB3 : Hid (Below w.heap.size w w3 ∧ LiesP w3 a3 ps ∧ m ≤ k3 ∧ k3 ≤ maxLen) := ⟨B3, l3, g3, m3⟩
    clear l3 g3 m3 b3 B3
    go_wp2_with fail
    refine (HOwnS.out _ HB3.out.1).mono ?_
    rintro e w4 ⟨a4, k4, rfl, l4, b4, B4⟩
    have HB4 : Hid (Below w.heap.size w w4 ∧ LiesP w4 a3 ps ∧ LiesS w4 a4 l) := ⟨B4, HB3.out.2.1.below b4, l4⟩
    have HN4 : Hid (LiesN w4 na ns) := HN.out.1.below B4
    clear l4 b4 B4
    go_wp2_with (at_builtin; go_must (refine wpList_append_ints _ rfl _ _ 32 rfl 3 i0 (.int .i64 0) Tryd.underlying32 hi hz0 hz1 hz2 rfl na ncap r ns HM.out.2.2 rfl rfl HN4.out HN.out.2 (by omega) ?_; rintro a5 k5 w5 h5; have HB5 : Hid (Below w.heap.size w w5 ∧ LiesP w5 a3 ps ∧ LiesS w5 a4 l ∧ LiesN w5 a5 ns) := ⟨HB4.out.1.trans (h5.2.2.2.mono HB4.out.1.size), HB4.out.2.1.below h5.2.2.2, HB4.out.2.2.below h5.2.2.2, h5.1⟩; clear h5))
    refine (HLate.out w5 a3 k3 a4 k4 a5 k5 HB5.out.1 HB5.out.2.1 HB5.out.2.2.1 HB5.out.2.2.2 HB2.out.2).mono ?_
    rintro e w6 ⟨rfl, b6⟩
    have HB6 : Hid (Below w.heap.size w w6) := HB5.out.1.trans (b6.mono HB5.out.1.size)
    clear b6
    go_wp2_with fail
    refine (HPf.out _ HB6.out).mono ?_
    rintro e w7 ⟨rfl, b7⟩
    have HA7 : Hid (Below w6.heap.size w6 (w7.alloc (.cells #[.int .i64 0, .int .i64 (-1)] 39))) := b7.alloc b7.size _
    have HT7 : Hid (Two w7 (w7.alloc (.cells #[.int .i64 0, .int .i64 (-1)] 39)) (.int .i64 0) (.int .i64 (-1))) := two_new w7 _ _ _
    have HS7 : Hid (w6.heap.size ≤ w7.heap.size) := b7.size
    clear b7
    go_wp2_with fail
    refine (HNe.out _ (HB6.out.trans (HA7.out.mono HB6.out.size))).mono ?_
    rintro e w8 ⟨rfl, rfl⟩
    go_wp2_with fail
    refine (bare_any 0 _).mono ?_
    rintro e w8 ⟨rfl, b8⟩
    obtain ⟨k0, k1, f0, f1⟩ := HT7.out.later b8
    have HA8' : Hid (Below w6.heap.size w6 w8) := HA7.out.trans (b8.mono HA7.out.size)
    clear b8
    have HAs : Hid (Below w6.heap.size w6 ((w8.setCell ⟨w7.heap.size, 0, none⟩ (.int .i64 0)).setCell ⟨w7.heap.size, 1, none⟩ (.int .i64 (-1)))) := (HA8'.out.setCell HS7.out _).setCell HS7.out _
    have HT8 : Hid (Two w7 ((w8.setCell ⟨w7.heap.size, 0, none⟩ (.int .i64 0)).setCell ⟨w7.heap.size, 1, none⟩ (.int .i64 (-1))) (.int .i64 0) (.int .i64 (-1))) := two_set ⟨k0, k1, f0, f1⟩ _ _
    go_wp2_with fail
    refine (HSf.out _ (HB6.out.trans (HAs.out.mono HB6.out.size))).mono ?_
    rintro e w10 ⟨rfl, b10⟩
    obtain ⟨q0, q1, r0, r1⟩ := HT8.out.later b10
    have HA8b : Hid (Below w6.heap.size w6 w10) := HAs.out.trans (b10.mono HAs.out.size)
    clear b10
    have HA8 : Hid (Below w6.heap.size w6 ((w10.setCell ⟨w7.heap.size, 0, none⟩ (.int .i64 0)).setCell ⟨w7.heap.size, 1, none⟩ (.int .i64 (-1)))) := (HA8b.out.setCell HS7.out _).setCell HS7.out _
    go_wp2_with fail
    refine (HOf.out _ (HB6.out.trans (HA8.out.mono HB6.out.size)) HB2.out.2).mono ?_
    rintro e w9 ⟨rfl, b9⟩
    have HB9 : Hid (Below w.heap.size w w9) := HB6.out.trans ((HA8.out.trans (b9.mono HA8.out.size)).mono HB6.out.size)
    clear b9
    go_wp2_with fail
    go_ret
    exact ⟨rfl, HB9.out⟩
  · have HB2 : Hid (Below w.heap.size w w2) := HB1.out.trans (hb2.mono HB1.out.size)
    clear hb2
    go_wp2_with fail
    go_ret
    exact ⟨rfl, HB2.out⟩

end Go.Proofs.YtcldgpbimaoliabDoor
