/- RoundRuns: its long ways. -/
import Derived.Test.YtepnfioldbhffabDoorCRnLaw1
namespace Go.Proofs.YtepnfioldbhffabDoor
open Go.RowKit

set_option maxRecDepth 100000 in
set_option maxHeartbeats 4000000 in
theorem rnLaw_badL (pa : Option Addr) (pcap : Nat) (ps : List Pk) (per : Int) (na : Option Addr) (ncap : Nat) (ns : List Int) (x y : Int) (w : World) (ad : Nat → Addr) (he : Errs9 w ad) (hp : LiesP w pa ps) (hpa : pa = none → ps = [] ∧ pcap = 0) (hpc : ps.length ≤ pcap) (hpm : pcap ≤ maxLen) (hn : LiesN w na ns) (hna : na = none → ns = [] ∧ ncap = 0) (hm : ps.length ≤ 60 ∨ ps.length = 301) (hnn : ns.length ≤ 30) (c p : Int) (hf : LinkFaultIs ps per c p) (hc : 0 < c) :
    Calls Tryd.prog 12 #[.slice pa ps.length pcap, .int .i64 per, .slice na ns.length ncap, .int .i64 x, .int .i64 y] w fun e w' => e = .returned (.bool true) ∧ Below w.heap.size w w' := by
  obtain ⟨i0, hi, hz0, hz1, hz2⟩ := info_parts Tryd.infoInt
  have HP : Hid (LiesP w pa ps ∧ (pa = none → ps = [] ∧ pcap = 0)) := ⟨hp, hpa⟩
  have HN : Hid (LiesN w na ns ∧ (na = none → ns = [] ∧ ncap = 0)) := ⟨hn, hna⟩
  have HFit : Hid (∀ w', Calls Tryd.prog 24 #[.slice pa ps.length pcap, .int .i64 60] w' fun e w'' => e = .returned (.bool true) ∧ w'' = w') := fun w' => fitPkts_yes pa ps.length pcap 60 w' (Nat.le_trans hpc hpm) (by omega)
  have HRun : Hid (∀ W a3 k3 a5 k5, Below w.heap.size w W → LiesP W a3 ps → LiesN W a5 ns → ps.length ≤ k3 → k3 ≤ maxLen → Calls Tryd.prog 42 #[.slice a3 ps.length k3, .int .i64 per, .slice a5 ns.length k5] W fun e w' => ∃ ty v, e = .returned (.tuple #[.slice none 0 0, .iface ty v]) ∧ (ErrIs w' (.iface ty v) c p ∧ Below W.heap.size W w')) := fun W a3 k3 a5 k5 hb g1 g2 g3 g4 => roundRun_isL a3 k3 ps per a5 _ k5 W ad (he.below hb) g1 g3 g4 c p hf hc
  have HLf : Hid (∀ W, Below w.heap.size w W → Calls Tryd.prog 26 #[.slice pa ps.length pcap, .int .i64 per] W fun e w' => e = .returned (.agg #[.int .i64 c, .int .i64 p]) ∧ Below W.heap.size W w') := fun W hb => refLinkFault_is pa pcap ps per c p W (hp.below hb) hpc hpm hf
  have hc0 : (c == 0) = false := by simpa using (show c ≠ 0 by omega)
  clear hf
  clear hp hpa hpc hpm hn hna he
  obtain ⟨m, hmm⟩ : ∃ m, ps.length = m := ⟨_, rfl⟩
  obtain ⟨r, hnr⟩ : ∃ r, ns.length = r := ⟨_, rfl⟩
  have HM : Hid (ps.length = m ∧ ns.length = r) := ⟨hmm, hnr⟩
  have HOwnP : Hid (∀ w', Below w.heap.size w w' → Calls Tryd.prog 21 #[.slice pa m pcap] w' fun e w'' => ∃ a' cap', e = .returned (.slice a' m cap') ∧ LiesP w'' a' ps ∧ m ≤ cap' ∧ cap' ≤ maxLen ∧ Below w'.heap.size w' w'' ∧ Below w.heap.size w w'') := fun w' hb => by
    have := ownPackets_from pa pcap ps w w' hb HP.out.1 (by omega) HP.out.2
    rwa [hmm] at this
  rw [hmm] at hm HFit HRun HLf ⊢
  rw [hnr] at hnn HRun ⊢
  clear hmm hnr
  have hnn' : ¬ 30 < r := by omega
  go_enter Tryd.func12, Tryd.ntmps12
  go_wp2_with fail
  refine (turned_any _).mono ?_
  rintro e w1 ⟨rfl, hb⟩
  have HB1 : Hid (Below w.heap.size w w1) := hb
  clear hb
  go_wp2_with fail
  refine (HFit.out _).mono ?_
  rintro e w1' ⟨rfl, rfl⟩
  go_wp2_with fail
  refine (HOwnP.out _ HB1.out).mono ?_
  rintro e w3 ⟨a3, k3, rfl, l3, g3, m3, b3, B3⟩
  have HB3 : Hid (Below w.heap.size w w3 ∧ LiesP w3 a3 ps ∧ m ≤ k3 ∧ k3 ≤ maxLen) := ⟨B3, l3, g3, m3⟩
  have HN3 : Hid (LiesN w3 na ns) := HN.out.1.below B3
  clear l3 g3 m3 b3 B3
  go_wp2_with (at_builtin; go_must (refine wpList_append_ints _ rfl _ _ 32 rfl 3 i0 (.int .i64 0) Tryd.underlying32 hi hz0 hz1 hz2 rfl na ncap r ns HM.out.2 rfl rfl HN3.out HN.out.2 (by omega) ?_; rintro a4 k4 w4 h4; have HB4 : Hid (Below w.heap.size w w4 ∧ LiesP w4 a3 ps ∧ LiesN w4 a4 ns) := ⟨HB3.out.1.trans (h4.2.2.2.mono HB3.out.1.size), HB3.out.2.1.below h4.2.2.2, h4.1⟩; clear h4))
  refine (HRun.out w4 a3 k3 a4 k4 HB4.out.1 HB4.out.2.1 HB4.out.2.2 HB3.out.2.2.1 HB3.out.2.2.2).mono ?_
  rintro e w5 ⟨ty, v, rfl, hE5, b5⟩
  have HB5 : Hid (Below w.heap.size w w5 ∧ ErrIs w5 (.iface ty v) c p) := ⟨HB4.out.1.trans (b5.mono HB4.out.1.size), hE5⟩
  clear b5 hE5
  go_wp2_with fail
  refine (HLf.out _ HB5.out.1).mono ?_
  rintro e w6 ⟨rfl, b6⟩
  have HX6 : Hid (Below w5.heap.size w5 (w6.alloc (.cells #[.int .i64 c, .int .i64 p] 39)) ∧ At2 (w6.alloc (.cells #[.int .i64 c, .int .i64 p] 39)) w6.heap.size (.int .i64 c) (.int .i64 p) ∧ w5.heap.size ≤ w6.heap.size) := ⟨b6.alloc b6.size _, at2_new w6 _ _ _, b6.size⟩
  clear b6
  go_wp2_with fail
  refine (faulted_yes (.iface ty v) c p _ (HB5.out.2.code.below HX6.out.1)).mono ?_
  rintro e w9 ⟨rfl, b9⟩
  have HB9 : Hid (Below w.heap.size w w9) := HB5.out.1.trans ((HX6.out.1.trans (b9.mono HX6.out.1.size)).mono HB5.out.1.size)
  clear b9
  go_wp2_with fail
  go_ret
  exact ⟨rfl, HB9.out⟩

set_option maxRecDepth 100000 in
set_option maxHeartbeats 4000000 in
theorem rnLaw_badN (pa : Option Addr) (pcap : Nat) (ps : List Pk) (per : Int) (na : Option Addr) (ncap : Nat) (ns : List Int) (x y : Int) (w : World) (ad : Nat → Addr) (he : Errs9 w ad) (hp : LiesP w pa ps) (hpa : pa = none → ps = [] ∧ pcap = 0) (hpc : ps.length ≤ pcap) (hpm : pcap ≤ maxLen) (hn : LiesN w na ns) (hna : na = none → ns = [] ∧ ncap = 0) (hm : ps.length ≤ 60 ∨ ps.length = 301) (hnn : ns.length ≤ 30) (ho : OkPks ps) (h1 : 1 ≤ per) (h2 : per ≤ 1000) (j : Nat) (hj : NumsFault 1 3000 ns j) (hj0 : 0 < j) :
    Calls Tryd.prog 12 #[.slice pa ps.length pcap, .int .i64 per, .slice na ns.length ncap, .int .i64 x, .int .i64 y] w fun e w' => e = .returned (.bool true) ∧ Below w.heap.size w w' := by
  obtain ⟨i0, hi, hz0, hz1, hz2⟩ := info_parts Tryd.infoInt
  have HP : Hid (LiesP w pa ps ∧ (pa = none → ps = [] ∧ pcap = 0)) := ⟨hp, hpa⟩
  have HN : Hid (LiesN w na ns ∧ (na = none → ns = [] ∧ ncap = 0)) := ⟨hn, hna⟩
  have HFit : Hid (∀ w', Calls Tryd.prog 24 #[.slice pa ps.length pcap, .int .i64 60] w' fun e w'' => e = .returned (.bool true) ∧ w'' = w') := fun w' => fitPkts_yes pa ps.length pcap 60 w' (Nat.le_trans hpc hpm) (by omega)
  have HRun : Hid (∀ W a3 k3 a5 k5, Below w.heap.size w W → LiesP W a3 ps → LiesN W a5 ns → ps.length ≤ k3 → k3 ≤ maxLen → Calls Tryd.prog 42 #[.slice a3 ps.length k3, .int .i64 per, .slice a5 ns.length k5] W fun e w' => ∃ ty v, e = .returned (.tuple #[.slice none 0 0, .iface ty v]) ∧ (ErrIs w' (.iface ty v) (j : Int) (-1) ∧ Below W.heap.size W w')) := fun W a3 k3 a5 k5 hb g1 g2 g3 g4 => roundRun_isN a3 k3 ps per a5 k5 ns W ad (he.below hb) g1 g2 ho h1 h2 j hj hj0
  have HLf : Hid (∀ W, Below w.heap.size w W → Calls Tryd.prog 26 #[.slice pa ps.length pcap, .int .i64 per] W fun e w' => e = .returned (.agg #[.int .i64 0, .int .i64 (-1)]) ∧ Below W.heap.size W w') := fun W hb => refLinkFault_is pa pcap ps per 0 (-1) W (hp.below hb) hpc hpm (.inr (.inr ⟨ho, h1, h2, rfl, rfl⟩))
  have HNe : Hid (∀ W, Below w.heap.size w W → Calls Tryd.prog 32 #[.slice na ns.length ncap, .int .i64 1, .int .i64 3000] W fun e w' => e = .returned (.int .i64 (j : Int)) ∧ w' = W) := fun W hb => numbersError_is na ncap ns 1 3000 W (hn.below hb) j hj
  obtain ⟨c, hc⟩ : ∃ c : Int, (j : Int) = c := ⟨_, rfl⟩
  have hc1 : 0 < c := by omega
  rw [hc] at HRun HNe
  have hc0 : (c == 0) = false := by simpa using (show c ≠ 0 by omega)
  clear ho hj hc hj0
  clear hp hpa hpc hpm hn hna he
  obtain ⟨m, hmm⟩ : ∃ m, ps.length = m := ⟨_, rfl⟩
  obtain ⟨r, hnr⟩ : ∃ r, ns.length = r := ⟨_, rfl⟩
  have HM : Hid (ps.length = m ∧ ns.length = r) := ⟨hmm, hnr⟩
  have HOwnP : Hid (∀ w', Below w.heap.size w w' → Calls Tryd.prog 21 #[.slice pa m pcap] w' fun e w'' => ∃ a' cap', e = .returned (.slice a' m cap') ∧ LiesP w'' a' ps ∧ m ≤ cap' ∧ cap' ≤ maxLen ∧ Below w'.heap.size w' w'' ∧ Below w.heap.size w w'') := fun w' hb => by
    have := ownPackets_from pa pcap ps w w' hb HP.out.1 (by omega) HP.out.2
    rwa [hmm] at this
  rw [hmm] at hm HFit HRun HLf ⊢
  rw [hnr] at hnn HRun HNe ⊢
  clear hmm hnr
  have hnn' : ¬ 30 < r := by omega
  go_enter Tryd.func12, Tryd.ntmps12
  go_wp2_with fail
  refine (turned_any _).mono ?_
  rintro e w1 ⟨rfl, hb⟩
  have HB1 : Hid (Below w.heap.size w w1) := hb
  clear hb
  go_wp2_with fail
  refine (HFit.out _).mono ?_
  rintro e w1' ⟨rfl, rfl⟩
  go_wp2_with fail
  refine (HOwnP.out _ HB1.out).mono ?_
  rintro e w3 ⟨a3, k3, rfl, l3, g3, m3, b3, B3⟩
  have HB3 : Hid (Below w.heap.size w w3 ∧ LiesP w3 a3 ps ∧ m ≤ k3 ∧ k3 ≤ maxLen) := ⟨B3, l3, g3, m3⟩
  have HN3 : Hid (LiesN w3 na ns) := HN.out.1.below B3
  clear l3 g3 m3 b3 B3
  go_wp2_with (at_builtin; go_must (refine wpList_append_ints _ rfl _ _ 32 rfl 3 i0 (.int .i64 0) Tryd.underlying32 hi hz0 hz1 hz2 rfl na ncap r ns HM.out.2 rfl rfl HN3.out HN.out.2 (by omega) ?_; rintro a4 k4 w4 h4; have HB4 : Hid (Below w.heap.size w w4 ∧ LiesP w4 a3 ps ∧ LiesN w4 a4 ns) := ⟨HB3.out.1.trans (h4.2.2.2.mono HB3.out.1.size), HB3.out.2.1.below h4.2.2.2, h4.1⟩; clear h4))
  refine (HRun.out w4 a3 k3 a4 k4 HB4.out.1 HB4.out.2.1 HB4.out.2.2 HB3.out.2.2.1 HB3.out.2.2.2).mono ?_
  rintro e w5 ⟨ty, v, rfl, hE5, b5⟩
  have HB5 : Hid (Below w.heap.size w w5 ∧ ErrIs w5 (.iface ty v) c (-1)) := ⟨HB4.out.1.trans (b5.mono HB4.out.1.size), hE5⟩
  clear b5 hE5
  go_wp2_with fail
  refine (HLf.out _ HB5.out.1).mono ?_
  rintro e w6 ⟨rfl, b6⟩
  have HX6 : Hid (Below w5.heap.size w5 (w6.alloc (.cells #[.int .i64 0, .int .i64 (-1)] 39)) ∧ At2 (w6.alloc (.cells #[.int .i64 0, .int .i64 (-1)] 39)) w6.heap.size (.int .i64 0) (.int .i64 (-1)) ∧ w5.heap.size ≤ w6.heap.size) := ⟨b6.alloc b6.size _, at2_new w6 _ _ _, b6.size⟩
  clear b6
  go_wp2_with fail
  refine (HNe.out _ (HB5.out.1.trans (HX6.out.1.mono HB5.out.1.size))).mono ?_
  rintro e w7' ⟨rfl, hw7⟩
  rw [hw7]
  clear hw7
  go_wp2_with fail
  refine (bare_any c _).mono ?_
  rintro e w7 ⟨rfl, b7⟩
  obtain ⟨k0, k1, f0, f1⟩ := HX6.out.2.1.later b7
  have HX7 : Hid (Below w5.heap.size w5 ((w7.setCell ⟨w6.heap.size, 0, none⟩ (.int .i64 c)).setCell ⟨w6.heap.size, 1, none⟩ (.int .i64 (-1)))) := ((HX6.out.1.trans (b7.mono HX6.out.1.size)).setCell HX6.out.2.2 _).setCell HX6.out.2.2 _
  clear b7
  go_wp2_with fail
  refine (faulted_yes (.iface ty v) c (-1) _ (HB5.out.2.code.below HX7.out)).mono ?_
  rintro e w9 ⟨rfl, b9⟩
  have HB9 : Hid (Below w.heap.size w w9) := HB5.out.1.trans ((HX7.out.trans (b9.mono HX7.out.size)).mono HB5.out.1.size)
  clear b9
  go_wp2_with fail
  go_ret
  exact ⟨rfl, HB9.out⟩

end Go.Proofs.YtepnfioldbhffabDoor
