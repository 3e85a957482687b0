/- FairRuns: its long ways. -/
import Derived.Test.YtcmgmcngidndcabDoorCFrLaw1
namespace Go.Proofs.YtcmgmcngidndcabDoor
open Go.RowKit

set_option maxRecDepth 100000 in
set_option maxHeartbeats 4000000 in
theorem frLaw_badL (pa : Option Addr) (pcap : Nat) (ps : List Pk) (per : Int) (na : Option Addr) (ncap : Nat) (ns : List Int) (w : World) (ad : Nat → Addr) (he : Errs9 w ad) (hp : LiesP w pa ps) (hpa : pa = none → ps = [] ∧ pcap = 0) (hpc : ps.length ≤ pcap) (hpm : pcap ≤ maxLen) (hn : LiesN w na ns) (hna : na = none → ns = [] ∧ ncap = 0) (hm : ps.length ≤ 80 ∨ ps.length = 301) (hnn : ns.length ≤ 30) (c p : Int) (hf : LinkFaultIs ps per c p) (hc : 0 < c) :
    Calls Tryd.prog 14 #[.slice pa ps.length pcap, .int .i64 per, .slice na ns.length ncap] w fun e w' => e = .returned (.bool true) ∧ Below w.heap.size w w' := by
  obtain ⟨i0, hi, hz0, hz1, hz2⟩ := info_parts Tryd.infoInt
  have HP : Hid (LiesP w pa ps ∧ (pa = none → ps = [] ∧ pcap = 0)) := ⟨hp, hpa⟩
  have HN : Hid (LiesN w na ns ∧ (na = none → ns = [] ∧ ncap = 0)) := ⟨hn, hna⟩
  have HFit : Hid (∀ w', Calls Tryd.prog 24 #[.slice pa ps.length pcap, .int .i64 80] w' fun e w'' => e = .returned (.bool true) ∧ w'' = w') := fun w' => fitPkts_yes pa ps.length pcap 80 w' (Nat.le_trans hpc hpm) (by omega)
  have HRun : Hid (∀ W a3 k3 a5 k5, Below w.heap.size w W → LiesP W a3 ps → LiesN W a5 ns → ps.length ≤ k3 → k3 ≤ maxLen → Calls Tryd.prog 46 #[.slice a3 ps.length k3, .int .i64 per, .slice a5 ns.length k5] W fun e w' => ∃ ty v, e = .returned (.tuple #[.slice none 0 0, .iface ty v]) ∧ (ErrIs w' (.iface ty v) c p ∧ Below W.heap.size W w')) := fun W a3 k3 a5 k5 hb g1 g2 g3 g4 => fairRun_err (R := fun ty v w' => ErrIs w' (.iface ty v) c p ∧ Below W.heap.size W w') a3 _ k3 per a5 _ k5 W (fairCheck_isL a3 k3 ps per a5 _ k5 W ad (he.below hb) g1 g3 g4 c p hf hc)
  have HTags : Hid (∀ W a3 k3 a5 k5, Below w.heap.size w W → LiesP W a3 ps → LiesN W a5 ns → ps.length ≤ k3 → k3 ≤ maxLen → Calls Tryd.prog 47 #[.slice a3 ps.length k3, .int .i64 per, .slice a5 ns.length k5] W fun e w' => ∃ ty v, e = .returned (.tuple #[.slice none 0 0, .iface ty v]) ∧ (ErrIs w' (.iface ty v) c p ∧ Below W.heap.size W w')) := fun W a3 k3 a5 k5 hb g1 g2 g3 g4 => fairTags_err (R := fun ty v w' => ErrIs w' (.iface ty v) c p ∧ Below W.heap.size W w') a3 _ k3 per a5 _ k5 W (fairCheck_isL a3 k3 ps per a5 _ k5 W ad (he.below hb) g1 g3 g4 c p hf hc)
  have HLf : Hid (∀ W, Below w.heap.size w W → Calls Tryd.prog 26 #[.slice pa ps.length pcap, .int .i64 per] W fun e w' => e = .returned (.agg #[.int .i64 c, .int .i64 p]) ∧ Below W.heap.size W w') := fun W hb => refLinkFault_is pa pcap ps per c p W (hp.below hb) hpc hpm hf
  have hc0 : (c == 0) = false := by simpa using (show c ≠ 0 by omega)
  clear hf
  clear hp hpa hpc hpm hn hna he
  obtain ⟨m, hmm⟩ : ∃ m, ps.length = m := ⟨_, rfl⟩
  obtain ⟨r, hnr⟩ : ∃ r, ns.length = r := ⟨_, rfl⟩
  have HM : Hid (ps.length = m ∧ ns.length = r) := ⟨hmm, hnr⟩
  have HOwnP : Hid (∀ w', Below w.heap.size w w' → Calls Tryd.prog 21 #[.slice pa m pcap] w' fun e w'' => ∃ a' cap', e = .returned (.slice a' m cap') ∧ LiesP w'' a' ps ∧ m ≤ cap' ∧ cap' ≤ maxLen ∧ Below w'.heap.size w' w'' ∧ Below w.heap.size w w'') := fun w' hb => by
    have := ownPackets_from pa pcap ps w w' hb HP.out.1 (by omega) HP.out.2
    rwa [hmm] at this
  rw [hmm] at hm HFit HRun HTags HLf ⊢
  rw [hnr] at hnn HRun HTags ⊢
  clear hmm hnr
  have hnn' : ¬ 30 < r := by omega
  go_enter Tryd.func14, Tryd.ntmps14
  go_wp2_with fail
  refine (tagged_any _).mono ?_
  rintro e w1 ⟨rfl, hb⟩
  have HB1 : Hid (Below w.heap.size w w1) := hb
  clear hb
  go_wp2_with fail
  refine (HFit.out _).mono ?_
  rintro e w1' ⟨rfl, rfl⟩
  go_wp2_with fail
  refine (HOwnP.out _ HB1.out).mono ?_
  rintro e w3 ⟨a3, k3, rfl, l3, g3, m3, b3, B3⟩
  have HB3 : Hid (Below w.heap.size w w3 ∧ LiesP w3 a3 ps ∧ m ≤ k3 ∧ k3 ≤ maxLen) := ⟨B3, l3, g3, m3⟩
  have HN3 : Hid (LiesN w3 na ns) := HN.out.1.below B3
  clear l3 g3 m3 b3 B3
  go_wp2_with (at_builtin; go_must (refine wpList_append_ints _ rfl _ _ 32 rfl 3 i0 (.int .i64 0) Tryd.underlying32 hi hz0 hz1 hz2 rfl na ncap r ns HM.out.2 rfl rfl HN3.out HN.out.2 (by omega) ?_; rintro a4 k4 w4 h4; have HB4 : Hid (Below w.heap.size w w4 ∧ LiesP w4 a3 ps ∧ LiesN w4 a4 ns) := ⟨HB3.out.1.trans (h4.2.2.2.mono HB3.out.1.size), HB3.out.2.1.below h4.2.2.2, h4.1⟩; clear h4))
  refine (HRun.out w4 a3 k3 a4 k4 HB4.out.1 HB4.out.2.1 HB4.out.2.2 HB3.out.2.2.1 HB3.out.2.2.2).mono ?_
  rintro e w5 ⟨ty, v, rfl, hE5, b5⟩
  have HB5 : Hid (Below w.heap.size w w5 ∧ CodeIs w5 (.iface ty v) c p) := ⟨HB4.out.1.trans (b5.mono HB4.out.1.size), hE5.code⟩
  clear b5 hE5
  go_wp2_with fail
  refine (HOwnP.out _ HB5.out.1).mono ?_
  rintro e w6 ⟨a6, k6, rfl, l6, g6, m6, b6, B6⟩
  have HB6 : Hid (Below w.heap.size w w6 ∧ LiesP w6 a6 ps ∧ m ≤ k6 ∧ k6 ≤ maxLen ∧ Below w5.heap.size w5 w6) := ⟨B6, l6, g6, m6, b6⟩
  have HN6 : Hid (LiesN w6 na ns) := HN.out.1.below B6
  clear l6 g6 m6 b6 B6
  go_wp2_with (at_builtin; go_must (refine wpList_append_ints _ rfl _ _ 32 rfl 3 i0 (.int .i64 0) Tryd.underlying32 hi hz0 hz1 hz2 rfl na ncap r ns HM.out.2 rfl rfl HN6.out HN.out.2 (by omega) ?_; rintro a7 k7 w7 h7; have HB7 : Hid (Below w.heap.size w w7 ∧ LiesP w7 a6 ps ∧ LiesN w7 a7 ns ∧ Below w5.heap.size w5 w7) := ⟨HB6.out.1.trans (h7.2.2.2.mono HB6.out.1.size), HB6.out.2.1.below h7.2.2.2, h7.1, HB6.out.2.2.2.2.trans (h7.2.2.2.mono HB6.out.2.2.2.2.size)⟩; clear h7))
  refine (HTags.out w7 a6 k6 a7 k7 HB7.out.1 HB7.out.2.1 HB7.out.2.2.1 HB6.out.2.2.1 HB6.out.2.2.2.1).mono ?_
  rintro e w8 ⟨ty8, v8, rfl, hE8, b8⟩
  have HB8 : Hid (Below w.heap.size w w8 ∧ CodeIs w8 (.iface ty8 v8) c p ∧ CodeIs w8 (.iface ty v) c p) := ⟨HB7.out.1.trans (b8.mono HB7.out.1.size), hE8.code, HB5.out.2.below (HB7.out.2.2.2.trans (b8.mono HB7.out.2.2.2.size))⟩
  clear b8 hE8
  go_wp2_with fail
  refine (HLf.out _ HB8.out.1).mono ?_
  rintro e w9 ⟨rfl, b9⟩
  have HX9 : Hid (Below w8.heap.size w8 (w9.alloc (.cells #[.int .i64 c, .int .i64 p] 39)) ∧ At2 (w9.alloc (.cells #[.int .i64 c, .int .i64 p] 39)) w9.heap.size (.int .i64 c) (.int .i64 p) ∧ w8.heap.size ≤ w9.heap.size) := ⟨b9.alloc b9.size _, at2_new w9 _ _ _, b9.size⟩
  clear b9
  have HAt : Hid (At2 (w9.alloc (.cells #[.int .i64 c, .int .i64 p] 39)) w9.heap.size (.int .i64 c) (.int .i64 p)) := HX9.out.2.1
  go_wp2_with fail
  refine (faulted_yes (.iface ty v) c p _ (HB8.out.2.2.below HX9.out.1)).mono ?_
  rintro e w11 ⟨rfl, b11⟩
  have HX11 : Hid (Below w8.heap.size w8 w11) := HX9.out.1.trans (b11.mono HX9.out.1.size)
  have hAt := HAt.out.later b11
  obtain ⟨k0', k1', -, -⟩ := hAt
  clear b11
  go_wp2_with fail
  refine (faulted_yes (.iface ty8 v8) c p _ (HB8.out.2.1.below HX11.out)).mono ?_
  rintro e w12 ⟨rfl, b12⟩
  have HB12 : Hid (Below w.heap.size w w12) := HB8.out.1.trans ((HX11.out.trans (b12.mono HX11.out.size)).mono HB8.out.1.size)
  clear b12
  go_wp2_with fail
  go_ret
  exact ⟨rfl, HB12.out⟩

set_option maxRecDepth 100000 in
set_option maxHeartbeats 4000000 in
theorem frLaw_badN (pa : Option Addr) (pcap : Nat) (ps : List Pk) (per : Int) (na : Option Addr) (ncap : Nat) (ns : List Int) (w : World) (ad : Nat → Addr) (he : Errs9 w ad) (hp : LiesP w pa ps) (hpa : pa = none → ps = [] ∧ pcap = 0) (hpc : ps.length ≤ pcap) (hpm : pcap ≤ maxLen) (hn : LiesN w na ns) (hna : na = none → ns = [] ∧ ncap = 0) (hm : ps.length ≤ 80 ∨ ps.length = 301) (hnn : ns.length ≤ 30) (ho : OkPks ps) (h1 : 1 ≤ per) (h2 : per ≤ 1000) (j : Nat) (hj : WtsFault ns j) (hj0 : 0 < j) :
    Calls Tryd.prog 14 #[.slice pa ps.length pcap, .int .i64 per, .slice na ns.length ncap] w fun e w' => e = .returned (.bool true) ∧ Below w.heap.size w w' := by
  obtain ⟨i0, hi, hz0, hz1, hz2⟩ := info_parts Tryd.infoInt
  have HP : Hid (LiesP w pa ps ∧ (pa = none → ps = [] ∧ pcap = 0)) := ⟨hp, hpa⟩
  have HN : Hid (LiesN w na ns ∧ (na = none → ns = [] ∧ ncap = 0)) := ⟨hn, hna⟩
  have HFit : Hid (∀ w', Calls Tryd.prog 24 #[.slice pa ps.length pcap, .int .i64 80] w' fun e w'' => e = .returned (.bool true) ∧ w'' = w') := fun w' => fitPkts_yes pa ps.length pcap 80 w' (Nat.le_trans hpc hpm) (by omega)
  have HRun : Hid (∀ W a3 k3 a5 k5, Below w.heap.size w W → LiesP W a3 ps → LiesN W a5 ns → ps.length ≤ k3 → k3 ≤ maxLen → Calls Tryd.prog 46 #[.slice a3 ps.length k3, .int .i64 per, .slice a5 ns.length k5] W fun e w' => ∃ ty v, e = .returned (.tuple #[.slice none 0 0, .iface ty v]) ∧ (ErrIs w' (.iface ty v) (j : Int) (-1) ∧ Below W.heap.size W w')) := fun W a3 k3 a5 k5 hb g1 g2 g3 g4 => fairRun_err (R := fun ty v w' => ErrIs w' (.iface ty v) j (-1) ∧ Below W.heap.size W w') a3 _ k3 per a5 _ k5 W (fairCheck_isN a3 k3 ps per a5 k5 ns W ad (he.below hb) g1 g2 ho h1 h2 j hj hj0)
  have HTags : Hid (∀ W a3 k3 a5 k5, Below w.heap.size w W → LiesP W a3 ps → LiesN W a5 ns → ps.length ≤ k3 → k3 ≤ maxLen → Calls Tryd.prog 47 #[.slice a3 ps.length k3, .int .i64 per, .slice a5 ns.length k5] W fun e w' => ∃ ty v, e = .returned (.tuple #[.slice none 0 0, .iface ty v]) ∧ (ErrIs w' (.iface ty v) (j : Int) (-1) ∧ Below W.heap.size W w')) := fun W a3 k3 a5 k5 hb g1 g2 g3 g4 => fairTags_err (R := fun ty v w' => ErrIs w' (.iface ty v) j (-1) ∧ Below W.heap.size W w') a3 _ k3 per a5 _ k5 W (fairCheck_isN a3 k3 ps per a5 k5 ns W ad (he.below hb) g1 g2 ho h1 h2 j hj hj0)
  have HLf : Hid (∀ W, Below w.heap.size w W → Calls Tryd.prog 26 #[.slice pa ps.length pcap, .int .i64 per] W fun e w' => e = .returned (.agg #[.int .i64 0, .int .i64 (-1)]) ∧ Below W.heap.size W w') := fun W hb => refLinkFault_is pa pcap ps per 0 (-1) W (hp.below hb) hpc hpm (.inr (.inr ⟨ho, h1, h2, rfl, rfl⟩))
  have HNe : Hid (∀ W, Below w.heap.size w W → Calls Tryd.prog 48 #[.slice na ns.length ncap] W fun e w' => e = .returned (.int .i64 (j : Int)) ∧ w' = W) := fun W hb => weightsError_is na ncap ns W (by omega) (hn.below hb) j hj
  obtain ⟨c, hc⟩ : ∃ c : Int, (j : Int) = c := ⟨_, rfl⟩
  have hc1 : 0 < c := by omega
  rw [hc] at HRun HTags HNe
  have hc0 : (c == 0) = false := by simpa using (show c ≠ 0 by omega)
  clear ho hj hc hj0
  clear hp hpa hpc hpm hn hna he
  obtain ⟨m, hmm⟩ : ∃ m, ps.length = m := ⟨_, rfl⟩
  obtain ⟨r, hnr⟩ : ∃ r, ns.length = r := ⟨_, rfl⟩
  have HM : Hid (ps.length = m ∧ ns.length = r) := ⟨hmm, hnr⟩
  have HOwnP : Hid (∀ w', Below w.heap.size w w' → Calls Tryd.prog 21 #[.slice pa m pcap] w' fun e w'' => ∃ a' cap', e = .returned (.slice a' m cap') ∧ LiesP w'' a' ps ∧ m ≤ cap' ∧ cap' ≤ maxLen ∧ Below w'.heap.size w' w'' ∧ Below w.heap.size w w'') := fun w' hb => by
    have := ownPackets_from pa pcap ps w w' hb HP.out.1 (by omega) HP.out.2
    rwa [hmm] at this
  rw [hmm] at hm HFit HRun HTags HLf ⊢
  rw [hnr] at hnn HRun HTags HNe ⊢
  clear hmm hnr
  have hnn' : ¬ 30 < r := by omega
  go_enter Tryd.func14, Tryd.ntmps14
  go_wp2_with fail
  refine (tagged_any _).mono ?_
  rintro e w1 ⟨rfl, hb⟩
  have HB1 : Hid (Below w.heap.size w w1) := hb
  clear hb
  go_wp2_with fail
  refine (HFit.out _).mono ?_
  rintro e w1' ⟨rfl, rfl⟩
  go_wp2_with fail
  refine (HOwnP.out _ HB1.out).mono ?_
  rintro e w3 ⟨a3, k3, rfl, l3, g3, m3, b3, B3⟩
  have HB3 : Hid (Below w.heap.size w w3 ∧ LiesP w3 a3 ps ∧ m ≤ k3 ∧ k3 ≤ maxLen) := ⟨B3, l3, g3, m3⟩
  have HN3 : Hid (LiesN w3 na ns) := HN.out.1.below B3
  clear l3 g3 m3 b3 B3
  go_wp2_with (at_builtin; go_must (refine wpList_append_ints _ rfl _ _ 32 rfl 3 i0 (.int .i64 0) Tryd.underlying32 hi hz0 hz1 hz2 rfl na ncap r ns HM.out.2 rfl rfl HN3.out HN.out.2 (by omega) ?_; rintro a4 k4 w4 h4; have HB4 : Hid (Below w.heap.size w w4 ∧ LiesP w4 a3 ps ∧ LiesN w4 a4 ns) := ⟨HB3.out.1.trans (h4.2.2.2.mono HB3.out.1.size), HB3.out.2.1.below h4.2.2.2, h4.1⟩; clear h4))
  refine (HRun.out w4 a3 k3 a4 k4 HB4.out.1 HB4.out.2.1 HB4.out.2.2 HB3.out.2.2.1 HB3.out.2.2.2).mono ?_
  rintro e w5 ⟨ty, v, rfl, hE5, b5⟩
  have HB5 : Hid (Below w.heap.size w w5 ∧ CodeIs w5 (.iface ty v) c (-1)) := ⟨HB4.out.1.trans (b5.mono HB4.out.1.size), hE5.code⟩
  clear b5 hE5
  go_wp2_with fail
  refine (HOwnP.out _ HB5.out.1).mono ?_
  rintro e w6 ⟨a6, k6, rfl, l6, g6, m6, b6, B6⟩
  have HB6 : Hid (Below w.heap.size w w6 ∧ LiesP w6 a6 ps ∧ m ≤ k6 ∧ k6 ≤ maxLen ∧ Below w5.heap.size w5 w6) := ⟨B6, l6, g6, m6, b6⟩
  have HN6 : Hid (LiesN w6 na ns) := HN.out.1.below B6
  clear l6 g6 m6 b6 B6
  go_wp2_with (at_builtin; go_must (refine wpList_append_ints _ rfl _ _ 32 rfl 3 i0 (.int .i64 0) Tryd.underlying32 hi hz0 hz1 hz2 rfl na ncap r ns HM.out.2 rfl rfl HN6.out HN.out.2 (by omega) ?_; rintro a7 k7 w7 h7; have HB7 : Hid (Below w.heap.size w w7 ∧ LiesP w7 a6 ps ∧ LiesN w7 a7 ns ∧ Below w5.heap.size w5 w7) := ⟨HB6.out.1.trans (h7.2.2.2.mono HB6.out.1.size), HB6.out.2.1.below h7.2.2.2, h7.1, HB6.out.2.2.2.2.trans (h7.2.2.2.mono HB6.out.2.2.2.2.size)⟩; clear h7))
  refine (HTags.out w7 a6 k6 a7 k7 HB7.out.1 HB7.out.2.1 HB7.out.2.2.1 HB6.out.2.2.1 HB6.out.2.2.2.1).mono ?_
  rintro e w8 ⟨ty8, v8, rfl, hE8, b8⟩
  have HB8 : Hid (Below w.heap.size w w8 ∧ CodeIs w8 (.iface ty8 v8) c (-1) ∧ CodeIs w8 (.iface ty v) c (-1)) := ⟨HB7.out.1.trans (b8.mono HB7.out.1.size), hE8.code, HB5.out.2.below (HB7.out.2.2.2.trans (b8.mono HB7.out.2.2.2.size))⟩
  clear b8 hE8
  go_wp2_with fail
  refine (HLf.out _ HB8.out.1).mono ?_
  rintro e w9 ⟨rfl, b9⟩
  have HX9 : Hid (Below w8.heap.size w8 (w9.alloc (.cells #[.int .i64 0, .int .i64 (-1)] 39)) ∧ At2 (w9.alloc (.cells #[.int .i64 0, .int .i64 (-1)] 39)) w9.heap.size (.int .i64 0) (.int .i64 (-1)) ∧ w8.heap.size ≤ w9.heap.size) := ⟨b9.alloc b9.size _, at2_new w9 _ _ _, b9.size⟩
  clear b9
  go_wp2_with fail
  refine (HNe.out _ (HB8.out.1.trans (HX9.out.1.mono HB8.out.1.size))).mono ?_
  rintro e w10' ⟨rfl, hw10⟩
  rw [hw10]
  clear hw10
  go_wp2_with fail
  refine (bare_any c _).mono ?_
  rintro e w10 ⟨rfl, b10⟩
  have hAt0 := HX9.out.2.1.later b10
  obtain ⟨k0, k1, f0, f1⟩ := hAt0
  have HX10 : Hid (Below w8.heap.size w8 ((w10.setCell ⟨w9.heap.size, 0, none⟩ (.int .i64 c)).setCell ⟨w9.heap.size, 1, none⟩ (.int .i64 (-1)))) := ((HX9.out.1.trans (b10.mono HX9.out.1.size)).setCell HX9.out.2.2 _).setCell HX9.out.2.2 _
  have HAt : Hid (At2 ((w10.setCell ⟨w9.heap.size, 0, none⟩ (.int .i64 c)).setCell ⟨w9.heap.size, 1, none⟩ (.int .i64 (-1))) w9.heap.size (.int .i64 c) (.int .i64 (-1))) := (HX9.out.2.1.later b10).set _ _
  clear b10
  go_wp2_with fail
  refine (faulted_yes (.iface ty v) c (-1) _ (HB8.out.2.2.below HX10.out)).mono ?_
  rintro e w11 ⟨rfl, b11⟩
  have HX11 : Hid (Below w8.heap.size w8 w11) := HX10.out.trans (b11.mono HX10.out.size)
  have hAt := HAt.out.later b11
  obtain ⟨k0', k1', -, -⟩ := hAt
  clear b11
  go_wp2_with fail
  refine (faulted_yes (.iface ty8 v8) c (-1) _ (HB8.out.2.1.below HX11.out)).mono ?_
  rintro e w12 ⟨rfl, b12⟩
  have HB12 : Hid (Below w.heap.size w w12) := HB8.out.1.trans ((HX11.out.trans (b12.mono HX11.out.size)).mono HB8.out.1.size)
  clear b12
  go_wp2_with fail
  go_ret
  exact ⟨rfl, HB12.out⟩

set_option maxRecDepth 100000 in
set_option maxHeartbeats 4000000 in
theorem frLaw_ok (pa : Option Addr) (pcap : Nat) (ps : List Pk) (per : Int) (na : Option Addr) (ncap : Nat) (ns : List Int) (w : World) (hp : LiesP w pa ps) (hpa : pa = none → ps = [] ∧ pcap = 0) (hpc : ps.length ≤ pcap) (hpm : pcap ≤ maxLen) (hn : LiesN w na ns) (hna : na = none → ns = [] ∧ ncap = 0) (hm : ps.length ≤ 80 ∨ ps.length = 301) (hnn : ns.length ≤ 30) (ho : OkPks ps) (h1 : 1 ≤ per) (h2 : per ≤ 1000) (hk : WtsAll ns) :
    Calls Tryd.prog 14 #[.slice pa ps.length pcap, .int .i64 per, .slice na ns.length ncap] w fun e w' => e = .returned (.bool true) ∧ Below w.heap.size w w' := by
  obtain ⟨i0, hi, hz0, hz1, hz2⟩ := info_parts Tryd.infoInt
  have HP : Hid (LiesP w pa ps ∧ (pa = none → ps = [] ∧ pcap = 0)) := ⟨hp, hpa⟩
  have HN : Hid (LiesN w na ns ∧ (na = none → ns = [] ∧ ncap = 0)) := ⟨hn, hna⟩
  have HFit : Hid (∀ w', Calls Tryd.prog 24 #[.slice pa ps.length pcap, .int .i64 80] w' fun e w'' => e = .returned (.bool true) ∧ w'' = w') := fun w' => fitPkts_yes pa ps.length pcap 80 w' (Nat.le_trans hpc hpm) (by omega)
  have HRun : Hid (∀ W a3 k3 a5 k5, Below w.heap.size w W → LiesP W a3 ps → LiesN W a5 ns → ps.length ≤ k3 → k3 ≤ maxLen → Calls Tryd.prog 46 #[.slice a3 ps.length k3, .int .i64 per, .slice a5 ns.length k5] W fun e w' => ∃ a' k' l ts, e = .returned (.tuple #[.slice a' ps.length k', .nilIface]) ∧ (LiesS w' a' l ∧ FairSent per ps ns l ts ∧ l.length = ps.length ∧ (a' = none → l = [] ∧ k' = 0)) ∧ Below W.heap.size W w') := fun W a3 k3 a5 k5 hb g1 g2 g3 g4 => fairRun_lies a3 k3 ps per a5 k5 ns W g1 g2 ho h1 h2 hk
  have HTags : Hid (∀ W a3 k3 a5 k5, Below w.heap.size w W → LiesP W a3 ps → LiesN W a5 ns → ps.length ≤ k3 → k3 ≤ maxLen → Calls Tryd.prog 47 #[.slice a3 ps.length k3, .int .i64 per, .slice a5 ns.length k5] W fun e w' => ∃ gt l f, e = .returned (.tuple #[.slice (some ⟨gt, 0, none⟩) ps.length ps.length, .nilIface]) ∧ FairSent per ps ns l ((List.range ps.length).map f) ∧ NumsAt w' gt ps.length f ∧ Below W.heap.size W w') := fun W a3 k3 a5 k5 hb g1 g2 g3 g4 => fairTags_ok a3 k3 ps per a5 k5 ns W g1 g2 ho h1 h2 hk
  have HLf : Hid (∀ W, Below w.heap.size w W → Calls Tryd.prog 26 #[.slice pa ps.length pcap, .int .i64 per] W fun e w' => e = .returned (.agg #[.int .i64 0, .int .i64 (-1)]) ∧ Below W.heap.size W w') := fun W hb => refLinkFault_is pa pcap ps per 0 (-1) W (hp.below hb) hpc hpm (.inr (.inr ⟨ho, h1, h2, rfl, rfl⟩))
  have HNe : Hid (∀ W, Below w.heap.size w W → Calls Tryd.prog 48 #[.slice na ns.length ncap] W fun e w' => e = .returned (.int .i64 0) ∧ w' = W) := fun W hb => weightsError_is na ncap ns W (by omega) (hn.below hb) 0 (.inr (.inr ⟨rfl, hk⟩))
  have HFo : Hid (∀ W, Below w.heap.size w W → Calls Tryd.prog 49 #[.slice pa ps.length pcap, .int .i64 per, .slice na ns.length ncap] W fun e w' => ∃ v gt l f, e = .returned (.tuple #[v, .slice (some ⟨gt, 0, none⟩) ps.length ps.length]) ∧ OwnS w' W.heap.size v l ∧ NumsAt w' gt ps.length f ∧ FairSent per ps ns l ((List.range ps.length).map f) ∧ Below W.heap.size W w') := fun W hb => fairOf_any pa pcap ps per na ncap ns W (hp.below hb) (hn.below hb) ho h1 h2 hk
  have hm80 : ps.length ≤ 80 := by have := ho.few; omega
  have h8 := hk.len
  clear ho hk
  clear hp hpa hpc hpm hn hna
  obtain ⟨m, hmm⟩ : ∃ m, ps.length = m := ⟨_, rfl⟩
  obtain ⟨r, hnr⟩ : ∃ r, ns.length = r := ⟨_, rfl⟩
  have HM : Hid (ps.length = m ∧ ns.length = r) := ⟨hmm, hnr⟩
  have HOwnP : Hid (∀ w', Below w.heap.size w w' → Calls Tryd.prog 21 #[.slice pa m pcap] w' fun e w'' => ∃ a' cap', e = .returned (.slice a' m cap') ∧ LiesP w'' a' ps ∧ m ≤ cap' ∧ cap' ≤ maxLen ∧ Below w'.heap.size w' w'' ∧ Below w.heap.size w w'') := fun w' hb => by
    have := ownPackets_from pa pcap ps w w' hb HP.out.1 (by omega) HP.out.2
    rwa [hmm] at this
  rw [hmm] at hm HFit HRun HTags HLf HFo hm80 ⊢
  rw [hnr] at hnn HRun HTags HNe HFo h8 ⊢
  clear hmm hnr
  subst h8
  go_enter Tryd.func14, Tryd.ntmps14
  go_wp2_with fail
  refine (tagged_any _).mono ?_
  rintro e w1 ⟨rfl, hb⟩
  have HB1 : Hid (Below w.heap.size w w1) := hb
  clear hb
  go_wp2_with fail
  refine (HFit.out _).mono ?_
  rintro e w1' ⟨rfl, rfl⟩
  go_wp2_with fail
  refine (HOwnP.out _ HB1.out).mono ?_
  rintro e w3 ⟨a3, k3, rfl, l3, g3, m3, b3, B3⟩
  have HB3 : Hid (Below w.heap.size w w3 ∧ LiesP w3 a3 ps ∧ m ≤ k3 ∧ k3 ≤ maxLen) := ⟨B3, l3, g3, m3⟩
  have HN3 : Hid (LiesN w3 na ns) := HN.out.1.below B3
  clear l3 g3 m3 b3 B3
  go_wp2_with (at_builtin; go_must (refine wpList_append_ints _ rfl _ _ 32 rfl 3 i0 (.int .i64 0) Tryd.underlying32 hi hz0 hz1 hz2 rfl na ncap 8 ns HM.out.2 rfl rfl HN3.out HN.out.2 (by omega) ?_; rintro a4 k4 w4 h4; have HB4 : Hid (Below w.heap.size w w4 ∧ LiesP w4 a3 ps ∧ LiesN w4 a4 ns) := ⟨HB3.out.1.trans (h4.2.2.2.mono HB3.out.1.size), HB3.out.2.1.below h4.2.2.2, h4.1⟩; clear h4))
  refine (HRun.out w4 a3 k3 a4 k4 HB4.out.1 HB4.out.2.1 HB4.out.2.2 HB3.out.2.2.1 HB3.out.2.2.2).mono ?_
  rintro e w5 ⟨a5, k5, l, ts, rfl, h5, b5⟩
  have HB5 : Hid (Below w.heap.size w w5 ∧ LiesS w5 a5 l ∧ FairSent per ps ns l ts ∧ l.length = m) := ⟨HB4.out.1.trans (b5.mono HB4.out.1.size), h5.1, h5.2.1, h5.2.2.1⟩
  clear b5 h5
  go_wp2_with fail
  refine (HOwnP.out _ HB5.out.1).mono ?_
  rintro e w6 ⟨a6, k6, rfl, l6, g6, m6, b6, B6⟩
  have HB6 : Hid (Below w.heap.size w w6 ∧ LiesP w6 a6 ps ∧ m ≤ k6 ∧ k6 ≤ maxLen ∧ Below w5.heap.size w5 w6) := ⟨B6, l6, g6, m6, b6⟩
  have HN6 : Hid (LiesN w6 na ns) := HN.out.1.below B6
  clear l6 g6 m6 b6 B6
  go_wp2_with (at_builtin; go_must (refine wpList_append_ints _ rfl _ _ 32 rfl 3 i0 (.int .i64 0) Tryd.underlying32 hi hz0 hz1 hz2 rfl na ncap 8 ns HM.out.2 rfl rfl HN6.out HN.out.2 (by omega) ?_; rintro a7 k7 w7 h7; have HB7 : Hid (Below w.heap.size w w7 ∧ LiesP w7 a6 ps ∧ LiesN w7 a7 ns ∧ Below w5.heap.size w5 w7) := ⟨HB6.out.1.trans (h7.2.2.2.mono HB6.out.1.size), HB6.out.2.1.below h7.2.2.2, h7.1, HB6.out.2.2.2.2.trans (h7.2.2.2.mono HB6.out.2.2.2.2.size)⟩; clear h7))
  refine (HTags.out w7 a6 k6 a7 k7 HB7.out.1 HB7.out.2.1 HB7.out.2.2.1 HB6.out.2.2.1 HB6.out.2.2.2.1).mono ?_
  rintro e w8 ⟨gt, l', f, rfl, h8, n8, b8⟩
  have HB8 : Hid (Below w.heap.size w w8 ∧ LiesS w8 a5 l ∧ NumsAt w8 gt m f ∧ FairSent per ps ns l' ((List.range m).map f)) := ⟨HB7.out.1.trans (b8.mono HB7.out.1.size), HB5.out.2.1.below (HB7.out.2.2.2.trans (b8.mono HB7.out.2.2.2.size)), n8, h8⟩
  clear b8 h8 n8
  go_wp2_with fail
  refine (HLf.out _ HB8.out.1).mono ?_
  rintro e w9 ⟨rfl, b9⟩
  have HX9 : Hid (Below w8.heap.size w8 (w9.alloc (.cells #[.int .i64 0, .int .i64 (-1)] 39)) ∧ At2 (w9.alloc (.cells #[.int .i64 0, .int .i64 (-1)] 39)) w9.heap.size (.int .i64 0) (.int .i64 (-1)) ∧ w8.heap.size ≤ w9.heap.size) := ⟨b9.alloc b9.size _, at2_new w9 _ _ _, b9.size⟩
  clear b9
  go_wp2_with fail
  refine (HNe.out _ (HB8.out.1.trans (HX9.out.1.mono HB8.out.1.size))).mono ?_
  rintro e w10' ⟨rfl, hw10⟩
  rw [hw10]
  clear hw10
  go_wp2_with fail
  refine (bare_any 0 _).mono ?_
  rintro e w10 ⟨rfl, b10⟩
  have hAt0 := HX9.out.2.1.later b10
  obtain ⟨k0, k1, f0, f1⟩ := hAt0
  have HX10 : Hid (Below w8.heap.size w8 ((w10.setCell ⟨w9.heap.size, 0, none⟩ (.int .i64 0)).setCell ⟨w9.heap.size, 1, none⟩ (.int .i64 (-1)))) := ((HX9.out.1.trans (b10.mono HX9.out.1.size)).setCell HX9.out.2.2 _).setCell HX9.out.2.2 _
  clear b10
  go_wp2_with fail
  refine (HFo.out _ (HB8.out.1.trans (HX10.out.mono HB8.out.1.size))).mono ?_
  rintro e w11 ⟨v11, gt2, l2, f2, rfl, o11, n11, e11, b11⟩
  obtain ⟨a11, k11, rfl, -, -, g11, -, -⟩ := o11.open
  have hsame1 := HB5.out.2.2.1.same e11
  have hsame2 := HB8.out.2.2.2.same e11
  have hl2 : l2 = l := hsame1.1.symm
  subst hl2
  have HX11 : Hid (Below w8.heap.size w8 w11) := HX10.out.trans (b11.mono HX10.out.size)
  have hll : l2.length = m := HB5.out.2.2.2
  have HSame : Hid (Calls Tryd.prog 27 #[.slice a5 m k5, .slice a11 m k11] w11 fun e w' => e = .returned (.bool true) ∧ Below w11.heap.size w11 w') := by
    have := sameSent_yes a5 a11 k5 k11 l2 w11 (HB8.out.2.1.below HX11.out) g11 (by omega)
    rwa [hll] at this
  have hff : ∀ i, i < m → f i = f2 i := fun i hi => by
    have := congrArg (fun t : List Int => t[i]?) hsame2.2
    simpa [hi] using this
  have HInts : Hid (∀ W, Below w11.heap.size w11 W → Calls Tryd.prog 50 #[.slice (some ⟨gt, 0, none⟩) m m, .slice (some ⟨gt2, 0, none⟩) m m] W fun e w' => e = .returned (.bool true) ∧ Below W.heap.size W w') := fun W hb => by
    refine sameInts_yes gt 0 gt2 0 m m m f W (by omega) (fun i hi => ?_) (fun i hi => ?_)
    · rw [Nat.zero_add]
      exact cell_later (HX11.out.trans (hb.mono HX11.out.size)) (HB8.out.2.2.1.cell i hi)
    · rw [Nat.zero_add, hff i hi]
      exact cell_later hb (n11.cell i hi)
  rw [hll]
  clear b11 o11 g11 e11 hll n11 hsame1 hsame2 hff
  go_wp2_with fail
  refine HSame.out.mono ?_
  rintro e w12 ⟨rfl, b12⟩
  have HX12 : Hid (Below w8.heap.size w8 w12 ∧ Below w11.heap.size w11 w12) := ⟨HX11.out.trans (b12.mono HX11.out.size), b12⟩
  clear b12
  go_wp2_with fail
  refine (HInts.out _ HX12.out.2).mono ?_
  rintro e w13 ⟨rfl, b13⟩
  have HB13 : Hid (Below w.heap.size w w13) := HB8.out.1.trans ((HX12.out.1.trans (b13.mono HX12.out.1.size)).mono HB8.out.1.size)
  clear b13
  go_wp2_with fail
  go_ret
  exact ⟨rfl, HB13.out⟩

end Go.Proofs.YtcmgmcngidndcabDoor
