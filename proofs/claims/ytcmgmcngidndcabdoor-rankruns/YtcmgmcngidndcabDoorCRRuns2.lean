/- RankRuns: its long ways. -/
import Derived.Test.YtcmgmcngidndcabDoorCRRuns1
namespace Go.Proofs.YtcmgmcngidndcabDoor
open Go.RowKit

theorem sched_tame {per : Int} {ps : List Pk} {keys : List Int} {l : List Sn} (ho : OkPks ps) (h1 : 1 ≤ per) (h2 : per ≤ 1000) (h : Sched per ps keys l) (hl : l.length ≤ 300) : tameAll l ∧ ∀ (i : Nat) x, l[i]? = some x → named ps.length x = true := by
  refine ⟨fun i x hx => ?_, fun i x hx => ?_⟩
  · have := lt_of_get hx
    obtain ⟨-, b1, b2⟩ := sched_in ho h1 h2 h hx
    exact decide_eq_true (by omega)
  · obtain ⟨⟨b, hb, e, -⟩, -, -⟩ := sched_in ho h1 h2 h hx
    exact decide_eq_true (by omega)

set_option maxRecDepth 100000 in
set_option maxHeartbeats 1000000 in
theorem rruns_many (pa : Option Addr) (m pcap : Nat) (per : Int) (na : Option Addr) (nn ncap : Nat) (da : Option Addr) (dn dcap : Nat) (w : World) (h1 : ¬ (m : Int) ≤ 80) (h2 : m ≠ 301) :
    Calls Tryd.prog 9 #[.slice pa m pcap, .int .i64 per, .slice na nn ncap, .slice da dn dcap] w fun e w' => e = .returned (.bool true) ∧ Below w.heap.size w w' := by
  have HF : Hid (∀ w', Calls Tryd.prog 24 #[.slice pa m pcap, .int .i64 80] w' fun e w'' => e = .returned (.bool false) ∧ w'' = w') := fun w' => fitPkts_no pa m pcap 80 w' h1 h2
  clear h1 h2
  go_enter Tryd.func9, Tryd.ntmps9
  go_wp2_with fail
  refine (sends_any _).mono ?_
  rintro e w1 ⟨rfl, hb⟩
  have HB : Hid (Below w.heap.size w w1) := hb
  clear hb
  go_wp2_with fail
  refine (HF.out _).mono ?_
  rintro e w2 ⟨rfl, rfl⟩
  go_wp2_with fail
  go_ret
  exact ⟨rfl, HB.out⟩
set_option maxRecDepth 100000 in
set_option maxHeartbeats 1000000 in
theorem rruns_more (pa : Option Addr) (m pcap : Nat) (per : Int) (na : Option Addr) (nn ncap : Nat) (da : Option Addr) (dn dcap : Nat) (w : World) (hm : m ≤ maxLen) (h1 : (m : Int) ≤ 80 ∨ m = 301) (h : 30 < nn ∨ (¬ 30 < nn ∧ 30 < dn)) :
    Calls Tryd.prog 9 #[.slice pa m pcap, .int .i64 per, .slice na nn ncap, .slice da dn dcap] w fun e w' => e = .returned (.bool true) ∧ Below w.heap.size w w' := by
  have HF : Hid (∀ w', Calls Tryd.prog 24 #[.slice pa m pcap, .int .i64 80] w' fun e w'' => e = .returned (.bool true) ∧ w'' = w') := fun w' => fitPkts_yes pa m pcap 80 w' hm h1
  clear h1
  rcases h with h | ⟨h, h'⟩
  · go_enter Tryd.func9, Tryd.ntmps9
    go_wp2_with fail
    refine (sends_any _).mono ?_
    rintro e w1 ⟨rfl, hb⟩
    have HB : Hid (Below w.heap.size w w1) := hb
    clear hb
    go_wp2_with fail
    refine (HF.out _).mono ?_
    rintro e w2 ⟨rfl, rfl⟩
    go_wp2_with fail
    go_ret
    exact ⟨rfl, HB.out⟩
  · go_enter Tryd.func9, Tryd.ntmps9
    go_wp2_with fail
    refine (sends_any _).mono ?_
    rintro e w1 ⟨rfl, hb⟩
    have HB : Hid (Below w.heap.size w w1) := hb
    clear hb
    go_wp2_with fail
    refine (HF.out _).mono ?_
    rintro e w2 ⟨rfl, rfl⟩
    go_wp2_with fail
    go_ret
    exact ⟨rfl, HB.out⟩

set_option maxRecDepth 100000 in
set_option maxHeartbeats 2000000 in
theorem rruns_badL (pa : Option Addr) (pcap : Nat) (ps : List Pk) (per : Int) (na : Option Addr) (ncap : Nat) (ns : List Int) (da : Option Addr) (dcap : Nat) (ds : List Int) (w : World) (ad : Nat → Addr) (he : Errs9 w ad) (hp : LiesP w pa ps) (hpa : pa = none → ps = [] ∧ pcap = 0) (hpc : ps.length ≤ pcap) (hpm : pcap ≤ maxLen) (hn : LiesN w na ns) (hna : na = none → ns = [] ∧ ncap = 0) (hd : LiesN w da ds) (hda : da = none → ds = [] ∧ dcap = 0) (hm : ps.length ≤ 80 ∨ ps.length = 301) (hnn : ns.length ≤ 30) (hdd : ds.length ≤ 30) (c p : Int) (hf : LinkFaultIs ps per c p) (hc : 0 < c) :
    Calls Tryd.prog 9 #[.slice pa ps.length pcap, .int .i64 per, .slice na ns.length ncap, .slice da ds.length dcap] w fun e w' => e = .returned (.bool true) ∧ Below w.heap.size w w' := by
  obtain ⟨i0, hi, hz0, hz1, hz2⟩ := info_parts Tryd.infoInt
  have HP : Hid (LiesP w pa ps ∧ (pa = none → ps = [] ∧ pcap = 0)) := ⟨hp, hpa⟩
  have HN : Hid (LiesN w na ns ∧ (na = none → ns = [] ∧ ncap = 0)) := ⟨hn, hna⟩
  have HD : Hid (LiesN w da ds ∧ (da = none → ds = [] ∧ dcap = 0)) := ⟨hd, hda⟩
  have HFit : Hid (∀ w', Calls Tryd.prog 24 #[.slice pa ps.length pcap, .int .i64 80] w' fun e w'' => e = .returned (.bool true) ∧ w'' = w') := fun w' => fitPkts_yes pa ps.length pcap 80 w' (Nat.le_trans hpc hpm) (by omega)
  have HRun : Hid (∀ W a3 k3 a5 k5, Below w.heap.size w W → LiesP W a3 ps → LiesN W a5 ns → ps.length ≤ k3 → k3 ≤ maxLen → Calls Tryd.prog 35 #[.slice a3 ps.length k3, .int .i64 per, .slice a5 ns.length k5] W fun e w' => ∃ ty v, e = .returned (.tuple #[.slice none 0 0, .iface ty v]) ∧ (ErrIs w' (.iface ty v) c p ∧ Below W.heap.size W w')) := fun W a3 k3 a5 k5 hb g1 g2 g3 g4 => rankRun_isL a3 k3 ps per a5 _ k5 W ad (he.below hb) g1 g3 g4 c p hf hc
  have HDue : Hid (∀ W a3 k3 a5 k5, Below w.heap.size w W → LiesP W a3 ps → LiesN W a5 ds → ps.length ≤ k3 → k3 ≤ maxLen → Calls Tryd.prog 34 #[.slice a3 ps.length k3, .int .i64 per, .slice a5 ds.length k5] W fun e w' => ∃ ty v, e = .returned (.tuple #[.slice none 0 0, .iface ty v]) ∧ (ErrIs w' (.iface ty v) c p ∧ Below W.heap.size W w')) := fun W a3 k3 a5 k5 hb g1 g2 g3 g4 => rankDue_isL a3 k3 ps per a5 _ k5 W ad (he.below hb) g1 g3 g4 c p hf hc
  have HLf : Hid (∀ W, Below w.heap.size w W → Calls Tryd.prog 26 #[.slice pa ps.length pcap, .int .i64 per] W fun e w' => e = .returned (.agg #[.int .i64 c, .int .i64 p]) ∧ Below W.heap.size W w') := fun W hb => refLinkFault_is pa pcap ps per c p W (hp.below hb) hpc hpm hf
  have hc0 : (c == 0) = false := by simpa using (show c ≠ 0 by omega)
  clear hf
  clear hp hpa hpc hpm hn hna hd hda he
  obtain ⟨m, hmm⟩ : ∃ m, ps.length = m := ⟨_, rfl⟩
  obtain ⟨r, hnr⟩ : ∃ r, ns.length = r := ⟨_, rfl⟩
  obtain ⟨s, hds⟩ : ∃ s, ds.length = s := ⟨_, rfl⟩
  have HM : Hid (ps.length = m ∧ ns.length = r ∧ ds.length = s) := ⟨hmm, hnr, hds⟩
  have HOwnP : Hid (∀ w', Below w.heap.size w w' → Calls Tryd.prog 21 #[.slice pa m pcap] w' fun e w'' => ∃ a' cap', e = .returned (.slice a' m cap') ∧ LiesP w'' a' ps ∧ m ≤ cap' ∧ cap' ≤ maxLen ∧ Below w'.heap.size w' w'' ∧ Below w.heap.size w w'') := fun w' hb => by
    have := ownPackets_from pa pcap ps w w' hb HP.out.1 (by omega) HP.out.2
    rwa [hmm] at this
  rw [hmm] at hm HFit HRun HDue HLf ⊢
  rw [hnr] at hnn HRun ⊢
  rw [hds] at hdd HDue ⊢
  clear hmm hnr hds
  have hnn' : ¬ 30 < r := by omega
  have hdd' : ¬ 30 < s := by omega
  go_enter Tryd.func9, Tryd.ntmps9
  go_wp2_with fail
  refine (sends_any _).mono ?_
  rintro e w1 ⟨rfl, hb⟩
  have HB1 : Hid (Below w.heap.size w w1) := hb
  clear hb
  go_wp2_with fail
  refine (HFit.out _).mono ?_
  rintro e w1' ⟨rfl, rfl⟩
  go_wp2_with fail
  refine (HOwnP.out _ HB1.out).mono ?_
  rintro e w3 ⟨a3, k3, rfl, l3, g3, m3, b3, B3⟩
  have HB3 : Hid (Below w.heap.size w w3 ∧ LiesP w3 a3 ps ∧ m ≤ k3 ∧ k3 ≤ maxLen) := ⟨B3, l3, g3, m3⟩
  have HN3 : Hid (LiesN w3 na ns) := HN.out.1.below B3
  clear l3 g3 m3 b3 B3
  go_wp2_with (at_builtin; go_must (refine wpList_append_ints _ rfl _ _ 32 rfl 3 i0 (.int .i64 0) Tryd.underlying32 hi hz0 hz1 hz2 rfl na ncap r ns HM.out.2.1 rfl rfl HN3.out HN.out.2 (by omega) ?_; rintro a4 k4 w4 h4; have HB4 : Hid (Below w.heap.size w w4 ∧ LiesP w4 a3 ps ∧ LiesN w4 a4 ns) := ⟨HB3.out.1.trans (h4.2.2.2.mono HB3.out.1.size), HB3.out.2.1.below h4.2.2.2, h4.1⟩; clear h4))
  refine (HRun.out w4 a3 k3 a4 k4 HB4.out.1 HB4.out.2.1 HB4.out.2.2 HB3.out.2.2.1 HB3.out.2.2.2).mono ?_
  rintro e w5 ⟨ty1, v1, rfl, hE5, b5⟩
  have HB5 : Hid (Below w.heap.size w w5 ∧ ErrIs w5 (.iface ty1 v1) c p) := ⟨HB4.out.1.trans (b5.mono HB4.out.1.size), hE5⟩
  clear b5 hE5
  go_wp2_with fail
  refine (HOwnP.out _ HB5.out.1).mono ?_
  rintro e w6 ⟨a6, k6, rfl, l6, g6, m6, b6, B6⟩
  have HB6 : Hid (Below w.heap.size w w6 ∧ LiesP w6 a6 ps ∧ m ≤ k6 ∧ k6 ≤ maxLen ∧ ErrIs w6 (.iface ty1 v1) c p) := ⟨B6, l6, g6, m6, HB5.out.2.below b6⟩
  have HD6 : Hid (LiesN w6 da ds) := HD.out.1.below B6
  clear l6 g6 m6 b6 B6
  go_wp2_with (at_builtin; go_must (refine wpList_append_ints _ rfl _ _ 32 rfl 3 i0 (.int .i64 0) Tryd.underlying32 hi hz0 hz1 hz2 rfl da dcap s ds HM.out.2.2 rfl rfl HD6.out HD.out.2 (by omega) ?_; rintro a7 k7 w7 h7; have HB7 : Hid (Below w.heap.size w w7 ∧ LiesP w7 a6 ps ∧ LiesN w7 a7 ds ∧ ErrIs w7 (.iface ty1 v1) c p) := ⟨HB6.out.1.trans (h7.2.2.2.mono HB6.out.1.size), HB6.out.2.1.below h7.2.2.2, h7.1, HB6.out.2.2.2.2.below h7.2.2.2⟩; clear h7))
  refine (HDue.out w7 a6 k6 a7 k7 HB7.out.1 HB7.out.2.1 HB7.out.2.2.1 HB6.out.2.2.1 HB6.out.2.2.2.1).mono ?_
  rintro e w8 ⟨ty2, v2, rfl, hE8, b8⟩
  have HB8 : Hid (Below w.heap.size w w8 ∧ ErrIs w8 (.iface ty1 v1) c p ∧ ErrIs w8 (.iface ty2 v2) c p) := ⟨HB7.out.1.trans (b8.mono HB7.out.1.size), HB7.out.2.2.2.below b8, hE8⟩
  clear b8 hE8
  go_wp2_with fail
  refine (HLf.out _ HB8.out.1).mono ?_
  rintro e w9 ⟨rfl, b9⟩
  obtain ⟨fa, hfa⟩ : ∃ fa, w9.heap.size = fa := ⟨_, rfl⟩
  have hs1 : (w9.alloc (.cells #[.int .i64 c, .int .i64 p] 39)).heap.size = w9.heap.size + 1 := by simp
  have HA9 : Hid (At2 ((w9.alloc (.cells #[.int .i64 c, .int .i64 p] 39)).alloc (.cells #[.int .i64 c, .int .i64 p] 39)) w9.heap.size (.int .i64 c) (.int .i64 p)) := (at2_new w9 _ _ _).later ((Below.refl _ _).alloc (Nat.le_refl _) _)
  have HG9 : Hid (At2 ((w9.alloc (.cells #[.int .i64 c, .int .i64 p] 39)).alloc (.cells #[.int .i64 c, .int .i64 p] 39)) (w9.heap.size + 1) (.int .i64 c) (.int .i64 p)) := by
    have := at2_new (w9.alloc (.cells #[.int .i64 c, .int .i64 p] 39)) (.int .i64 c) (.int .i64 p) 39
    rwa [hs1] at this
  have HX9 : Hid (Below w8.heap.size w8 ((w9.alloc (.cells #[.int .i64 c, .int .i64 p] 39)).alloc (.cells #[.int .i64 c, .int .i64 p] 39)) ∧ w8.heap.size ≤ w9.heap.size) := ⟨(b9.alloc b9.size _).alloc (by rw [hs1]; exact Nat.le_succ_of_le b9.size) _, b9.size⟩
  clear b9 hs1 hfa
  go_wp2_with fail
  refine (faulted_yes (.iface ty1 v1) c p _ (HB8.out.2.1.code.below HX9.out.1)).mono ?_
  rintro e w12 ⟨rfl, b12⟩
  have HX12 : Hid (Below w8.heap.size w8 w12) := HX9.out.1.trans (b12.mono HX9.out.1.size)
  obtain ⟨q0, q1, r0, r1⟩ := HG9.out.later b12
  clear b12
  go_wp2_with fail
  refine (faulted_yes (.iface ty2 v2) c p _ (HB8.out.2.2.code.below HX12.out)).mono ?_
  rintro e w13 ⟨rfl, b13⟩
  have HX13 : Hid (Below w.heap.size w w13) := HB8.out.1.trans ((HX12.out.trans (b13.mono HX12.out.size)).mono HB8.out.1.size)
  clear b13
  go_wp2_with fail
  go_ret
  exact ⟨rfl, HX13.out⟩
set_option maxRecDepth 100000 in
set_option maxHeartbeats 2000000 in
theorem rruns_bad2 (pa : Option Addr) (pcap : Nat) (ps : List Pk) (per : Int) (na : Option Addr) (ncap : Nat) (ns : List Int) (da : Option Addr) (dcap : Nat) (ds : List Int) (w : World) (ad : Nat → Addr) (he : Errs9 w ad) (hp : LiesP w pa ps) (hpa : pa = none → ps = [] ∧ pcap = 0) (hpc : ps.length ≤ pcap) (hpm : pcap ≤ maxLen) (hn : LiesN w na ns) (hna : na = none → ns = [] ∧ ncap = 0) (hd : LiesN w da ds) (hda : da = none → ds = [] ∧ dcap = 0) (hm : ps.length ≤ 80 ∨ ps.length = 301) (hnn : ns.length ≤ 30) (hdd : ds.length ≤ 30) (ho : OkPks ps) (h1 : 1 ≤ per) (h2 : per ≤ 1000) (k : Nat) (hk : NumsFault 0 100 ns k) (hk0 : 0 < k) (j : Nat) (hj : NumsFault 0 1099511627776 ds j) (hj0 : 0 < j) :
    Calls Tryd.prog 9 #[.slice pa ps.length pcap, .int .i64 per, .slice na ns.length ncap, .slice da ds.length dcap] w fun e w' => e = .returned (.bool true) ∧ Below w.heap.size w w' := by
  obtain ⟨i0, hi, hz0, hz1, hz2⟩ := info_parts Tryd.infoInt
  have HP : Hid (LiesP w pa ps ∧ (pa = none → ps = [] ∧ pcap = 0)) := ⟨hp, hpa⟩
  have HN : Hid (LiesN w na ns ∧ (na = none → ns = [] ∧ ncap = 0)) := ⟨hn, hna⟩
  have HD : Hid (LiesN w da ds ∧ (da = none → ds = [] ∧ dcap = 0)) := ⟨hd, hda⟩
  have HFit : Hid (∀ w', Calls Tryd.prog 24 #[.slice pa ps.length pcap, .int .i64 80] w' fun e w'' => e = .returned (.bool true) ∧ w'' = w') := fun w' => fitPkts_yes pa ps.length pcap 80 w' (Nat.le_trans hpc hpm) (by omega)
  have HRun : Hid (∀ W a3 k3 a5 k5, Below w.heap.size w W → LiesP W a3 ps → LiesN W a5 ns → ps.length ≤ k3 → k3 ≤ maxLen → Calls Tryd.prog 35 #[.slice a3 ps.length k3, .int .i64 per, .slice a5 ns.length k5] W fun e w' => ∃ ty v, e = .returned (.tuple #[.slice none 0 0, .iface ty v]) ∧ (ErrIs w' (.iface ty v) (k : Int) (-1) ∧ Below W.heap.size W w')) := fun W a3 k3 a5 k5 hb g1 g2 g3 g4 => rankRun_isN a3 k3 ps per a5 k5 ns W ad (he.below hb) g1 g2 ho h1 h2 k hk hk0
  have HDue : Hid (∀ W a3 k3 a5 k5, Below w.heap.size w W → LiesP W a3 ps → LiesN W a5 ds → ps.length ≤ k3 → k3 ≤ maxLen → Calls Tryd.prog 34 #[.slice a3 ps.length k3, .int .i64 per, .slice a5 ds.length k5] W fun e w' => ∃ ty v, e = .returned (.tuple #[.slice none 0 0, .iface ty v]) ∧ (ErrIs w' (.iface ty v) (j : Int) (-1) ∧ Below W.heap.size W w')) := fun W a3 k3 a5 k5 hb g1 g2 g3 g4 => rankDue_isN a3 k3 ps per a5 k5 ds W ad (he.below hb) g1 g2 ho h1 h2 j hj hj0
  have HLf : Hid (∀ W, Below w.heap.size w W → Calls Tryd.prog 26 #[.slice pa ps.length pcap, .int .i64 per] W fun e w' => e = .returned (.agg #[.int .i64 0, .int .i64 (-1)]) ∧ Below W.heap.size W w') := fun W hb => refLinkFault_is pa pcap ps per 0 (-1) W (hp.below hb) hpc hpm (.inr (.inr ⟨ho, h1, h2, rfl, rfl⟩))
  have HNeR : Hid (∀ W, Below w.heap.size w W → Calls Tryd.prog 32 #[.slice na ns.length ncap, .int .i64 0, .int .i64 100] W fun e w' => e = .returned (.int .i64 (k : Int)) ∧ w' = W) := fun W hb => numbersError_is na ncap ns 0 100 W (hn.below hb) k hk
  have HNeD : Hid (∀ W, Below w.heap.size w W → Calls Tryd.prog 32 #[.slice da ds.length dcap, .int .i64 0, .int .i64 1099511627776] W fun e w' => e = .returned (.int .i64 (j : Int)) ∧ w' = W) := fun W hb => numbersError_is da dcap ds 0 1099511627776 W (hd.below hb) j hj
  obtain ⟨c, hcc⟩ : ∃ c : Int, (k : Int) = c := ⟨_, rfl⟩
  have hc : 0 < c := by omega
  have hc0 : (c == 0) = false := by simpa using (show c ≠ 0 by omega)
  rw [hcc] at HRun HNeR
  clear hk hcc hk0
  obtain ⟨d, hdc⟩ : ∃ d : Int, (j : Int) = d := ⟨_, rfl⟩
  have hd0 : 0 < d := by omega
  have hd1 : (d == 0) = false := by simpa using (show d ≠ 0 by omega)
  rw [hdc] at HDue HNeD
  clear hj hdc hj0
  have hm80 : ps.length ≤ 80 := by have := ho.few; omega
  clear ho
  clear hp hpa hpc hpm hn hna hd hda he
  obtain ⟨m, hmm⟩ : ∃ m, ps.length = m := ⟨_, rfl⟩
  obtain ⟨r, hnr⟩ : ∃ r, ns.length = r := ⟨_, rfl⟩
  obtain ⟨s, hds⟩ : ∃ s, ds.length = s := ⟨_, rfl⟩
  have HM : Hid (ps.length = m ∧ ns.length = r ∧ ds.length = s) := ⟨hmm, hnr, hds⟩
  have HOwnP : Hid (∀ w', Below w.heap.size w w' → Calls Tryd.prog 21 #[.slice pa m pcap] w' fun e w'' => ∃ a' cap', e = .returned (.slice a' m cap') ∧ LiesP w'' a' ps ∧ m ≤ cap' ∧ cap' ≤ maxLen ∧ Below w'.heap.size w' w'' ∧ Below w.heap.size w w'') := fun w' hb => by
    have := ownPackets_from pa pcap ps w w' hb HP.out.1 (by omega) HP.out.2
    rwa [hmm] at this
  rw [hmm] at hm HFit HRun HDue HLf hm80 ⊢
  rw [hnr] at hnn HRun HNeR ⊢
  rw [hds] at hdd HDue HNeD ⊢
  clear hmm hnr hds
  have hnn' : ¬ 30 < r := by omega
  have hdd' : ¬ 30 < s := by omega
  go_enter Tryd.func9, Tryd.ntmps9
  go_wp2_with fail
  refine (sends_any _).mono ?_
  rintro e w1 ⟨rfl, hb⟩
  have HB1 : Hid (Below w.heap.size w w1) := hb
  clear hb
  go_wp2_with fail
  refine (HFit.out _).mono ?_
  rintro e w1' ⟨rfl, rfl⟩
  go_wp2_with fail
  refine (HOwnP.out _ HB1.out).mono ?_
  rintro e w3 ⟨a3, k3, rfl, l3, g3, m3, b3, B3⟩
  have HB3 : Hid (Below w.heap.size w w3 ∧ LiesP w3 a3 ps ∧ m ≤ k3 ∧ k3 ≤ maxLen) := ⟨B3, l3, g3, m3⟩
  have HN3 : Hid (LiesN w3 na ns) := HN.out.1.below B3
  clear l3 g3 m3 b3 B3
  go_wp2_with (at_builtin; go_must (refine wpList_append_ints _ rfl _ _ 32 rfl 3 i0 (.int .i64 0) Tryd.underlying32 hi hz0 hz1 hz2 rfl na ncap r ns HM.out.2.1 rfl rfl HN3.out HN.out.2 (by omega) ?_; rintro a4 k4 w4 h4; have HB4 : Hid (Below w.heap.size w w4 ∧ LiesP w4 a3 ps ∧ LiesN w4 a4 ns) := ⟨HB3.out.1.trans (h4.2.2.2.mono HB3.out.1.size), HB3.out.2.1.below h4.2.2.2, h4.1⟩; clear h4))
  refine (HRun.out w4 a3 k3 a4 k4 HB4.out.1 HB4.out.2.1 HB4.out.2.2 HB3.out.2.2.1 HB3.out.2.2.2).mono ?_
  rintro e w5 ⟨ty1, v1, rfl, hE5, b5⟩
  have HB5 : Hid (Below w.heap.size w w5 ∧ ErrIs w5 (.iface ty1 v1) c (-1)) := ⟨HB4.out.1.trans (b5.mono HB4.out.1.size), hE5⟩
  clear b5 hE5
  go_wp2_with fail
  refine (HOwnP.out _ HB5.out.1).mono ?_
  rintro e w6 ⟨a6, k6, rfl, l6, g6, m6, b6, B6⟩
  have HB6 : Hid (Below w.heap.size w w6 ∧ LiesP w6 a6 ps ∧ m ≤ k6 ∧ k6 ≤ maxLen ∧ ErrIs w6 (.iface ty1 v1) c (-1)) := ⟨B6, l6, g6, m6, HB5.out.2.below b6⟩
  have HD6 : Hid (LiesN w6 da ds) := HD.out.1.below B6
  clear l6 g6 m6 b6 B6
  go_wp2_with (at_builtin; go_must (refine wpList_append_ints _ rfl _ _ 32 rfl 3 i0 (.int .i64 0) Tryd.underlying32 hi hz0 hz1 hz2 rfl da dcap s ds HM.out.2.2 rfl rfl HD6.out HD.out.2 (by omega) ?_; rintro a7 k7 w7 h7; have HB7 : Hid (Below w.heap.size w w7 ∧ LiesP w7 a6 ps ∧ LiesN w7 a7 ds ∧ ErrIs w7 (.iface ty1 v1) c (-1)) := ⟨HB6.out.1.trans (h7.2.2.2.mono HB6.out.1.size), HB6.out.2.1.below h7.2.2.2, h7.1, HB6.out.2.2.2.2.below h7.2.2.2⟩; clear h7))
  refine (HDue.out w7 a6 k6 a7 k7 HB7.out.1 HB7.out.2.1 HB7.out.2.2.1 HB6.out.2.2.1 HB6.out.2.2.2.1).mono ?_
  rintro e w8 ⟨ty2, v2, rfl, hE8, b8⟩
  have HB8 : Hid (Below w.heap.size w w8 ∧ ErrIs w8 (.iface ty1 v1) c (-1) ∧ ErrIs w8 (.iface ty2 v2) d (-1)) := ⟨HB7.out.1.trans (b8.mono HB7.out.1.size), HB7.out.2.2.2.below b8, hE8⟩
  clear b8 hE8
  go_wp2_with fail
  refine (HLf.out _ HB8.out.1).mono ?_
  rintro e w9 ⟨rfl, b9⟩
  obtain ⟨fa, hfa⟩ : ∃ fa, w9.heap.size = fa := ⟨_, rfl⟩
  have hs1 : (w9.alloc (.cells #[.int .i64 0, .int .i64 (-1)] 39)).heap.size = w9.heap.size + 1 := by simp
  have HA9 : Hid (At2 ((w9.alloc (.cells #[.int .i64 0, .int .i64 (-1)] 39)).alloc (.cells #[.int .i64 0, .int .i64 (-1)] 39)) w9.heap.size (.int .i64 0) (.int .i64 (-1))) := (at2_new w9 _ _ _).later ((Below.refl _ _).alloc (Nat.le_refl _) _)
  have HG9 : Hid (At2 ((w9.alloc (.cells #[.int .i64 0, .int .i64 (-1)] 39)).alloc (.cells #[.int .i64 0, .int .i64 (-1)] 39)) (w9.heap.size + 1) (.int .i64 0) (.int .i64 (-1))) := by
    have := at2_new (w9.alloc (.cells #[.int .i64 0, .int .i64 (-1)] 39)) (.int .i64 0) (.int .i64 (-1)) 39
    rwa [hs1] at this
  have HX9 : Hid (Below w8.heap.size w8 ((w9.alloc (.cells #[.int .i64 0, .int .i64 (-1)] 39)).alloc (.cells #[.int .i64 0, .int .i64 (-1)] 39)) ∧ w8.heap.size ≤ w9.heap.size) := ⟨(b9.alloc b9.size _).alloc (by rw [hs1]; exact Nat.le_succ_of_le b9.size) _, b9.size⟩
  clear b9 hs1 hfa
  go_wp2_with fail
  refine (HNeR.out _ (HB8.out.1.trans (HX9.out.1.mono HB8.out.1.size))).mono ?_
  rintro e w10 ⟨rfl, rfl⟩
  go_wp2_with fail
  refine (bare_any c _).mono ?_
  rintro e w10 ⟨rfl, b10⟩
  have HA10 : Hid (At2 w10 w9.heap.size (.int .i64 0) (.int .i64 (-1))) := HA9.out.later b10
  have HG10 : Hid (At2 w10 (w9.heap.size + 1) (.int .i64 0) (.int .i64 (-1))) := HG9.out.later b10
  have HX10 : Hid (Below w8.heap.size w8 ((w10.setCell ⟨w9.heap.size, 0, none⟩ (.int .i64 c)).setCell ⟨w9.heap.size, 1, none⟩ (.int .i64 (-1)))) := ((HX9.out.1.trans (b10.mono HX9.out.1.size)).setCell HX9.out.2 _).setCell HX9.out.2 _
  obtain ⟨t0, t1, t2, t3⟩ := HA10.out
  clear b10
  go_wp2_with fail
  refine (HNeD.out _ (HB8.out.1.trans (HX10.out.mono HB8.out.1.size))).mono ?_
  rintro e w11 ⟨rfl, rfl⟩
  go_wp2_with fail
  refine (bare_any d _).mono ?_
  rintro e w11 ⟨rfl, b11⟩
  obtain ⟨x0, x1, x2, x3⟩ := (HA10.out.set (.int .i64 c) (.int .i64 (-1))).later b11
  have HG11 : Hid (At2 w11 (w9.heap.size + 1) (.int .i64 0) (.int .i64 (-1))) := (HG10.out.other (h := w9.heap.size) (by omega) (.int .i64 c) (.int .i64 (-1))).later b11
  obtain ⟨y0, y1, y2, y3⟩ := HG11.out
  have HG12 : Hid (At2 ((w11.setCell ⟨w9.heap.size + 1, 0, none⟩ (.int .i64 d)).setCell ⟨w9.heap.size + 1, 1, none⟩ (.int .i64 (-1))) (w9.heap.size + 1) (.int .i64 d) (.int .i64 (-1))) := HG11.out.set _ _
  have HX11 : Hid (Below w8.heap.size w8 ((w11.setCell ⟨w9.heap.size + 1, 0, none⟩ (.int .i64 d)).setCell ⟨w9.heap.size + 1, 1, none⟩ (.int .i64 (-1)))) := ((HX10.out.trans (b11.mono HX10.out.size)).setCell (Nat.le_succ_of_le HX9.out.2) _).setCell (Nat.le_succ_of_le HX9.out.2) _
  clear b11 t0 t1 t2 t3
  go_wp2_with fail
  refine (faulted_yes (.iface ty1 v1) c (-1) _ (HB8.out.2.1.code.below HX11.out)).mono ?_
  rintro e w12 ⟨rfl, b12⟩
  have HX12 : Hid (Below w8.heap.size w8 w12) := HX11.out.trans (b12.mono HX11.out.size)
  obtain ⟨q0, q1, r0, r1⟩ := HG12.out.later b12
  clear b12 x0 x1 x2 x3 y0 y1 y2 y3
  go_wp2_with fail
  refine (faulted_yes (.iface ty2 v2) d (-1) _ (HB8.out.2.2.code.below HX12.out)).mono ?_
  rintro e w13 ⟨rfl, b13⟩
  have HX13 : Hid (Below w.heap.size w w13) := HB8.out.1.trans ((HX12.out.trans (b13.mono HX12.out.size)).mono HB8.out.1.size)
  clear b13
  go_wp2_with fail
  go_ret
  exact ⟨rfl, HX13.out⟩
end Go.Proofs.YtcmgmcngidndcabDoor
