/- RankWaits: its short ways. -/
import Derived.Test.YtcmgmcngidndcabDoorCRankBad
import Derived.Test.YtcmgmcngidndcabDoorCOwnInts
import Derived.Test.YtcmgmcngidndcabDoorCSends
import Derived.Test.YtcmgmcngidndcabDoorCFitPkts
import Derived.Test.YtcmgmcngidndcabDoorCAllLeasts
namespace Go.Proofs.YtcmgmcngidndcabDoor
open Go.RowKit

set_option maxRecDepth 100000 in
set_option maxHeartbeats 1000000 in
theorem waits_many (pa : Option Addr) (m pcap : Nat) (per : Int) (na : Option Addr) (nn ncap : Nat) (w : World) (h1 : ¬ (m : Int) ≤ 80) (h2 : m ≠ 301) :
    Calls Tryd.prog 8 #[.slice pa m pcap, .int .i64 per, .slice na nn ncap] w fun e w' => e = .returned (.bool true) ∧ Below w.heap.size w w' := by
  have HF : Hid (∀ w', Calls Tryd.prog 24 #[.slice pa m pcap, .int .i64 80] w' fun e w'' => e = .returned (.bool false) ∧ w'' = w') := fun w' => fitPkts_no pa m pcap 80 w' h1 h2
  clear h1 h2
  go_enter Tryd.func8, Tryd.ntmps8
  go_wp2_with fail
  refine (sends_any _).mono ?_
  rintro e w1 ⟨rfl, hb⟩
  have HB : Hid (Below w.heap.size w w1) := hb
  clear hb
  go_wp2_with fail
  refine (HF.out _).mono ?_
  rintro e w2 ⟨rfl, rfl⟩
  go_wp2_with fail
  go_ret
  exact ⟨rfl, HB.out⟩
set_option maxRecDepth 100000 in
set_option maxHeartbeats 1000000 in
theorem waits_more (pa : Option Addr) (m pcap : Nat) (per : Int) (na : Option Addr) (nn ncap : Nat) (w : World) (hm : m ≤ maxLen) (h1 : (m : Int) ≤ 80 ∨ m = 301) (h : 30 < nn) :
    Calls Tryd.prog 8 #[.slice pa m pcap, .int .i64 per, .slice na nn ncap] w fun e w' => e = .returned (.bool true) ∧ Below w.heap.size w w' := by
  have HF : Hid (∀ w', Calls Tryd.prog 24 #[.slice pa m pcap, .int .i64 80] w' fun e w'' => e = .returned (.bool true) ∧ w'' = w') := fun w' => fitPkts_yes pa m pcap 80 w' hm h1
  clear h1
  go_enter Tryd.func8, Tryd.ntmps8
  go_wp2_with fail
  refine (sends_any _).mono ?_
  rintro e w1 ⟨rfl, hb⟩
  have HB : Hid (Below w.heap.size w w1) := hb
  clear hb
  go_wp2_with fail
  refine (HF.out _).mono ?_
  rintro e w2 ⟨rfl, rfl⟩
  go_wp2_with fail
  go_ret
  exact ⟨rfl, HB.out⟩

set_option maxRecDepth 100000 in
set_option maxHeartbeats 2000000 in
theorem waits_bad (pa : Option Addr) (pcap : Nat) (ps : List Pk) (per : Int) (na : Option Addr) (ncap : Nat) (ns : List Int) (w : World) (ad : Nat → Addr) (he : ErrsBO w ad) (he2 : NumErrs w ad) (hp : LiesP w pa ps) (hpa : pa = none → ps = [] ∧ pcap = 0) (hpc : ps.length ≤ pcap) (hpm : pcap ≤ maxLen) (hn : LiesN w na ns) (hna : na = none → ns = [] ∧ ncap = 0) (hm : ps.length ≤ 80 ∨ ps.length = 301) (hnn : ns.length ≤ 30) (hno : ¬ (OkPks ps ∧ 1 ≤ per ∧ per ≤ 1000 ∧ NumsOk 0 100 ns)) :
    Calls Tryd.prog 8 #[.slice pa ps.length pcap, .int .i64 per, .slice na ns.length ncap] w fun e w' => e = .returned (.bool true) ∧ Below w.heap.size w w' := by
  obtain ⟨i0, hi, hz0, hz1, hz2⟩ := info_parts Tryd.infoInt
  have HP : Hid (LiesP w pa ps ∧ (pa = none → ps = [] ∧ pcap = 0)) := ⟨hp, hpa⟩
  have HN : Hid (LiesN w na ns ∧ (na = none → ns = [] ∧ ncap = 0)) := ⟨hn, hna⟩
  have HFit : Hid (∀ w', Calls Tryd.prog 24 #[.slice pa ps.length pcap, .int .i64 80] w' fun e w'' => e = .returned (.bool true) ∧ w'' = w') := fun w' => fitPkts_yes pa ps.length pcap 80 w' (Nat.le_trans hpc hpm) (by omega)
  have HRun : Hid (∀ W a3 k3 a5 k5, Below w.heap.size w W → LiesP W a3 ps → LiesN W a5 ns → ps.length ≤ k3 → k3 ≤ maxLen → Calls Tryd.prog 35 #[.slice a3 ps.length k3, .int .i64 per, .slice a5 ns.length k5] W fun e w' => ∃ ty v, e = .returned (.tuple #[.slice none 0 0, .iface ty v]) ∧ Below W.heap.size W w') := fun W a3 k3 a5 k5 hb h1 h2 h3 h4 => rankRun_bad a3 k3 ps per a5 k5 ns W ad (he.below hb) (he2.below hb) h1 h3 h4 h2 hno
  clear he he2 hp hpa hpc hpm hn hna hno
  obtain ⟨m, hmm⟩ : ∃ m, ps.length = m := ⟨_, rfl⟩
  obtain ⟨r, hnr⟩ : ∃ r, ns.length = r := ⟨_, rfl⟩
  have HM : Hid (ps.length = m ∧ ns.length = r) := ⟨hmm, hnr⟩
  have HOwnP : Hid (∀ w', Below w.heap.size w w' → Calls Tryd.prog 21 #[.slice pa m pcap] w' fun e w'' => ∃ a' cap', e = .returned (.slice a' m cap') ∧ LiesP w'' a' ps ∧ m ≤ cap' ∧ cap' ≤ maxLen ∧ Below w'.heap.size w' w'' ∧ Below w.heap.size w w'') := fun w' hb => by
    have := ownPackets_from pa pcap ps w w' hb HP.out.1 (by omega) HP.out.2
    rwa [hmm] at this
  rw [hmm] at hm HFit HRun ⊢
  rw [hnr] at hnn HRun ⊢
  clear hmm hnr
  have hnn' : ¬ 30 < r := by omega
  go_enter Tryd.func8, Tryd.ntmps8
  go_wp2_with fail
  refine (sends_any _).mono ?_
  rintro e w1 ⟨rfl, hb⟩
  have HB1 : Hid (Below w.heap.size w w1) := hb
  clear hb
  go_wp2_with fail
  refine (HFit.out _).mono ?_
  rintro e w1' ⟨rfl, rfl⟩
  go_wp2_with fail
  refine (HOwnP.out _ HB1.out).mono ?_
  rintro e w3 ⟨a3, k3, rfl, l3, g3, m3, b3, B3⟩
  have HB3 : Hid (Below w.heap.size w w3 ∧ LiesP w3 a3 ps ∧ m ≤ k3 ∧ k3 ≤ maxLen) := ⟨B3, l3, g3, m3⟩
  have HN3 : Hid (LiesN w3 na ns) := HN.out.1.below B3
  clear l3 g3 m3 b3 B3
  go_wp2_with (at_builtin; go_must (refine wpList_append_ints _ rfl _ _ 32 rfl 3 i0 (.int .i64 0) Tryd.underlying32 hi hz0 hz1 hz2 rfl na ncap r ns HM.out.2 rfl rfl HN3.out HN.out.2 (by omega) ?_; rintro a5 k5 w5 h5; have HB5 : Hid (Below w.heap.size w w5 ∧ LiesP w5 a3 ps ∧ LiesN w5 a5 ns) := ⟨HB3.out.1.trans (h5.2.2.2.mono HB3.out.1.size), HB3.out.2.1.below h5.2.2.2, h5.1⟩; clear h5))
  refine (HRun.out w5 a3 k3 a5 k5 HB5.out.1 HB5.out.2.1 HB5.out.2.2 HB3.out.2.2.1 HB3.out.2.2.2).mono ?_
  rintro e w6 ⟨ty, v, rfl, b6⟩
  have HB6 : Hid (Below w.heap.size w w6) := HB5.out.1.trans (b6.mono HB5.out.1.size)
  clear b6
  go_wp2_with fail
  go_ret
  exact ⟨rfl, HB6.out⟩
end Go.Proofs.YtcmgmcngidndcabDoor
