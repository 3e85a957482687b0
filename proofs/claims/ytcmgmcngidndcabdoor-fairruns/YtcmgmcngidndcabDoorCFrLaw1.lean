/- FairRuns: what Run and Tags tell, by the error's number and place; its short ways. -/
import Derived.Test.YtcmgmcngidndcabDoorCRRuns1
import Derived.Test.YtcmgmcngidndcabDoorCFairOf2
import Derived.Test.YtcmgmcngidndcabDoorCTagged
namespace Go.Proofs.YtcmgmcngidndcabDoor
open Go.RowKit

theorem errIs_wts {w : World} {ad : Nat → Addr} (he : Errs9 w ad) {ns : List Int} {c : Nat} (h : WtsFault ns c) (hc : 0 < c) : ∃ ty v, sentOf ad c = .iface ty v ∧ ErrIs w (.iface ty v) c (-1) := by
  rcases h with ⟨rfl, -⟩ | ⟨rfl, -⟩ | ⟨rfl, -⟩
  · exact ⟨_, _, rfl, errIs_sent he 2 (by decide)⟩
  · exact ⟨_, _, rfl, errIs_sent he 1 (by decide)⟩
  · omega
theorem fairCheck_isL (a : Option Addr) (cap : Nat) (ps : List Pk) (per : Int) (na : Option Addr) (nn ncap : Nat) (w : World) (ad : Nat → Addr) (he : Errs9 w ad) (hl : LiesP w a ps) (hcap : ps.length ≤ cap) (hm : cap ≤ maxLen) (c p : Int) (h : LinkFaultIs ps per c p) (hc : 0 < c) :
    Calls Tryd.prog 72 #[.slice a ps.length cap, .int .i64 per, .slice na nn ncap] w fun e w' => ∃ ty v, e = .returned (.iface ty v) ∧ (ErrIs w' (.iface ty v) c p ∧ Below w.heap.size w w') :=
  fairCheck_err1 (R := fun ty v w' => ErrIs w' (.iface ty v) c p ∧ Below w.heap.size w w') a _ cap per na _ ncap w (linkCheck_is a cap ps per c p w ad he hl hcap hm h hc)
theorem fairCheck_isN (a : Option Addr) (cap : Nat) (ps : List Pk) (per : Int) (na : Option Addr) (ncap : Nat) (ns : List Int) (w : World) (ad : Nat → Addr) (he : Errs9 w ad) (hl : LiesP w a ps) (hn : LiesN w na ns) (ho : OkPks ps) (h1 : 1 ≤ per) (h2 : per ≤ 1000) (c : Nat) (h : WtsFault ns c) (hc : 0 < c) :
    Calls Tryd.prog 72 #[.slice a ps.length cap, .int .i64 per, .slice na ns.length ncap] w fun e w' => ∃ ty v, e = .returned (.iface ty v) ∧ (ErrIs w' (.iface ty v) c (-1) ∧ Below w.heap.size w w') := by
  refine fairCheck_err2 (R := fun ty v w' => ErrIs w' (.iface ty v) c (-1) ∧ Below w.heap.size w w') a _ cap per na _ ncap w (linkCheck_ok a cap ps per w hl ho h1 h2) (fun W hb => (checkWeights_bad na ncap ns W ad (he.below hb).nums (hn.below hb) c h hc).mono ?_)
  rintro e w' ⟨rfl, rfl⟩
  obtain ⟨ty, v, e1, e2⟩ := errIs_wts (he.below hb) h hc
  exact ⟨ty, v, by rw [e1], e2, hb⟩
/-- What was sent, as it lies. -/
theorem fairRun_lies (a : Option Addr) (cap : Nat) (ps : List Pk) (per : Int) (na : Option Addr) (ncap : Nat) (ns : List Int) (w : World) (hl : LiesP w a ps) (hn : LiesN w na ns) (ho : OkPks ps) (h1 : 1 ≤ per) (h2 : per ≤ 1000) (hk : WtsAll ns) :
    Calls Tryd.prog 46 #[.slice a ps.length cap, .int .i64 per, .slice na ns.length ncap] w fun e w' => ∃ a' k' l ts, e = .returned (.tuple #[.slice a' ps.length k', .nilIface]) ∧ (LiesS w' a' l ∧ FairSent per ps ns l ts ∧ l.length = ps.length ∧ (a' = none → l = [] ∧ k' = 0)) ∧ Below w.heap.size w w' := by
  refine (fairRun_ok a cap ps per na ncap ns w hl hn ho h1 h2 hk).mono ?_
  rintro e w' ⟨v, rfl, g, gt, l, f, hown, hs, hb, -, -⟩
  obtain ⟨a', k', rfl, -, -, hl', -, hn'⟩ := hown.open
  have hlen := (hs.length hk.ok ho h1).1
  exact ⟨a', k', l, _, by rw [hlen], ⟨hl', hs, hlen, hn'⟩, hb⟩

set_option maxRecDepth 100000 in
set_option maxHeartbeats 1000000 in
theorem frLaw_many (pa : Option Addr) (m pcap : Nat) (per : Int) (na : Option Addr) (nn ncap : Nat) (w : World) (h1 : ¬ (m : Int) ≤ 80) (h2 : m ≠ 301) :
    Calls Tryd.prog 14 #[.slice pa m pcap, .int .i64 per, .slice na nn ncap] w fun e w' => e = .returned (.bool true) ∧ Below w.heap.size w w' := by
  have HF : Hid (∀ w', Calls Tryd.prog 24 #[.slice pa m pcap, .int .i64 80] w' fun e w'' => e = .returned (.bool false) ∧ w'' = w') := fun w' => fitPkts_no pa m pcap 80 w' h1 h2
  clear h1 h2
  go_enter Tryd.func14, Tryd.ntmps14
  go_wp2_with fail
  refine (tagged_any _).mono ?_
  rintro e w1 ⟨rfl, hb⟩
  have HB : Hid (Below w.heap.size w w1) := hb
  clear hb
  go_wp2_with fail
  refine (HF.out _).mono ?_
  rintro e w2 ⟨rfl, rfl⟩
  go_wp2_with fail
  go_ret
  exact ⟨rfl, HB.out⟩
set_option maxRecDepth 100000 in
set_option maxHeartbeats 1000000 in
theorem frLaw_more (pa : Option Addr) (m pcap : Nat) (per : Int) (na : Option Addr) (nn ncap : Nat) (w : World) (hm : m ≤ maxLen) (h1 : (m : Int) ≤ 80 ∨ m = 301) (h : 30 < nn) :
    Calls Tryd.prog 14 #[.slice pa m pcap, .int .i64 per, .slice na nn ncap] w fun e w' => e = .returned (.bool true) ∧ Below w.heap.size w w' := by
  have HF : Hid (∀ w', Calls Tryd.prog 24 #[.slice pa m pcap, .int .i64 80] w' fun e w'' => e = .returned (.bool true) ∧ w'' = w') := fun w' => fitPkts_yes pa m pcap 80 w' hm h1
  clear h1
  go_enter Tryd.func14, Tryd.ntmps14
  go_wp2_with fail
  refine (tagged_any _).mono ?_
  rintro e w1 ⟨rfl, hb⟩
  have HB : Hid (Below w.heap.size w w1) := hb
  clear hb
  go_wp2_with fail
  refine (HF.out _).mono ?_
  rintro e w2 ⟨rfl, rfl⟩
  go_wp2_with fail
  go_ret
  exact ⟨rfl, HB.out⟩
end Go.Proofs.YtcmgmcngidndcabDoor
