/- RoundRuns: what Run tells, by the error's number and place; its short ways. -/
import Derived.Test.YtepnfioldbhffabDoorCSpLaw1
import Derived.Test.YtepnfioldbhffabDoorCRoundOf3
import Derived.Test.YtepnfioldbhffabDoorCCoded
namespace Go.Proofs.YtepnfioldbhffabDoor
open Go.RowKit

theorem roundRun_isL (a : Option Addr) (cap : Nat) (ps : List Pk) (per : Int) (na : Option Addr) (nn ncap : Nat) (w : World) (ad : Nat → Addr) (he : Errs9 w ad) (hl : LiesP w a ps) (hcap : ps.length ≤ cap) (hm : cap ≤ maxLen) (c p : Int) (h : LinkFaultIs ps per c p) (hc : 0 < c) :
    Calls Tryd.prog 42 #[.slice a ps.length cap, .int .i64 per, .slice na nn ncap] w fun e w' => ∃ ty v, e = .returned (.tuple #[.slice none 0 0, .iface ty v]) ∧ (ErrIs w' (.iface ty v) c p ∧ Below w.heap.size w w') :=
  roundRun_err1 (R := fun ty v w' => ErrIs w' (.iface ty v) c p ∧ Below w.heap.size w w') a _ cap per na _ ncap w (linkCheck_is a cap ps per c p w ad he hl hcap hm h hc)
theorem roundRun_isN (a : Option Addr) (cap : Nat) (ps : List Pk) (per : Int) (na : Option Addr) (ncap : Nat) (ns : List Int) (w : World) (ad : Nat → Addr) (he : Errs9 w ad) (hl : LiesP w a ps) (hn : LiesN w na ns) (ho : OkPks ps) (h1 : 1 ≤ per) (h2 : per ≤ 1000) (c : Nat) (h : NumsFault 1 3000 ns c) (hc : 0 < c) :
    Calls Tryd.prog 42 #[.slice a ps.length cap, .int .i64 per, .slice na ns.length ncap] w fun e w' => ∃ ty v, e = .returned (.tuple #[.slice none 0 0, .iface ty v]) ∧ (ErrIs w' (.iface ty v) c (-1) ∧ Below w.heap.size w w') := by
  refine roundRun_err2 (R := fun ty v w' => ErrIs w' (.iface ty v) c (-1) ∧ Below w.heap.size w w') a _ cap per na _ ncap w (linkCheck_ok a cap ps per w hl ho h1 h2) (fun W hb => (checkQuanta_bad na ncap ns W ad (he.below hb).nums (hn.below hb) c h hc).mono ?_)
  rintro e w' ⟨rfl, rfl⟩
  obtain ⟨ty, v, e1, e2⟩ := errIs_numsB (he.below hb) h hc
  exact ⟨ty, v, by rw [e1], e2, hb⟩
/-- What was sent, as it lies. -/
theorem roundRun_lies (a : Option Addr) (cap : Nat) (ps : List Pk) (per : Int) (na : Option Addr) (ncap : Nat) (ns : List Int) (w : World) (hl : LiesP w a ps) (hn : LiesN w na ns) (ho : OkPks ps) (h1 : 1 ≤ per) (h2 : per ≤ 1000) (hk : NumsOk 1 3000 ns) :
    Calls Tryd.prog 42 #[.slice a ps.length cap, .int .i64 per, .slice na ns.length ncap] w fun e w' => ∃ a' k' l, e = .returned (.tuple #[.slice a' ps.length k', .nilIface]) ∧ (LiesS w' a' l ∧ RoundSent per ps ns l ∧ l.length = ps.length ∧ (a' = none → l = [] ∧ k' = 0)) ∧ Below w.heap.size w w' := by
  refine (roundRun_ok a cap ps per na ncap ns w hl hn ho h1 h2 hk).mono ?_
  rintro e w' ⟨v, rfl, l, hown, hs, hb⟩
  obtain ⟨a', k', rfl, -, -, hl', -, hn'⟩ := hown.open
  have hlen := hs.length ho (fun f => (quOf_in hk.each (by omega) f).1)
  exact ⟨a', k', l, by rw [hlen], ⟨hl', hs, hlen, hn'⟩, hb⟩

set_option maxRecDepth 100000 in
set_option maxHeartbeats 1000000 in
theorem rnLaw_many (pa : Option Addr) (m pcap : Nat) (per : Int) (na : Option Addr) (nn ncap : Nat) (x y : Int) (w : World) (h1 : ¬ (m : Int) ≤ 60) (h2 : m ≠ 301) :
    Calls Tryd.prog 12 #[.slice pa m pcap, .int .i64 per, .slice na nn ncap, .int .i64 x, .int .i64 y] w fun e w' => e = .returned (.bool true) ∧ Below w.heap.size w w' := by
  have HF : Hid (∀ w', Calls Tryd.prog 24 #[.slice pa m pcap, .int .i64 60] w' fun e w'' => e = .returned (.bool false) ∧ w'' = w') := fun w' => fitPkts_no pa m pcap 60 w' h1 h2
  clear h1 h2
  go_enter Tryd.func12, Tryd.ntmps12
  go_wp2_with fail
  refine (turned_any _).mono ?_
  rintro e w1 ⟨rfl, hb⟩
  have HB : Hid (Below w.heap.size w w1) := hb
  clear hb
  go_wp2_with fail
  refine (HF.out _).mono ?_
  rintro e w2 ⟨rfl, rfl⟩
  go_wp2_with fail
  go_ret
  exact ⟨rfl, HB.out⟩
set_option maxRecDepth 100000 in
set_option maxHeartbeats 1000000 in
theorem rnLaw_more (pa : Option Addr) (m pcap : Nat) (per : Int) (na : Option Addr) (nn ncap : Nat) (x y : Int) (w : World) (hm : m ≤ maxLen) (h1 : (m : Int) ≤ 60 ∨ m = 301) (h : 30 < nn) :
    Calls Tryd.prog 12 #[.slice pa m pcap, .int .i64 per, .slice na nn ncap, .int .i64 x, .int .i64 y] w fun e w' => e = .returned (.bool true) ∧ Below w.heap.size w w' := by
  have HF : Hid (∀ w', Calls Tryd.prog 24 #[.slice pa m pcap, .int .i64 60] w' fun e w'' => e = .returned (.bool true) ∧ w'' = w') := fun w' => fitPkts_yes pa m pcap 60 w' hm h1
  clear h1
  go_enter Tryd.func12, Tryd.ntmps12
  go_wp2_with fail
  refine (turned_any _).mono ?_
  rintro e w1 ⟨rfl, hb⟩
  have HB : Hid (Below w.heap.size w w1) := hb
  clear hb
  go_wp2_with fail
  refine (HF.out _).mono ?_
  rintro e w2 ⟨rfl, rfl⟩
  go_wp2_with fail
  go_ret
  exact ⟨rfl, HB.out⟩
end Go.Proofs.YtepnfioldbhffabDoor
