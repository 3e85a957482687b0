/- RankRuns: what Run and Deadlines tell, by the error's number and place. -/
import Derived.Test.YtepnfioldbhffabDoorCRankRun
import Derived.Test.YtepnfioldbhffabDoorCKeysOf
import Derived.Test.YtepnfioldbhffabDoorCFault1
import Derived.Test.YtepnfioldbhffabDoorCSameSent
import Derived.Test.YtepnfioldbhffabDoorCLateLaw1
import Derived.Test.YtepnfioldbhffabDoorCTwoAt
namespace Go.Proofs.YtepnfioldbhffabDoor
open Go.RowKit

theorem rankRun_isL (a : Option Addr) (cap : Nat) (ps : List Pk) (per : Int) (na : Option Addr) (nn ncap : Nat) (w : World) (ad : Nat → Addr) (he : Errs9 w ad) (hl : LiesP w a ps) (hcap : ps.length ≤ cap) (hm : cap ≤ maxLen) (c p : Int) (h : LinkFaultIs ps per c p) (hc : 0 < c) :
    Calls Tryd.prog 35 #[.slice a ps.length cap, .int .i64 per, .slice na nn ncap] w fun e w' => ∃ ty v, e = .returned (.tuple #[.slice none 0 0, .iface ty v]) ∧ (ErrIs w' (.iface ty v) c p ∧ Below w.heap.size w w') := by
  refine rankRun_err1 (R := fun ty v w' => ErrIs w' (.iface ty v) c p ∧ Below w.heap.size w w') a _ cap per na _ ncap w (fun W hB => (linkCheck_is a cap ps per c p W ad (he.below hB.below) (hl.below hB.below) hcap hm h hc).mono ?_)
  rintro e w' ⟨ty, v, rfl, hE, hb⟩
  exact ⟨ty, v, rfl, hE, hB.below.trans (hb.mono hB.below.size)⟩
theorem rankRun_isN (a : Option Addr) (cap : Nat) (ps : List Pk) (per : Int) (na : Option Addr) (ncap : Nat) (ns : List Int) (w : World) (ad : Nat → Addr) (he : Errs9 w ad) (hl : LiesP w a ps) (hn : LiesN w na ns) (ho : OkPks ps) (h1 : 1 ≤ per) (h2 : per ≤ 1000) (c : Nat) (h : NumsFault 0 100 ns c) (hc : 0 < c) :
    Calls Tryd.prog 35 #[.slice a ps.length cap, .int .i64 per, .slice na ns.length ncap] w fun e w' => ∃ ty v, e = .returned (.tuple #[.slice none 0 0, .iface ty v]) ∧ (ErrIs w' (.iface ty v) c (-1) ∧ Below w.heap.size w w') := by
  refine rankRun_err2 (R := fun ty v w' => ErrIs w' (.iface ty v) c (-1) ∧ Below w.heap.size w w') a _ cap per na _ ncap w (fun W hB => linkCheck_ok a cap ps per W (hl.below hB.below) ho h1 h2) (fun W hB => (checkUpTo_bad na ncap ns 100 W ad (he.below hB.below).nums (hn.below hB.below) c h hc).mono ?_)
  rintro e w' ⟨rfl, hb⟩
  have hb' := hB.below.trans (hb.mono hB.below.size)
  obtain ⟨ty, v, e1, e2⟩ := errIs_nums (he.below hb') h hc
  exact ⟨ty, v, by rw [e1], e2, hb'⟩
/-- What was sent, as it lies. -/
theorem rankRun_lies (a : Option Addr) (cap : Nat) (ps : List Pk) (per : Int) (na : Option Addr) (ncap : Nat) (ns : List Int) (w : World) (hl : LiesP w a ps) (hn : LiesN w na ns) (ho : OkPks ps) (h1 : 1 ≤ per) (h2 : per ≤ 1000) (hk : NumsOk 0 100 ns) :
    Calls Tryd.prog 35 #[.slice a ps.length cap, .int .i64 per, .slice na ns.length ncap] w fun e w' => ∃ a' k' l, e = .returned (.tuple #[.slice a' ps.length k', .nilIface]) ∧ (LiesS w' a' l ∧ Sched per ps (rankKeys ps ns) l ∧ l.length = ps.length ∧ (a' = none → l = [] ∧ k' = 0)) ∧ Below w.heap.size w w' := by
  refine (rankRun_ok a cap ps per na ncap ns w hl hn ho h1 h2 hk).mono ?_
  rintro e w' ⟨v, rfl, l, hown, hs, hlen, hb⟩
  obtain ⟨a', k', rfl, -, -, hl', -, hn'⟩ := hown.open
  exact ⟨a', k', l, by rw [hlen], ⟨hl', hs, hlen, hn'⟩, hb⟩
theorem rankDue_isL (a : Option Addr) (cap : Nat) (ps : List Pk) (per : Int) (na : Option Addr) (nn ncap : Nat) (w : World) (ad : Nat → Addr) (he : Errs9 w ad) (hl : LiesP w a ps) (hcap : ps.length ≤ cap) (hm : cap ≤ maxLen) (c p : Int) (h : LinkFaultIs ps per c p) (hc : 0 < c) :
    Calls Tryd.prog 34 #[.slice a ps.length cap, .int .i64 per, .slice na nn ncap] w fun e w' => ∃ ty v, e = .returned (.tuple #[.slice none 0 0, .iface ty v]) ∧ (ErrIs w' (.iface ty v) c p ∧ Below w.heap.size w w') := by
  refine rankDue_err1 (R := fun ty v w' => ErrIs w' (.iface ty v) c p ∧ Below w.heap.size w w') a _ cap per na _ ncap w (fun W hB => (linkCheck_is a cap ps per c p W ad (he.below hB.below) (hl.below hB.below) hcap hm h hc).mono ?_)
  rintro e w' ⟨ty, v, rfl, hE, hb⟩
  exact ⟨ty, v, rfl, hE, hB.below.trans (hb.mono hB.below.size)⟩
theorem rankDue_isN (a : Option Addr) (cap : Nat) (ps : List Pk) (per : Int) (na : Option Addr) (ncap : Nat) (ns : List Int) (w : World) (ad : Nat → Addr) (he : Errs9 w ad) (hl : LiesP w a ps) (hn : LiesN w na ns) (ho : OkPks ps) (h1 : 1 ≤ per) (h2 : per ≤ 1000) (c : Nat) (h : NumsFault 0 1099511627776 ns c) (hc : 0 < c) :
    Calls Tryd.prog 34 #[.slice a ps.length cap, .int .i64 per, .slice na ns.length ncap] w fun e w' => ∃ ty v, e = .returned (.tuple #[.slice none 0 0, .iface ty v]) ∧ (ErrIs w' (.iface ty v) c (-1) ∧ Below w.heap.size w w') := by
  refine rankDue_err2 (R := fun ty v w' => ErrIs w' (.iface ty v) c (-1) ∧ Below w.heap.size w w') a _ cap per na _ ncap w (fun W hB => linkCheck_ok a cap ps per W (hl.below hB.below) ho h1 h2) (fun W hB => (checkUpTo_bad na ncap ns 1099511627776 W ad (he.below hB.below).nums (hn.below hB.below) c h hc).mono ?_)
  rintro e w' ⟨rfl, hb⟩
  have hb' := hB.below.trans (hb.mono hB.below.size)
  obtain ⟨ty, v, e1, e2⟩ := errIs_nums (he.below hb') h hc
  exact ⟨ty, v, by rw [e1], e2, hb'⟩
/-- What was sent, as it lies. -/
theorem rankDue_lies (a : Option Addr) (cap : Nat) (ps : List Pk) (per : Int) (na : Option Addr) (ncap : Nat) (ns : List Int) (w : World) (hl : LiesP w a ps) (hn : LiesN w na ns) (ho : OkPks ps) (h1 : 1 ≤ per) (h2 : per ≤ 1000) (hk : NumsOk 0 1099511627776 ns) :
    Calls Tryd.prog 34 #[.slice a ps.length cap, .int .i64 per, .slice na ns.length ncap] w fun e w' => ∃ a' k' l, e = .returned (.tuple #[.slice a' ps.length k', .nilIface]) ∧ (LiesS w' a' l ∧ Sched per ps (dueKeys ps ns) l ∧ l.length = ps.length ∧ (a' = none → l = [] ∧ k' = 0)) ∧ Below w.heap.size w w' := by
  refine (rankDue_ok a cap ps per na ncap ns w hl hn ho h1 h2 hk).mono ?_
  rintro e w' ⟨v, rfl, l, hown, hs, hlen, hb⟩
  obtain ⟨a', k', rfl, -, -, hl', -, hn'⟩ := hown.open
  exact ⟨a', k', l, by rw [hlen], ⟨hl', hs, hlen, hn'⟩, hb⟩
end Go.Proofs.YtepnfioldbhffabDoor
