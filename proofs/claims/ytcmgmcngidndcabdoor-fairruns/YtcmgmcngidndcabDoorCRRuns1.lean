/- RankRuns: what Run and Deadlines tell, by the error's number and place. -/
import Derived.Test.YtcmgmcngidndcabDoorCRankRun
import Derived.Test.YtcmgmcngidndcabDoorCKeysOf
import Derived.Test.YtcmgmcngidndcabDoorCFault1
import Derived.Test.YtcmgmcngidndcabDoorCSameSent
import Derived.Test.YtcmgmcngidndcabDoorCLateLaw1
namespace Go.Proofs.YtcmgmcngidndcabDoor
open Go.RowKit

/-- Two cells of a block of the call's own. -/
structure At2 (W : World) (g : Nat) (x y : Value) : Prop where
  c0 : W.cell? ⟨g, 0, none⟩ = some x
  c1 : W.cell? ⟨g, 1, none⟩ = some y
  f0 : W.frozen? ⟨g, 0, none⟩ = false
  f1 : W.frozen? ⟨g, 1, none⟩ = false
section
variable {W W' : World} {g h : Nat} {x y : Value}
theorem at2_new (w : World) (x y : Value) (t : TypeId) : At2 (w.alloc (.cells #[x, y] t)) w.heap.size x y := ⟨by simp, by simp, by simp, by simp⟩
theorem At2.later (k : At2 W g x y) (hb : Below W.heap.size W W') : At2 W' g x y :=
  have l := cell_lt k.c0
  ⟨cell_later hb k.c0, cell_later hb k.c1, by rw [hb.frozen (p := ⟨g, 0, none⟩) l]; exact k.f0, by rw [hb.frozen (p := ⟨g, 1, none⟩) l]; exact k.f1⟩
theorem At2.set (k : At2 W g x y) (u v : Value) : At2 ((W.setCell ⟨g, 0, none⟩ u).setCell ⟨g, 1, none⟩ v) g u v := by
  have e0 : (W.setCell ⟨g, 0, none⟩ u).cell? ⟨g, 0, none⟩ = some u := World.cell?_setCell_same' _ _ _ (by rw [k.c0]; rfl)
  have e1 : (W.setCell ⟨g, 0, none⟩ u).cell? ⟨g, 1, none⟩ = some y := by
    rw [World.cell?_setCell_other _ _ _ _ (by intro e; cases e)]
    exact k.c1
  refine ⟨?_, World.cell?_setCell_same' _ _ _ (by rw [e1]; rfl), ?_, ?_⟩
  · rw [World.cell?_setCell_other _ _ _ _ (by intro e; cases e)]
    exact e0
  · rw [World.frozen?_setCell, World.frozen?_setCell]; exact k.f0
  · rw [World.frozen?_setCell, World.frozen?_setCell]; exact k.f1
theorem At2.other (k : At2 W g x y) (hne : h ≠ g) (u v : Value) : At2 ((W.setCell ⟨h, 0, none⟩ u).setCell ⟨h, 1, none⟩ v) g x y := by
  refine ⟨?_, ?_, ?_, ?_⟩
  · rw [World.cell?_setCell_other _ _ _ _ (by intro e; injection e with e1; exact hne e1), World.cell?_setCell_other _ _ _ _ (by intro e; injection e with e1; exact hne e1)]; exact k.c0
  · rw [World.cell?_setCell_other _ _ _ _ (by intro e; injection e with e1; exact hne e1), World.cell?_setCell_other _ _ _ _ (by intro e; injection e with e1; exact hne e1)]; exact k.c1
  · rw [World.frozen?_setCell, World.frozen?_setCell]; exact k.f0
  · rw [World.frozen?_setCell, World.frozen?_setCell]; exact k.f1
end

theorem rankRun_isL (a : Option Addr) (cap : Nat) (ps : List Pk) (per : Int) (na : Option Addr) (nn ncap : Nat) (w : World) (ad : Nat → Addr) (he : Errs9 w ad) (hl : LiesP w a ps) (hcap : ps.length ≤ cap) (hm : cap ≤ maxLen) (c p : Int) (h : LinkFaultIs ps per c p) (hc : 0 < c) :
    Calls Tryd.prog 35 #[.slice a ps.length cap, .int .i64 per, .slice na nn ncap] w fun e w' => ∃ ty v, e = .returned (.tuple #[.slice none 0 0, .iface ty v]) ∧ (ErrIs w' (.iface ty v) c p ∧ Below w.heap.size w w') := by
  refine rankRun_err1 (R := fun ty v w' => ErrIs w' (.iface ty v) c p ∧ Below w.heap.size w w') a _ cap per na _ ncap w (fun W hB => (linkCheck_is a cap ps per c p W ad (he.below hB.below) (hl.below hB.below) hcap hm h hc).mono ?_)
  rintro e w' ⟨ty, v, rfl, hE, hb⟩
  exact ⟨ty, v, rfl, hE, hB.below.trans (hb.mono hB.below.size)⟩
theorem rankRun_isN (a : Option Addr) (cap : Nat) (ps : List Pk) (per : Int) (na : Option Addr) (ncap : Nat) (ns : List Int) (w : World) (ad : Nat → Addr) (he : Errs9 w ad) (hl : LiesP w a ps) (hn : LiesN w na ns) (ho : OkPks ps) (h1 : 1 ≤ per) (h2 : per ≤ 1000) (c : Nat) (h : NumsFault 0 100 ns c) (hc : 0 < c) :
    Calls Tryd.prog 35 #[.slice a ps.length cap, .int .i64 per, .slice na ns.length ncap] w fun e w' => ∃ ty v, e = .returned (.tuple #[.slice none 0 0, .iface ty v]) ∧ (ErrIs w' (.iface ty v) c (-1) ∧ Below w.heap.size w w') := by
  refine rankRun_err2 (R := fun ty v w' => ErrIs w' (.iface ty v) c (-1) ∧ Below w.heap.size w w') a _ cap per na _ ncap w (fun W hB => linkCheck_ok a cap ps per W (hl.below hB.below) ho h1 h2) (fun W hB => (checkUpTo_bad na ncap ns 100 W ad (he.below hB.below).nums (hn.below hB.below) c h hc).mono ?_)
  rintro e w' ⟨rfl, hb⟩
  have hb' := hB.below.trans (hb.mono hB.below.size)
  obtain ⟨ty, v, e1, e2⟩ := errIs_nums (he.below hb') h hc
  exact ⟨ty, v, by rw [e1], e2, hb'⟩
/-- What was sent, as it lies. -/
theorem rankRun_lies (a : Option Addr) (cap : Nat) (ps : List Pk) (per : Int) (na : Option Addr) (ncap : Nat) (ns : List Int) (w : World) (hl : LiesP w a ps) (hn : LiesN w na ns) (ho : OkPks ps) (h1 : 1 ≤ per) (h2 : per ≤ 1000) (hk : NumsOk 0 100 ns) :
    Calls Tryd.prog 35 #[.slice a ps.length cap, .int .i64 per, .slice na ns.length ncap] w fun e w' => ∃ a' k' l, e = .returned (.tuple #[.slice a' ps.length k', .nilIface]) ∧ (LiesS w' a' l ∧ Sched per ps (rankKeys ps ns) l ∧ l.length = ps.length ∧ (a' = none → l = [] ∧ k' = 0)) ∧ Below w.heap.size w w' := by
  refine (rankRun_ok a cap ps per na ncap ns w hl hn ho h1 h2 hk).mono ?_
  rintro e w' ⟨v, rfl, l, hown, hs, hlen, hb⟩
  obtain ⟨a', k', rfl, -, -, hl', -, hn'⟩ := hown.open
  exact ⟨a', k', l, by rw [hlen], ⟨hl', hs, hlen, hn'⟩, hb⟩
theorem rankDue_isL (a : Option Addr) (cap : Nat) (ps : List Pk) (per : Int) (na : Option Addr) (nn ncap : Nat) (w : World) (ad : Nat → Addr) (he : Errs9 w ad) (hl : LiesP w a ps) (hcap : ps.length ≤ cap) (hm : cap ≤ maxLen) (c p : Int) (h : LinkFaultIs ps per c p) (hc : 0 < c) :
    Calls Tryd.prog 34 #[.slice a ps.length cap, .int .i64 per, .slice na nn ncap] w fun e w' => ∃ ty v, e = .returned (.tuple #[.slice none 0 0, .iface ty v]) ∧ (ErrIs w' (.iface ty v) c p ∧ Below w.heap.size w w') := by
  refine rankDue_err1 (R := fun ty v w' => ErrIs w' (.iface ty v) c p ∧ Below w.heap.size w w') a _ cap per na _ ncap w (fun W hB => (linkCheck_is a cap ps per c p W ad (he.below hB.below) (hl.below hB.below) hcap hm h hc).mono ?_)
  rintro e w' ⟨ty, v, rfl, hE, hb⟩
  exact ⟨ty, v, rfl, hE, hB.below.trans (hb.mono hB.below.size)⟩
theorem rankDue_isN (a : Option Addr) (cap : Nat) (ps : List Pk) (per : Int) (na : Option Addr) (ncap : Nat) (ns : List Int) (w : World) (ad : Nat → Addr) (he : Errs9 w ad) (hl : LiesP w a ps) (hn : LiesN w na ns) (ho : OkPks ps) (h1 : 1 ≤ per) (h2 : per ≤ 1000) (c : Nat) (h : NumsFault 0 1099511627776 ns c) (hc : 0 < c) :
    Calls Tryd.prog 34 #[.slice a ps.length cap, .int .i64 per, .slice na ns.length ncap] w fun e w' => ∃ ty v, e = .returned (.tuple #[.slice none 0 0, .iface ty v]) ∧ (ErrIs w' (.iface ty v) c (-1) ∧ Below w.heap.size w w') := by
  refine rankDue_err2 (R := fun ty v w' => ErrIs w' (.iface ty v) c (-1) ∧ Below w.heap.size w w') a _ cap per na _ ncap w (fun W hB => linkCheck_ok a cap ps per W (hl.below hB.below) ho h1 h2) (fun W hB => (checkUpTo_bad na ncap ns 1099511627776 W ad (he.below hB.below).nums (hn.below hB.below) c h hc).mono ?_)
  rintro e w' ⟨rfl, hb⟩
  have hb' := hB.below.trans (hb.mono hB.below.size)
  obtain ⟨ty, v, e1, e2⟩ := errIs_nums (he.below hb') h hc
  exact ⟨ty, v, by rw [e1], e2, hb'⟩
/-- What was sent, as it lies. -/
theorem rankDue_lies (a : Option Addr) (cap : Nat) (ps : List Pk) (per : Int) (na : Option Addr) (ncap : Nat) (ns : List Int) (w : World) (hl : LiesP w a ps) (hn : LiesN w na ns) (ho : OkPks ps) (h1 : 1 ≤ per) (h2 : per ≤ 1000) (hk : NumsOk 0 1099511627776 ns) :
    Calls Tryd.prog 34 #[.slice a ps.length cap, .int .i64 per, .slice na ns.length ncap] w fun e w' => ∃ a' k' l, e = .returned (.tuple #[.slice a' ps.length k', .nilIface]) ∧ (LiesS w' a' l ∧ Sched per ps (dueKeys ps ns) l ∧ l.length = ps.length ∧ (a' = none → l = [] ∧ k' = 0)) ∧ Below w.heap.size w w' := by
  refine (rankDue_ok a cap ps per na ncap ns w hl hn ho h1 h2 hk).mono ?_
  rintro e w' ⟨v, rfl, l, hown, hs, hlen, hb⟩
  obtain ⟨a', k', rfl, -, -, hl', -, hn'⟩ := hown.open
  exact ⟨a', k', l, by rw [hlen], ⟨hl', hs, hlen, hn'⟩, hb⟩
end Go.Proofs.YtcmgmcngidndcabDoor
