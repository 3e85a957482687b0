/- Own facts, put together: no statement of its own. -/
import Derived.Test.YtibhkijaafdkoaaGreatDoorQ14
import Derived.Test.YtibhkijaafdkoaaGreatDoorQ22
import Derived.Test.YtibhkijaafdkoaaGreatDoorQ21
import Derived.Test.YtibhkijaafdkoaaGreatDoorQ23
import Derived.Test.YtibhkijaafdkoaaGreatDoorQ28
import Derived.Test.YtibhkijaafdkoaaGreatDoorQ31
import Derived.Deep.RegionHeldLaw
import Derived.Test.YtibhkijaafdkoaaGreatDoorQ01
import Derived.Test.YtibhkijaafdkoaaGreatDoorQ07
import Derived.Test.YtibhkijaafdkoaaGreatDoorQ13
namespace Go.Proofs.YtibhkijaafdkoaaGreatDoor
open Go.RowKit
def LinkFaultIs (ps : List Pk) (per c p : Int) : Prop :=
 (PksFault ps c p ∧ 0 < c) ∨ (OkPks ps ∧ (per < 1 ∨ 1000 < per) ∧ c = 2 ∧ p = -1) ∨ (OkPks ps ∧ 1 ≤ per ∧ per ≤ 1000 ∧ c = 0 ∧ p = -1)
theorem linkCheck_is (a : Option Addr) (cap : Nat) (ps : List Pk) (per c p : Int) (w : World) (ad : Nat → Addr) (he : Errs9 w ad) (hl : LiesP w a ps) (hcap : ps.length ≤ cap) (hm : cap ≤ maxLen) (h : LinkFaultIs ps per c p) (hc : 0 < c) :
  Calls Tryz.prog 52 #[.slice a ps.length cap, .int .i64 per] w fun e w' => ∃ ty v, e = .returned (.iface ty v) ∧ (ErrIs w' (.iface ty v) c p ∧ Below w.heap.size w w') := by
 rcases h with ⟨h, h0⟩ | ⟨ho, hp, rfl, rfl⟩ | ⟨ho, h1, h2, rfl, rfl⟩
 ·
  refine linkCheck_err (R := fun ty v w' => ErrIs w' (.iface ty v) c p ∧ Below w.heap.size w w') a ps.length cap per w ((pcheck_is a cap ps w ad he hl hcap hm c p h).mono ?_)
  rintro e w' ⟨E, rfl, hE, hb⟩
  obtain ⟨ty, v, rfl⟩ := hE.some_ (by omega)
  exact ⟨ty, v, rfl, hE, hb⟩
 ·
  refine (linkCheck_per a cap ps per w ad he.bo hl ho hp).mono ?_
  rintro e w' ⟨rfl, hb⟩
  exact ⟨_, _, rfl, errIs_sent (he.below hb) 1 (by decide), hb⟩
 · omega
theorem fifoRun_is (a : Option Addr) (cap : Nat) (ps : List Pk) (per c p : Int) (w : World) (ad : Nat → Addr) (he : Errs9 w ad) (hl : LiesP w a ps) (hcap : ps.length ≤ cap) (hm : cap ≤ maxLen) (h : LinkFaultIs ps per c p) (hc : 0 < c) :
  Calls Tryz.prog 85 #[.slice a ps.length cap, .int .i64 per] w fun e w' => ∃ ty v, e = .returned (.tuple #[.slice none 0 0, .iface ty v]) ∧ (ErrIs w' (.iface ty v) c p ∧ Below w.heap.size w w') :=
 fifoRun_err (R := fun ty v w' => ErrIs w' (.iface ty v) c p ∧ Below w.heap.size w w') a ps.length cap per w (linkCheck_is a cap ps per c p w ad he hl hcap hm h hc)
end Go.Proofs.YtibhkijaafdkoaaGreatDoor

namespace Go.Proofs.YtibhkijaafdkoaaGreatDoor
open Go.RowKit
theorem errIs_nums {w : World} {ad : Nat → Addr} (he : Errs9 w ad) {hi : Int} {ns : List Int} {c : Nat} (h : NumsFault 0 hi ns c) (hc : 0 < c) : ∃ ty v, sentOf ad c = .iface ty v ∧ ErrIs w (.iface ty v) c (-1) := by
 rcases h with ⟨rfl, -⟩ | ⟨rfl, -⟩ | ⟨rfl, -⟩
 · exact ⟨_, _, rfl, errIs_sent he 2 (by decide)⟩
 · exact ⟨_, _, rfl, errIs_sent he 1 (by decide)⟩
 · omega
theorem Errs9.nums {w : World} {ad : Nat → Addr} (he : Errs9 w ad) : NumErrs w ad := ⟨he.c1, he.c2⟩
theorem errIs_numsB {w : World} {ad : Nat → Addr} (he : Errs9 w ad) {lo hi : Int} {ns : List Int} {c : Nat} (h : NumsFault lo hi ns c) (hc : 0 < c) : ∃ ty v, sentOf ad c = .iface ty v ∧ ErrIs w (.iface ty v) c (-1) := by
 rcases h with ⟨rfl, -⟩ | ⟨rfl, -⟩ | ⟨rfl, -⟩
 · exact ⟨_, _, rfl, errIs_sent he 2 (by decide)⟩
 · exact ⟨_, _, rfl, errIs_sent he 1 (by decide)⟩
 · omega
end Go.Proofs.YtibhkijaafdkoaaGreatDoor

namespace Go.Proofs.YtibhkijaafdkoaaGreatDoor
open Go.RowKit
theorem rankRun_isL (a : Option Addr) (cap : Nat) (ps : List Pk) (per : Int) (na : Option Addr) (nn ncap : Nat) (w : World) (ad : Nat → Addr) (he : Errs9 w ad) (hl : LiesP w a ps) (hcap : ps.length ≤ cap) (hm : cap ≤ maxLen) (c p : Int) (h : LinkFaultIs ps per c p) (hc : 0 < c) :
  Calls Tryz.prog 86 #[.slice a ps.length cap, .int .i64 per, .slice na nn ncap] w fun e w' => ∃ ty v, e = .returned (.tuple #[.slice none 0 0, .iface ty v]) ∧ (ErrIs w' (.iface ty v) c p ∧ Below w.heap.size w w') := by
 refine rankRun_err1 (R := fun ty v w' => ErrIs w' (.iface ty v) c p ∧ Below w.heap.size w w') a _ cap per na _ ncap w (fun W hB => (linkCheck_is a cap ps per c p W ad (he.below hB.below) (hl.below hB.below) hcap hm h hc).mono ?_)
 rintro e w' ⟨ty, v, rfl, hE, hb⟩
 exact ⟨ty, v, rfl, hE, hB.below.trans (hb.mono hB.below.size)⟩
theorem rankRun_isN (a : Option Addr) (cap : Nat) (ps : List Pk) (per : Int) (na : Option Addr) (ncap : Nat) (ns : List Int) (w : World) (ad : Nat → Addr) (he : Errs9 w ad) (hl : LiesP w a ps) (hn : LiesN w na ns) (ho : OkPks ps) (h1 : 1 ≤ per) (h2 : per ≤ 1000) (c : Nat) (h : NumsFault 0 100 ns c) (hc : 0 < c) :
  Calls Tryz.prog 86 #[.slice a ps.length cap, .int .i64 per, .slice na ns.length ncap] w fun e w' => ∃ ty v, e = .returned (.tuple #[.slice none 0 0, .iface ty v]) ∧ (ErrIs w' (.iface ty v) c (-1) ∧ Below w.heap.size w w') := by
 refine rankRun_err2 (R := fun ty v w' => ErrIs w' (.iface ty v) c (-1) ∧ Below w.heap.size w w') a _ cap per na _ ncap w (fun W hB => linkCheck_ok a cap ps per W (hl.below hB.below) ho h1 h2) (fun W hB => (checkUpTo_bad na ncap ns 100 W ad (he.below hB.below).nums (hn.below hB.below) c h hc).mono ?_)
 rintro e w' ⟨rfl, hb⟩
 have hb' := hB.below.trans (hb.mono hB.below.size)
 obtain ⟨ty, v, e1, e2⟩ := errIs_nums (he.below hb') h hc
 exact ⟨ty, v, by rw [e1], e2, hb'⟩
theorem rankDue_isL (a : Option Addr) (cap : Nat) (ps : List Pk) (per : Int) (na : Option Addr) (nn ncap : Nat) (w : World) (ad : Nat → Addr) (he : Errs9 w ad) (hl : LiesP w a ps) (hcap : ps.length ≤ cap) (hm : cap ≤ maxLen) (c p : Int) (h : LinkFaultIs ps per c p) (hc : 0 < c) :
  Calls Tryz.prog 87 #[.slice a ps.length cap, .int .i64 per, .slice na nn ncap] w fun e w' => ∃ ty v, e = .returned (.tuple #[.slice none 0 0, .iface ty v]) ∧ (ErrIs w' (.iface ty v) c p ∧ Below w.heap.size w w') := by
 refine rankDue_err1 (R := fun ty v w' => ErrIs w' (.iface ty v) c p ∧ Below w.heap.size w w') a _ cap per na _ ncap w (fun W hB => (linkCheck_is a cap ps per c p W ad (he.below hB.below) (hl.below hB.below) hcap hm h hc).mono ?_)
 rintro e w' ⟨ty, v, rfl, hE, hb⟩
 exact ⟨ty, v, rfl, hE, hB.below.trans (hb.mono hB.below.size)⟩
theorem rankDue_isN (a : Option Addr) (cap : Nat) (ps : List Pk) (per : Int) (na : Option Addr) (ncap : Nat) (ns : List Int) (w : World) (ad : Nat → Addr) (he : Errs9 w ad) (hl : LiesP w a ps) (hn : LiesN w na ns) (ho : OkPks ps) (h1 : 1 ≤ per) (h2 : per ≤ 1000) (c : Nat) (h : NumsFault 0 1099511627776 ns c) (hc : 0 < c) :
  Calls Tryz.prog 87 #[.slice a ps.length cap, .int .i64 per, .slice na ns.length ncap] w fun e w' => ∃ ty v, e = .returned (.tuple #[.slice none 0 0, .iface ty v]) ∧ (ErrIs w' (.iface ty v) c (-1) ∧ Below w.heap.size w w') := by
 refine rankDue_err2 (R := fun ty v w' => ErrIs w' (.iface ty v) c (-1) ∧ Below w.heap.size w w') a _ cap per na _ ncap w (fun W hB => linkCheck_ok a cap ps per W (hl.below hB.below) ho h1 h2) (fun W hB => (checkUpTo_bad na ncap ns 1099511627776 W ad (he.below hB.below).nums (hn.below hB.below) c h hc).mono ?_)
 rintro e w' ⟨rfl, hb⟩
 have hb' := hB.below.trans (hb.mono hB.below.size)
 obtain ⟨ty, v, e1, e2⟩ := errIs_nums (he.below hb') h hc
 exact ⟨ty, v, by rw [e1], e2, hb'⟩
theorem roundRun_isL (a : Option Addr) (cap : Nat) (ps : List Pk) (per : Int) (na : Option Addr) (nn ncap : Nat) (w : World) (ad : Nat → Addr) (he : Errs9 w ad) (hl : LiesP w a ps) (hcap : ps.length ≤ cap) (hm : cap ≤ maxLen) (c p : Int) (h : LinkFaultIs ps per c p) (hc : 0 < c) :
  Calls Tryz.prog 26 #[.slice a ps.length cap, .int .i64 per, .slice na nn ncap] w fun e w' => ∃ ty v, e = .returned (.tuple #[.slice none 0 0, .iface ty v]) ∧ (ErrIs w' (.iface ty v) c p ∧ Below w.heap.size w w') :=
 roundRun_err1 (R := fun ty v w' => ErrIs w' (.iface ty v) c p ∧ Below w.heap.size w w') a _ cap per na _ ncap w (linkCheck_is a cap ps per c p w ad he hl hcap hm h hc)
theorem roundRun_isN (a : Option Addr) (cap : Nat) (ps : List Pk) (per : Int) (na : Option Addr) (ncap : Nat) (ns : List Int) (w : World) (ad : Nat → Addr) (he : Errs9 w ad) (hl : LiesP w a ps) (hn : LiesN w na ns) (ho : OkPks ps) (h1 : 1 ≤ per) (h2 : per ≤ 1000) (c : Nat) (h : NumsFault 1 3000 ns c) (hc : 0 < c) :
  Calls Tryz.prog 26 #[.slice a ps.length cap, .int .i64 per, .slice na ns.length ncap] w fun e w' => ∃ ty v, e = .returned (.tuple #[.slice none 0 0, .iface ty v]) ∧ (ErrIs w' (.iface ty v) c (-1) ∧ Below w.heap.size w w') := by
 refine roundRun_err2 (R := fun ty v w' => ErrIs w' (.iface ty v) c (-1) ∧ Below w.heap.size w w') a _ cap per na _ ncap w (linkCheck_ok a cap ps per w hl ho h1 h2) (fun W hb => (checkQuanta_bad na ncap ns W ad (he.below hb).nums (hn.below hb) c h hc).mono ?_)
 rintro e w' ⟨rfl, rfl⟩
 obtain ⟨ty, v, e1, e2⟩ := errIs_numsB (he.below hb) h hc
 exact ⟨ty, v, by rw [e1], e2, hb⟩
theorem errIs_wts {w : World} {ad : Nat → Addr} (he : Errs9 w ad) {ns : List Int} {c : Nat} (h : WtsFault ns c) (hc : 0 < c) : ∃ ty v, sentOf ad c = .iface ty v ∧ ErrIs w (.iface ty v) c (-1) := by
 rcases h with ⟨rfl, -⟩ | ⟨rfl, -⟩ | ⟨rfl, -⟩
 · exact ⟨_, _, rfl, errIs_sent he 2 (by decide)⟩
 · exact ⟨_, _, rfl, errIs_sent he 1 (by decide)⟩
 · omega
theorem fairCheck_isL (a : Option Addr) (cap : Nat) (ps : List Pk) (per : Int) (na : Option Addr) (nn ncap : Nat) (w : World) (ad : Nat → Addr) (he : Errs9 w ad) (hl : LiesP w a ps) (hcap : ps.length ≤ cap) (hm : cap ≤ maxLen) (c p : Int) (h : LinkFaultIs ps per c p) (hc : 0 < c) :
  Calls Tryz.prog 135 #[.slice a ps.length cap, .int .i64 per, .slice na nn ncap] w fun e w' => ∃ ty v, e = .returned (.iface ty v) ∧ (ErrIs w' (.iface ty v) c p ∧ Below w.heap.size w w') :=
 fairCheck_err1 (R := fun ty v w' => ErrIs w' (.iface ty v) c p ∧ Below w.heap.size w w') a _ cap per na _ ncap w (linkCheck_is a cap ps per c p w ad he hl hcap hm h hc)
theorem fairCheck_isN (a : Option Addr) (cap : Nat) (ps : List Pk) (per : Int) (na : Option Addr) (ncap : Nat) (ns : List Int) (w : World) (ad : Nat → Addr) (he : Errs9 w ad) (hl : LiesP w a ps) (hn : LiesN w na ns) (ho : OkPks ps) (h1 : 1 ≤ per) (h2 : per ≤ 1000) (c : Nat) (h : WtsFault ns c) (hc : 0 < c) :
  Calls Tryz.prog 135 #[.slice a ps.length cap, .int .i64 per, .slice na ns.length ncap] w fun e w' => ∃ ty v, e = .returned (.iface ty v) ∧ (ErrIs w' (.iface ty v) c (-1) ∧ Below w.heap.size w w') := by
 refine fairCheck_err2 (R := fun ty v w' => ErrIs w' (.iface ty v) c (-1) ∧ Below w.heap.size w w') a _ cap per na _ ncap w (linkCheck_ok a cap ps per w hl ho h1 h2) (fun W hb => (checkWeights_bad na ncap ns W ad (he.below hb).nums (hn.below hb) c h hc).mono ?_)
 rintro e w' ⟨rfl, rfl⟩
 obtain ⟨ty, v, e1, e2⟩ := errIs_wts (he.below hb) h hc
 exact ⟨ty, v, by rw [e1], e2, hb⟩
end Go.Proofs.YtibhkijaafdkoaaGreatDoor

namespace Go.Proofs.YtibhkijaafdkoaaGreatDoor
open Go.RowKit
structure BkAt (w : World) (g : Nat) (b : Bk) : Prop where
 c0 : w.cell? ⟨g, 0, none⟩ = some (.int .i64 b.most)
 c1 : w.cell? ⟨g, 1, none⟩ = some (.int .i64 b.rate)
 c2 : w.cell? ⟨g, 2, none⟩ = some (.int .i64 b.has)
 c3 : w.cell? ⟨g, 3, none⟩ = some (.int .i64 b.last)
 f2 : w.frozen? ⟨g, 2, none⟩ = false
 f3 : w.frozen? ⟨g, 3, none⟩ = false
theorem BkAt.lt {w : World} {g : Nat} {b : Bk} (h : BkAt w g b) : g < w.heap.size := cell_lt h.c0
theorem BkAt.but {S : Nat → Prop} {w w' : World} {g : Nat} {b : Bk} (h : BkAt w g b) (hb : But S w w') (hs : ¬ S g) : BkAt w' g b :=
 have l := h.lt
 ⟨by rw [hb.cell (p := ⟨g, 0, none⟩) l hs]; exact h.c0, by rw [hb.cell (p := ⟨g, 1, none⟩) l hs]; exact h.c1, by rw [hb.cell (p := ⟨g, 2, none⟩) l hs]; exact h.c2, by rw [hb.cell (p := ⟨g, 3, none⟩) l hs]; exact h.c3,
  by rw [hb.frozen (p := ⟨g, 2, none⟩) l hs]; exact h.f2, by rw [hb.frozen (p := ⟨g, 3, none⟩) l hs]; exact h.f3⟩
theorem BkAt.below {w w' : World} {g : Nat} {b : Bk} (h : BkAt w g b) (hb : Below w.heap.size w w') : BkAt w' g b := h.but (S := fun _ => False) (.ofBelow hb) id
set_option maxHeartbeats 400000 in
theorem after_ok (m r h d : Int) (w : World) (h0 : 0 ≤ h) (h1 : h ≤ 20000000) (r0 : 0 ≤ r * d) (r1 : r * d ≤ 109951162777600000) :
  Calls Tryz.prog 192 #[.agg #[.int .i64 m, .int .i64 r], .int .i64 h, .int .i64 d] w fun e w' => e = .returned (.int .i64 (min m (h + r * d))) ∧ w' = w.alloc (.cells #[.int .i64 m, .int .i64 r] 245) := by
 go_enter Tryz.func192, Tryz.ntmps192
 go_wp2
 all_goals
  go_ret
  exact ⟨congrArg (fun z => Ending.returned (.int .i64 z)) (by omega), rfl⟩
set_option maxHeartbeats 400000 in
theorem hasAt_core (g : Nat) (m r h l t v : Int) (w : World) (c0 : w.cell? ⟨g, 0, none⟩ = some (.int .i64 m)) (c1 : w.cell? ⟨g, 1, none⟩ = some (.int .i64 r)) (c2 : w.cell? ⟨g, 2, none⟩ = some (.int .i64 h)) (c3 : w.cell? ⟨g, 3, none⟩ = some (.int .i64 l)) (l0 : 0 ≤ l) (ht : l ≤ t) (t1 : t ≤ 1099511627776)
  (H : Hid (∀ w' : World, Calls Tryz.prog 192 #[.agg #[.int .i64 m, .int .i64 r], .int .i64 h, .int .i64 (t - l)] w' fun e w'' => e = .returned (.int .i64 v) ∧ w'' = w'.alloc (.cells #[.int .i64 m, .int .i64 r] 245))) :
  Calls Tryz.prog 179 #[.pointer (some ⟨g, 0, none⟩), .int .i64 t] w fun e w' => e = .returned (.int .i64 v) ∧ Below w.heap.size w w' := by
 have hw : IntKind.i64.wrap (t - l) = t - l := IntWalk.i64_in _ (by omega)
 go_enter Tryz.func179, Tryz.ntmps179
 go_wp2_with fail
 go_region_with (first
  | (go_simp; go_at_call 192; go_must (refine (H.out _).mono ?_; rintro e w1 ⟨rfl, rfl⟩))
  | fail)
 all_goals
  go_wp2_with fail
  go_ret
  exact ⟨rfl, (Below.refl _ _).drew.alloc (Nat.le_refl _) _⟩
theorem hasAt_ok (g : Nat) (b : Bk) (t : Int) (w : World) (hb : BkAt w g b) (hk : b.Ok) (ht : b.last ≤ t) (t1 : t ≤ 1099511627776) :
  Calls Tryz.prog 179 #[.pointer (some ⟨g, 0, none⟩), .int .i64 t] w fun e w' => e = .returned (.int .i64 (b.lev t)) ∧ Below w.heap.size w w' := by
 obtain ⟨r0, r1⟩ := hk.grow ht t1
 exact hasAt_core g b.most b.rate b.has b.last t (b.lev t) w hb.c0 hb.c1 hb.c2 hb.c3 hk.l0 ht t1 (fun w' => after_ok b.most b.rate b.has (t - b.last) w' hk.h0 (by have := hk.h1; have := hk.m1; omega) r0 r1)
end Go.Proofs.YtibhkijaafdkoaaGreatDoor

namespace Go.Proofs.YtibhkijaafdkoaaGreatDoor
open Go.RowKit
structure Errs4 (w : World) (ad : Nat → Addr) : Prop where
 c1 : w.cell? ⟨3, 0, none⟩ = some (.iface 271 (.pointer (some (ad 1))))
 c2 : w.cell? ⟨4, 0, none⟩ = some (.iface 271 (.pointer (some (ad 2))))
 c3 : w.cell? ⟨0, 0, none⟩ = some (.iface 271 (.pointer (some (ad 3))))
 c4 : w.cell? ⟨5, 0, none⟩ = some (.iface 271 (.pointer (some (ad 4))))
theorem Errs4.below {w w' : World} {ad : Nat → Addr} (h : Errs4 w ad) (hb : Below w.heap.size w w') : Errs4 w' ad :=
 ⟨cell_later hb h.c1, cell_later hb h.c2, cell_later hb h.c3, cell_later hb h.c4⟩
set_option maxHeartbeats 400000 in
theorem checkTick_any (g : Nat) (l t : Int) (w : World) (ad : Nat → Addr) (he : Errs4 w ad) (c3 : w.cell? ⟨g, 3, none⟩ = some (.int .i64 l)) :
  Calls Tryz.prog 191 #[.pointer (some ⟨g, 0, none⟩), .int .i64 t] w fun e w' => e = .returned (sentOf ad (tickErr l t)) ∧ w' = w := by
 have e1 := he.c1
 have e4 := he.c4
 clear he
 by_cases h0 : 0 ≤ t ∧ t ≤ 1099511627776
 ·
  have hd : decide (0 ≤ t ∧ t ≤ 1099511627776) = true := by simpa using h0
  have HT : Hid (Calls Tryz.prog 124 #[.int .i64 t] w fun e w' => e = .returned (.bool true) ∧ w' = w) := by
   have := isTick_any t w
   rw [hd] at this
   exact this
  clear hd
  by_cases h1 : t < l
  ·
   have hs : tickErr l t = 5 := by unfold tickErr; rw [if_pos h0, if_pos h1]
   rw [hs]
   show Calls _ _ _ _ fun e w' => e = .returned (.iface 271 (.pointer (some (ad 4)))) ∧ w' = w
   clear h0 hs
   go_enter Tryz.func191, Tryz.ntmps191
   go_wp2_with (go_at_call 124; refine HT.out.mono ?_; rintro e w1 ⟨rfl, rfl⟩)
   go_ret
   exact ⟨rfl, rfl⟩
  ·
   have hs : tickErr l t = 0 := by unfold tickErr; rw [if_pos h0, if_neg h1]
   rw [hs]
   show Calls _ _ _ _ fun e w' => e = .returned .nilIface ∧ w' = w
   clear h0 hs
   go_enter Tryz.func191, Tryz.ntmps191
   go_wp2_with (go_at_call 124; refine HT.out.mono ?_; rintro e w1 ⟨rfl, rfl⟩)
   go_ret
   exact ⟨rfl, rfl⟩
 ·
  have hd : decide (0 ≤ t ∧ t ≤ 1099511627776) = false := by simpa using h0
  have HT : Hid (Calls Tryz.prog 124 #[.int .i64 t] w fun e w' => e = .returned (.bool false) ∧ w' = w) := by
   have := isTick_any t w
   rw [hd] at this
   exact this
  have hs : tickErr l t = 2 := by unfold tickErr; rw [if_neg h0]
  rw [hs]
  show Calls _ _ _ _ fun e w' => e = .returned (.iface 271 (.pointer (some (ad 1)))) ∧ w' = w
  clear h0 hs hd
  go_enter Tryz.func191, Tryz.ntmps191
  go_wp2_with (go_at_call 124; refine HT.out.mono ?_; rintro e w1 ⟨rfl, rfl⟩)
  go_ret
  exact ⟨rfl, rfl⟩
set_option maxHeartbeats 400000 in
theorem checkTake_any (g : Nat) (l t n : Int) (w : World) (ad : Nat → Addr) (he : Errs4 w ad) (c3 : w.cell? ⟨g, 3, none⟩ = some (.int .i64 l)) :
  Calls Tryz.prog 177 #[.pointer (some ⟨g, 0, none⟩), .int .i64 t, .int .i64 n] w fun e w' => e = .returned (sentOf ad (askErr l t n)) ∧ w' = w := by
 have e1 := he.c1
 have HC : Hid (Calls Tryz.prog 191 #[.pointer (some ⟨g, 0, none⟩), .int .i64 t] w fun e w' => e = .returned (sentOf ad (tickErr l t)) ∧ w' = w) := checkTick_any g l t w ad he c3
 clear he c3
 by_cases h0 : 1 ≤ n ∧ n ≤ 1500
 ·
  have hd : decide (1 ≤ n ∧ n ≤ 1500) = true := by simpa using h0
  have HT : Hid (Calls Tryz.prog 123 #[.int .i64 n] w fun e w' => e = .returned (.bool true) ∧ w' = w) := by
   have := isSize_any n w
   rw [hd] at this
   exact this
  have hs : askErr l t n = tickErr l t := by unfold askErr; rw [if_pos h0]
  rw [hs]
  clear hd hs h0
  generalize sentOf ad (tickErr l t) = E at *
  go_enter Tryz.func177, Tryz.ntmps177
  go_wp2_with (first
   | (go_at_call 123; refine HT.out.mono ?_; rintro e w1 ⟨rfl, rfl⟩)
   | (go_at_call 191; refine HC.out.mono ?_; rintro e w1 ⟨rfl, rfl⟩))
  go_ret
  exact ⟨rfl, rfl⟩
 ·
  have hd : decide (1 ≤ n ∧ n ≤ 1500) = false := by simpa using h0
  have HT : Hid (Calls Tryz.prog 123 #[.int .i64 n] w fun e w' => e = .returned (.bool false) ∧ w' = w) := by
   have := isSize_any n w
   rw [hd] at this
   exact this
  have hs : askErr l t n = 2 := by unfold askErr; rw [if_neg h0]
  rw [hs]
  show Calls _ _ _ _ fun e w' => e = .returned (.iface 271 (.pointer (some (ad 1)))) ∧ w' = w
  clear hd hs h0 HC
  go_enter Tryz.func177, Tryz.ntmps177
  go_wp2_with (go_at_call 123; refine HT.out.mono ?_; rintro e w1 ⟨rfl, rfl⟩)
  go_ret
  exact ⟨rfl, rfl⟩
set_option maxHeartbeats 400000 in
theorem until_have (m r h n : Int) (w : World) (hn : n ≤ h) :
  Calls Tryz.prog 178 #[.agg #[.int .i64 m, .int .i64 r], .int .i64 h, .int .i64 n] w fun e w' => e = .returned (.tuple #[.int .i64 0, .bool true]) ∧ w' = w.alloc (.cells #[.int .i64 m, .int .i64 r] 245) := by
 go_enter Tryz.func178, Tryz.ntmps178
 go_wp2
 go_ret2
 exact ⟨rfl, rfl⟩
set_option maxHeartbeats 400000 in
theorem until_none (m r h n : Int) (w : World) (hn : h < n) (hz : m < n ∨ r = 0) :
  Calls Tryz.prog 178 #[.agg #[.int .i64 m, .int .i64 r], .int .i64 h, .int .i64 n] w fun e w' => e = .returned (.tuple #[.int .i64 0, .bool false]) ∧ w' = w.alloc (.cells #[.int .i64 m, .int .i64 r] 245) := by
 have hn' : ¬ n ≤ h := by omega
 by_cases h1 : m < n
 ·
  clear hz
  go_enter Tryz.func178, Tryz.ntmps178
  go_wp2
  go_ret2
  exact ⟨rfl, rfl⟩
 ·
  obtain rfl : r = 0 := by omega
  clear hz
  go_enter Tryz.func178, Tryz.ntmps178
  go_wp2
  go_ret2
  exact ⟨rfl, rfl⟩
set_option maxHeartbeats 400000 in
theorem until_some (m r h n : Int) (w : World) (hn : h < n) (hm : n ≤ m) (hr : 0 < r) (r1 : r ≤ 100000) (h0 : 0 ≤ h) (m1 : m ≤ 20000000) :
  Calls Tryz.prog 178 #[.agg #[.int .i64 m, .int .i64 r], .int .i64 h, .int .i64 n] w fun e w' => e = .returned (.tuple #[.int .i64 ((n - h + r - 1) / r), .bool true]) ∧ w' = w.alloc (.cells #[.int .i64 m, .int .i64 r] 245) := by
 have hn' : ¬ n ≤ h := by omega
 have hm' : ¬ m < n := by omega
 have hr' : ¬ r = 0 := by omega
 have hr2 : (r == 0) = false := by simpa using hr'
 go_enter Tryz.func178, Tryz.ntmps178
 go_wp2
 go_ret2
 exact ⟨rfl, rfl⟩
end Go.Proofs.YtibhkijaafdkoaaGreatDoor
