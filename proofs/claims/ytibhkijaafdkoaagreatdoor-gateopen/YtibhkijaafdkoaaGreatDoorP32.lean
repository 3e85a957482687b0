/- Own facts, put together: no statement of its own. -/
import Derived.Test.YtibhkijaafdkoaaGreatDoorP31
import Derived.Test.YtibhkijaafdkoaaGreatDoorP23
import Derived.Test.YtibhkijaafdkoaaGreatDoorP13
import Derived.Test.YtibhkijaafdkoaaGreatDoorP22
import Derived.Test.YtibhkijaafdkoaaGreatDoorP20
import Derived.Test.YtibhkijaafdkoaaGreatDoorP28
import Derived.Deep.RegionHeldLaw
import Derived.Test.YtibhkijaafdkoaaGreatDoorP01
import Derived.Test.YtibhkijaafdkoaaGreatDoorP05
import Derived.Test.YtibhkijaafdkoaaGreatDoorP12
namespace Go.Proofs.YtibhkijaafdkoaaGreatDoor
open Go.RowKit
set_option maxHeartbeats 1000000 in
theorem fairCheck_ok (a : Option Addr) (cap : Nat) (ps : List Pk) (per : Int) (na : Option Addr) (ncap : Nat) (ws : List Int) (w : World) (hl : LiesP w a ps) (hn : LiesN w na ws) (ho : OkPks ps) (h1 : 1 ≤ per) (h2 : per ≤ 1000) (hk : WtsAll ws) :
  Calls Tryz.prog 135 #[.slice a ps.length cap, .int .i64 per, .slice na ws.length ncap] w fun e w' => e = .returned .nilIface ∧ Below w.heap.size w w' := by
 have HCheck : Hid (Calls Tryz.prog 52 #[.slice a ps.length cap, .int .i64 per] w fun e w' => e = .returned .nilIface ∧ Below w.heap.size w w') := linkCheck_ok a cap ps per w hl ho h1 h2
 have HUp : Hid (∀ W, Below w.heap.size w W → Calls Tryz.prog 57 #[.slice na ws.length ncap, .func (.func 161) #[] #[]] W fun e w' => e = .returned .nilIface ∧ w' = W) := fun W hb => checkWeights_ok na ncap ws W (hn.below hb) hk
 clear hl hn ho hk
 generalize ps.length = n at *
 generalize ws.length = m at *
 go_enter Tryz.func135, Tryz.ntmps135
 go_wp2_with fail
 refine HCheck.out.mono ?_
 rintro e w1 ⟨rfl, hb⟩
 have HB1 : Hid (Below w.heap.size w w1) := hb
 clear hb
 go_wp2_with fail
 refine (HUp.out _ HB1.out).mono ?_
 rintro e w2 ⟨rfl, rfl⟩
 go_wp2_with fail
 go_ret
 exact ⟨rfl, HB1.out⟩
set_option maxHeartbeats 1000000 in
theorem fairCheck_err1 {R : TypeId → Value → World → Prop} (a : Option Addr) (n cap : Nat) (per : Int) (na : Option Addr) (m ncap : Nat) (w : World) (h : Calls Tryz.prog 52 #[.slice a n cap, .int .i64 per] w fun e w' => ∃ ty v, e = .returned (.iface ty v) ∧ R ty v w') :
  Calls Tryz.prog 135 #[.slice a n cap, .int .i64 per, .slice na m ncap] w fun e w' => ∃ ty v, e = .returned (.iface ty v) ∧ R ty v w' := by
 have HC : Hid (Calls Tryz.prog 52 #[.slice a n cap, .int .i64 per] w fun e w' => ∃ ty v, e = .returned (.iface ty v) ∧ R ty v w') := h
 clear h
 go_enter Tryz.func135, Tryz.ntmps135
 go_wp2_with fail
 refine HC.out.mono ?_
 rintro e w1 ⟨ty, v, rfl, hR⟩
 have HR : Hid (R ty v w1) := hR
 clear hR
 go_wp2_with fail
 go_ret
 exact ⟨ty, v, rfl, HR.out⟩
set_option maxHeartbeats 1000000 in
theorem fairCheck_err2 {R : TypeId → Value → World → Prop} (a : Option Addr) (n cap : Nat) (per : Int) (na : Option Addr) (m ncap : Nat) (w : World) (h : Calls Tryz.prog 52 #[.slice a n cap, .int .i64 per] w fun e w' => e = .returned .nilIface ∧ Below w.heap.size w w')
  (h2 : ∀ W, Below w.heap.size w W → Calls Tryz.prog 57 #[.slice na m ncap, .func (.func 161) #[] #[]] W fun e w' => ∃ ty v, e = .returned (.iface ty v) ∧ R ty v w') :
  Calls Tryz.prog 135 #[.slice a n cap, .int .i64 per, .slice na m ncap] w fun e w' => ∃ ty v, e = .returned (.iface ty v) ∧ R ty v w' := by
 have HC : Hid (Calls Tryz.prog 52 #[.slice a n cap, .int .i64 per] w fun e w' => e = .returned .nilIface ∧ Below w.heap.size w w') := h
 have HU : Hid (∀ W, Below w.heap.size w W → Calls Tryz.prog 57 #[.slice na m ncap, .func (.func 161) #[] #[]] W fun e w' => ∃ ty v, e = .returned (.iface ty v) ∧ R ty v w') := h2
 clear h h2
 go_enter Tryz.func135, Tryz.ntmps135
 go_wp2_with fail
 refine HC.out.mono ?_
 rintro e w1 ⟨rfl, hb⟩
 have HB : Hid (Below w.heap.size w w1) := hb
 clear hb
 go_wp2_with fail
 refine (HU.out _ HB.out).mono ?_
 rintro e w2 ⟨ty, v, rfl, hR⟩
 have HR : Hid (R ty v w2) := hR
 clear hR
 go_wp2_with fail
 go_ret
 exact ⟨ty, v, rfl, HR.out⟩
theorem fairSend_from (a : Option Addr) (cap : Nat) (ps : List Pk) (per : Int) (na : Option Addr) (ncap : Nat) (ws : List Int) (w : World) (hl : LiesP w a ps) (hn : LiesN w na ws) (ho : OkPks ps) (h1 : 1 ≤ per) (h2 : per ≤ 1000) (hk : WtsAll ws) (W W3 W4 : World) (g gt gm : Nat) (D : Nat → Prop) (hb : Below w.heap.size w W) (h0 : HeldW W.heap.size W g gt gm ps.length (.slice a ps.length cap) (.slice na ws.length ncap) W3 D fair0) (hb3 : Below W.heap.size W W3) (hb4 : Below W3.heap.size W3 W4) :
  Calls Tryz.prog 59 #[.slice a ps.length cap, .int .i64 per, .iface 164 (ruleW g)] W4 fun e w' => ∃ v, e = .returned v ∧ SentTags per ps ws w.heap.size g gt w v w' := by
 have hlW := hl.below hb
 have hnW := hn.below hb
 have hs3 : W.heap.size ≤ W3.heap.size := hb3.size
 refine (fairSend_ok a cap ps per na ncap ws W.heap.size W g gt gm D W4 ⟨hlW, hnW, hlW.at_lt, fun ad had => ?_, ho, hk⟩ h1 h2 (h0.later hb4)).mono ?_
 ·
  obtain ⟨b, off, e, hlt, -⟩ := hnW.place (by rw [hk.len]; omega)
  rw [e] at had
  cases had
  exact hlt
 ·
  rintro e w' ⟨v, rfl, l, f, g1, g2, g3, g4, g5⟩
  have hbb : Below w.heap.size w W4 := (hb.trans (hb3.mono hb.size)).trans (hb4.mono (Nat.le_trans hb.size hs3))
  exact ⟨v, rfl, l, f, ownsRow_mono g1 hbb.size, g2, hbb.trans (g3.mono hb.size), g4, g5⟩
set_option maxRecDepth 100000 in
set_option maxHeartbeats 2000000 in
theorem fairRun_ok (a : Option Addr) (cap : Nat) (ps : List Pk) (per : Int) (na : Option Addr) (ncap : Nat) (ws : List Int) (w : World) (hl : LiesP w a ps) (hn : LiesN w na ws) (ho : OkPks ps) (h1 : 1 ≤ per) (h2 : per ≤ 1000) (hk : WtsAll ws) :
  Calls Tryz.prog 88 #[.slice a ps.length cap, .int .i64 per, .slice na ws.length ncap] w fun e w' => ∃ v, e = .returned (.tuple #[v, .nilIface]) ∧ ∃ g gt, SentTags per ps ws w.heap.size g gt w v w' := by
 have HCheck : Hid (Calls Tryz.prog 135 #[.slice a ps.length cap, .int .i64 per, .slice na ws.length ncap] w fun e w' => e = .returned .nilIface ∧ Below w.heap.size w w') := fairCheck_ok a cap ps per na ncap ws w hl hn ho h1 h2 hk
 have HNew : Hid (∀ W, Calls Tryz.prog 136 #[.slice a ps.length cap, .slice na ws.length ncap] W fun e w' => ∃ g gt gm, e = .returned (.pointer (some ⟨g, 0, none⟩)) ∧ HeldW W.heap.size W g gt gm ps.length (.slice a ps.length cap) (.slice na ws.length ncap) w' (fairFoot g gt gm (.slice none 0 0)) fair0 ∧ Below W.heap.size W w') := fun W => newTags_any a ps.length cap na ws.length ncap W (by have := ho.few; omega)
 have HSend : Hid (∀ W W3 W4 g gt gm D, Below w.heap.size w W → HeldW W.heap.size W g gt gm ps.length (.slice a ps.length cap) (.slice na ws.length ncap) W3 D fair0 → Below W.heap.size W W3 → Below W3.heap.size W3 W4 →
   Calls Tryz.prog 59 #[.slice a ps.length cap, .int .i64 per, .iface 164 (ruleW g)] W4 fun e w' => ∃ v, e = .returned v ∧ SentTags per ps ws w.heap.size g gt w v w') := fun W W3 W4 g gt gm D hb h0 hb3 hb4 => fairSend_from a cap ps per na ncap ws w hl hn ho h1 h2 hk W W3 W4 g gt gm D hb h0 hb3 hb4
 clear hl hn ho hk
 generalize hpl : ps.length = n at *
 generalize hnl : ws.length = m at *
 clear hpl hnl
 go_enter Tryz.func88, Tryz.ntmps88
 go_wp2_with fail
 refine HCheck.out.mono ?_
 rintro e w1 ⟨rfl, hb⟩
 have HB1 : Hid (Below w.heap.size w w1) := hb
 clear hb
 go_wp2_with fail
 refine (HNew.out _).mono ?_
 rintro e w3 ⟨g, gt, gm, rfl, hh, hb3⟩
 have HS : Hid (∀ W4, Below w3.heap.size w3 W4 → Calls Tryz.prog 59 #[.slice a n cap, .int .i64 per, .iface 164 (ruleW g)] W4 fun e w' => ∃ v, e = .returned v ∧ SentTags per ps ws w.heap.size g gt w v w') := fun W4 hb4 => HSend.out w1 w3 W4 g gt gm _ HB1.out hh hb3 hb4
 clear hh hb3
 go_wp2_with fail
 refine (fairQueue_any g _).mono ?_
 rintro e w4 ⟨rfl, hb4⟩
 have HC4 := HS.out w4 hb4
 have HS4 : Hid (Calls Tryz.prog 59 #[.slice a n cap, .int .i64 per, .iface 164 (ruleW g)] w4 fun e w' => ∃ v, e = .returned v ∧ SentTags per ps ws w.heap.size g gt w v w') := HC4
 clear HC4 hb4
 go_wp2_with fail
 refine HS4.out.mono ?_
 rintro e w5 ⟨v, rfl, hs⟩
 have HE : Hid (SentTags per ps ws w.heap.size g gt w v w5) := hs
 clear hs
 go_wp2_with fail
 go_ret2
 exact ⟨v, rfl, g, gt, HE.out⟩
set_option maxHeartbeats 1000000 in
theorem fairRun_err {R : TypeId → Value → World → Prop} (a : Option Addr) (n cap : Nat) (per : Int) (na : Option Addr) (m ncap : Nat) (w : World) (h : Calls Tryz.prog 135 #[.slice a n cap, .int .i64 per, .slice na m ncap] w fun e w' => ∃ ty v, e = .returned (.iface ty v) ∧ R ty v w') :
  Calls Tryz.prog 88 #[.slice a n cap, .int .i64 per, .slice na m ncap] w fun e w' => ∃ ty v, e = .returned (.tuple #[.slice none 0 0, .iface ty v]) ∧ R ty v w' := by
 have HC : Hid (Calls Tryz.prog 135 #[.slice a n cap, .int .i64 per, .slice na m ncap] w fun e w' => ∃ ty v, e = .returned (.iface ty v) ∧ R ty v w') := h
 clear h
 go_enter Tryz.func88, Tryz.ntmps88
 go_wp2_with fail
 refine HC.out.mono ?_
 rintro e w1 ⟨ty, v, rfl, hR⟩
 have HR : Hid (R ty v w1) := hR
 clear hR
 go_wp2_with fail
 go_ret2
 exact ⟨ty, v, rfl, HR.out⟩
end Go.Proofs.YtibhkijaafdkoaaGreatDoor

namespace Go.Proofs.YtibhkijaafdkoaaGreatDoor
open Go.RowKit
def LinkFaultIs (ps : List Pk) (per c p : Int) : Prop :=
 (PksFault ps c p ∧ 0 < c) ∨ (OkPks ps ∧ (per < 1 ∨ 1000 < per) ∧ c = 2 ∧ p = -1) ∨ (OkPks ps ∧ 1 ≤ per ∧ per ≤ 1000 ∧ c = 0 ∧ p = -1)
theorem linkCheck_is (a : Option Addr) (cap : Nat) (ps : List Pk) (per c p : Int) (w : World) (ad : Nat → Addr) (he : Errs9 w ad) (hl : LiesP w a ps) (hcap : ps.length ≤ cap) (hm : cap ≤ maxLen) (h : LinkFaultIs ps per c p) (hc : 0 < c) :
  Calls Tryz.prog 52 #[.slice a ps.length cap, .int .i64 per] w fun e w' => ∃ ty v, e = .returned (.iface ty v) ∧ (ErrIs w' (.iface ty v) c p ∧ Below w.heap.size w w') := by
 rcases h with ⟨h, h0⟩ | ⟨ho, hp, rfl, rfl⟩ | ⟨ho, h1, h2, rfl, rfl⟩
 ·
  refine linkCheck_err (R := fun ty v w' => ErrIs w' (.iface ty v) c p ∧ Below w.heap.size w w') a ps.length cap per w ((pcheck_is a cap ps w ad he hl hcap hm c p h).mono ?_)
  rintro e w' ⟨E, rfl, hE, hb⟩
  obtain ⟨ty, v, rfl⟩ := hE.some_ (by omega)
  exact ⟨ty, v, rfl, hE, hb⟩
 ·
  refine (linkCheck_per a cap ps per w ad he.bo hl ho hp).mono ?_
  rintro e w' ⟨rfl, hb⟩
  exact ⟨_, _, rfl, errIs_sent (he.below hb) 1 (by decide), hb⟩
 · omega
theorem fifoRun_is (a : Option Addr) (cap : Nat) (ps : List Pk) (per c p : Int) (w : World) (ad : Nat → Addr) (he : Errs9 w ad) (hl : LiesP w a ps) (hcap : ps.length ≤ cap) (hm : cap ≤ maxLen) (h : LinkFaultIs ps per c p) (hc : 0 < c) :
  Calls Tryz.prog 85 #[.slice a ps.length cap, .int .i64 per] w fun e w' => ∃ ty v, e = .returned (.tuple #[.slice none 0 0, .iface ty v]) ∧ (ErrIs w' (.iface ty v) c p ∧ Below w.heap.size w w') :=
 fifoRun_err (R := fun ty v w' => ErrIs w' (.iface ty v) c p ∧ Below w.heap.size w w') a ps.length cap per w (linkCheck_is a cap ps per c p w ad he hl hcap hm h hc)
end Go.Proofs.YtibhkijaafdkoaaGreatDoor

namespace Go.Proofs.YtibhkijaafdkoaaGreatDoor
open Go.RowKit
theorem errIs_nums {w : World} {ad : Nat → Addr} (he : Errs9 w ad) {hi : Int} {ns : List Int} {c : Nat} (h : NumsFault 0 hi ns c) (hc : 0 < c) : ∃ ty v, sentOf ad c = .iface ty v ∧ ErrIs w (.iface ty v) c (-1) := by
 rcases h with ⟨rfl, -⟩ | ⟨rfl, -⟩ | ⟨rfl, -⟩
 · exact ⟨_, _, rfl, errIs_sent he 2 (by decide)⟩
 · exact ⟨_, _, rfl, errIs_sent he 1 (by decide)⟩
 · omega
theorem Errs9.nums {w : World} {ad : Nat → Addr} (he : Errs9 w ad) : NumErrs w ad := ⟨he.c1, he.c2⟩
theorem errIs_numsB {w : World} {ad : Nat → Addr} (he : Errs9 w ad) {lo hi : Int} {ns : List Int} {c : Nat} (h : NumsFault lo hi ns c) (hc : 0 < c) : ∃ ty v, sentOf ad c = .iface ty v ∧ ErrIs w (.iface ty v) c (-1) := by
 rcases h with ⟨rfl, -⟩ | ⟨rfl, -⟩ | ⟨rfl, -⟩
 · exact ⟨_, _, rfl, errIs_sent he 2 (by decide)⟩
 · exact ⟨_, _, rfl, errIs_sent he 1 (by decide)⟩
 · omega
end Go.Proofs.YtibhkijaafdkoaaGreatDoor

namespace Go.Proofs.YtibhkijaafdkoaaGreatDoor
open Go.RowKit
theorem rankRun_isL (a : Option Addr) (cap : Nat) (ps : List Pk) (per : Int) (na : Option Addr) (nn ncap : Nat) (w : World) (ad : Nat → Addr) (he : Errs9 w ad) (hl : LiesP w a ps) (hcap : ps.length ≤ cap) (hm : cap ≤ maxLen) (c p : Int) (h : LinkFaultIs ps per c p) (hc : 0 < c) :
  Calls Tryz.prog 86 #[.slice a ps.length cap, .int .i64 per, .slice na nn ncap] w fun e w' => ∃ ty v, e = .returned (.tuple #[.slice none 0 0, .iface ty v]) ∧ (ErrIs w' (.iface ty v) c p ∧ Below w.heap.size w w') := by
 refine rankRun_err1 (R := fun ty v w' => ErrIs w' (.iface ty v) c p ∧ Below w.heap.size w w') a _ cap per na _ ncap w (fun W hB => (linkCheck_is a cap ps per c p W ad (he.below hB.below) (hl.below hB.below) hcap hm h hc).mono ?_)
 rintro e w' ⟨ty, v, rfl, hE, hb⟩
 exact ⟨ty, v, rfl, hE, hB.below.trans (hb.mono hB.below.size)⟩
theorem rankRun_isN (a : Option Addr) (cap : Nat) (ps : List Pk) (per : Int) (na : Option Addr) (ncap : Nat) (ns : List Int) (w : World) (ad : Nat → Addr) (he : Errs9 w ad) (hl : LiesP w a ps) (hn : LiesN w na ns) (ho : OkPks ps) (h1 : 1 ≤ per) (h2 : per ≤ 1000) (c : Nat) (h : NumsFault 0 100 ns c) (hc : 0 < c) :
  Calls Tryz.prog 86 #[.slice a ps.length cap, .int .i64 per, .slice na ns.length ncap] w fun e w' => ∃ ty v, e = .returned (.tuple #[.slice none 0 0, .iface ty v]) ∧ (ErrIs w' (.iface ty v) c (-1) ∧ Below w.heap.size w w') := by
 refine rankRun_err2 (R := fun ty v w' => ErrIs w' (.iface ty v) c (-1) ∧ Below w.heap.size w w') a _ cap per na _ ncap w (fun W hB => linkCheck_ok a cap ps per W (hl.below hB.below) ho h1 h2) (fun W hB => (checkUpTo_bad na ncap ns 100 W ad (he.below hB.below).nums (hn.below hB.below) c h hc).mono ?_)
 rintro e w' ⟨rfl, hb⟩
 have hb' := hB.below.trans (hb.mono hB.below.size)
 obtain ⟨ty, v, e1, e2⟩ := errIs_nums (he.below hb') h hc
 exact ⟨ty, v, by rw [e1], e2, hb'⟩
theorem rankDue_isL (a : Option Addr) (cap : Nat) (ps : List Pk) (per : Int) (na : Option Addr) (nn ncap : Nat) (w : World) (ad : Nat → Addr) (he : Errs9 w ad) (hl : LiesP w a ps) (hcap : ps.length ≤ cap) (hm : cap ≤ maxLen) (c p : Int) (h : LinkFaultIs ps per c p) (hc : 0 < c) :
  Calls Tryz.prog 87 #[.slice a ps.length cap, .int .i64 per, .slice na nn ncap] w fun e w' => ∃ ty v, e = .returned (.tuple #[.slice none 0 0, .iface ty v]) ∧ (ErrIs w' (.iface ty v) c p ∧ Below w.heap.size w w') := by
 refine rankDue_err1 (R := fun ty v w' => ErrIs w' (.iface ty v) c p ∧ Below w.heap.size w w') a _ cap per na _ ncap w (fun W hB => (linkCheck_is a cap ps per c p W ad (he.below hB.below) (hl.below hB.below) hcap hm h hc).mono ?_)
 rintro e w' ⟨ty, v, rfl, hE, hb⟩
 exact ⟨ty, v, rfl, hE, hB.below.trans (hb.mono hB.below.size)⟩
theorem rankDue_isN (a : Option Addr) (cap : Nat) (ps : List Pk) (per : Int) (na : Option Addr) (ncap : Nat) (ns : List Int) (w : World) (ad : Nat → Addr) (he : Errs9 w ad) (hl : LiesP w a ps) (hn : LiesN w na ns) (ho : OkPks ps) (h1 : 1 ≤ per) (h2 : per ≤ 1000) (c : Nat) (h : NumsFault 0 1099511627776 ns c) (hc : 0 < c) :
  Calls Tryz.prog 87 #[.slice a ps.length cap, .int .i64 per, .slice na ns.length ncap] w fun e w' => ∃ ty v, e = .returned (.tuple #[.slice none 0 0, .iface ty v]) ∧ (ErrIs w' (.iface ty v) c (-1) ∧ Below w.heap.size w w') := by
 refine rankDue_err2 (R := fun ty v w' => ErrIs w' (.iface ty v) c (-1) ∧ Below w.heap.size w w') a _ cap per na _ ncap w (fun W hB => linkCheck_ok a cap ps per W (hl.below hB.below) ho h1 h2) (fun W hB => (checkUpTo_bad na ncap ns 1099511627776 W ad (he.below hB.below).nums (hn.below hB.below) c h hc).mono ?_)
 rintro e w' ⟨rfl, hb⟩
 have hb' := hB.below.trans (hb.mono hB.below.size)
 obtain ⟨ty, v, e1, e2⟩ := errIs_nums (he.below hb') h hc
 exact ⟨ty, v, by rw [e1], e2, hb'⟩
theorem roundRun_isL (a : Option Addr) (cap : Nat) (ps : List Pk) (per : Int) (na : Option Addr) (nn ncap : Nat) (w : World) (ad : Nat → Addr) (he : Errs9 w ad) (hl : LiesP w a ps) (hcap : ps.length ≤ cap) (hm : cap ≤ maxLen) (c p : Int) (h : LinkFaultIs ps per c p) (hc : 0 < c) :
  Calls Tryz.prog 26 #[.slice a ps.length cap, .int .i64 per, .slice na nn ncap] w fun e w' => ∃ ty v, e = .returned (.tuple #[.slice none 0 0, .iface ty v]) ∧ (ErrIs w' (.iface ty v) c p ∧ Below w.heap.size w w') :=
 roundRun_err1 (R := fun ty v w' => ErrIs w' (.iface ty v) c p ∧ Below w.heap.size w w') a _ cap per na _ ncap w (linkCheck_is a cap ps per c p w ad he hl hcap hm h hc)
theorem roundRun_isN (a : Option Addr) (cap : Nat) (ps : List Pk) (per : Int) (na : Option Addr) (ncap : Nat) (ns : List Int) (w : World) (ad : Nat → Addr) (he : Errs9 w ad) (hl : LiesP w a ps) (hn : LiesN w na ns) (ho : OkPks ps) (h1 : 1 ≤ per) (h2 : per ≤ 1000) (c : Nat) (h : NumsFault 1 3000 ns c) (hc : 0 < c) :
  Calls Tryz.prog 26 #[.slice a ps.length cap, .int .i64 per, .slice na ns.length ncap] w fun e w' => ∃ ty v, e = .returned (.tuple #[.slice none 0 0, .iface ty v]) ∧ (ErrIs w' (.iface ty v) c (-1) ∧ Below w.heap.size w w') := by
 refine roundRun_err2 (R := fun ty v w' => ErrIs w' (.iface ty v) c (-1) ∧ Below w.heap.size w w') a _ cap per na _ ncap w (linkCheck_ok a cap ps per w hl ho h1 h2) (fun W hb => (checkQuanta_bad na ncap ns W ad (he.below hb).nums (hn.below hb) c h hc).mono ?_)
 rintro e w' ⟨rfl, rfl⟩
 obtain ⟨ty, v, e1, e2⟩ := errIs_numsB (he.below hb) h hc
 exact ⟨ty, v, by rw [e1], e2, hb⟩
theorem errIs_wts {w : World} {ad : Nat → Addr} (he : Errs9 w ad) {ns : List Int} {c : Nat} (h : WtsFault ns c) (hc : 0 < c) : ∃ ty v, sentOf ad c = .iface ty v ∧ ErrIs w (.iface ty v) c (-1) := by
 rcases h with ⟨rfl, -⟩ | ⟨rfl, -⟩ | ⟨rfl, -⟩
 · exact ⟨_, _, rfl, errIs_sent he 2 (by decide)⟩
 · exact ⟨_, _, rfl, errIs_sent he 1 (by decide)⟩
 · omega
theorem fairCheck_isL (a : Option Addr) (cap : Nat) (ps : List Pk) (per : Int) (na : Option Addr) (nn ncap : Nat) (w : World) (ad : Nat → Addr) (he : Errs9 w ad) (hl : LiesP w a ps) (hcap : ps.length ≤ cap) (hm : cap ≤ maxLen) (c p : Int) (h : LinkFaultIs ps per c p) (hc : 0 < c) :
  Calls Tryz.prog 135 #[.slice a ps.length cap, .int .i64 per, .slice na nn ncap] w fun e w' => ∃ ty v, e = .returned (.iface ty v) ∧ (ErrIs w' (.iface ty v) c p ∧ Below w.heap.size w w') :=
 fairCheck_err1 (R := fun ty v w' => ErrIs w' (.iface ty v) c p ∧ Below w.heap.size w w') a _ cap per na _ ncap w (linkCheck_is a cap ps per c p w ad he hl hcap hm h hc)
theorem fairCheck_isN (a : Option Addr) (cap : Nat) (ps : List Pk) (per : Int) (na : Option Addr) (ncap : Nat) (ns : List Int) (w : World) (ad : Nat → Addr) (he : Errs9 w ad) (hl : LiesP w a ps) (hn : LiesN w na ns) (ho : OkPks ps) (h1 : 1 ≤ per) (h2 : per ≤ 1000) (c : Nat) (h : WtsFault ns c) (hc : 0 < c) :
  Calls Tryz.prog 135 #[.slice a ps.length cap, .int .i64 per, .slice na ns.length ncap] w fun e w' => ∃ ty v, e = .returned (.iface ty v) ∧ (ErrIs w' (.iface ty v) c (-1) ∧ Below w.heap.size w w') := by
 refine fairCheck_err2 (R := fun ty v w' => ErrIs w' (.iface ty v) c (-1) ∧ Below w.heap.size w w') a _ cap per na _ ncap w (linkCheck_ok a cap ps per w hl ho h1 h2) (fun W hb => (checkWeights_bad na ncap ns W ad (he.below hb).nums (hn.below hb) c h hc).mono ?_)
 rintro e w' ⟨rfl, rfl⟩
 obtain ⟨ty, v, e1, e2⟩ := errIs_wts (he.below hb) h hc
 exact ⟨ty, v, by rw [e1], e2, hb⟩
end Go.Proofs.YtibhkijaafdkoaaGreatDoor

namespace Go.Proofs.YtibhkijaafdkoaaGreatDoor
open Go.RowKit
structure BkAt (w : World) (g : Nat) (b : Bk) : Prop where
 c0 : w.cell? ⟨g, 0, none⟩ = some (.int .i64 b.most)
 c1 : w.cell? ⟨g, 1, none⟩ = some (.int .i64 b.rate)
 c2 : w.cell? ⟨g, 2, none⟩ = some (.int .i64 b.has)
 c3 : w.cell? ⟨g, 3, none⟩ = some (.int .i64 b.last)
 f2 : w.frozen? ⟨g, 2, none⟩ = false
 f3 : w.frozen? ⟨g, 3, none⟩ = false
theorem BkAt.lt {w : World} {g : Nat} {b : Bk} (h : BkAt w g b) : g < w.heap.size := cell_lt h.c0
theorem BkAt.but {S : Nat → Prop} {w w' : World} {g : Nat} {b : Bk} (h : BkAt w g b) (hb : But S w w') (hs : ¬ S g) : BkAt w' g b :=
 have l := h.lt
 ⟨by rw [hb.cell (p := ⟨g, 0, none⟩) l hs]; exact h.c0, by rw [hb.cell (p := ⟨g, 1, none⟩) l hs]; exact h.c1, by rw [hb.cell (p := ⟨g, 2, none⟩) l hs]; exact h.c2, by rw [hb.cell (p := ⟨g, 3, none⟩) l hs]; exact h.c3,
  by rw [hb.frozen (p := ⟨g, 2, none⟩) l hs]; exact h.f2, by rw [hb.frozen (p := ⟨g, 3, none⟩) l hs]; exact h.f3⟩
theorem BkAt.below {w w' : World} {g : Nat} {b : Bk} (h : BkAt w g b) (hb : Below w.heap.size w w') : BkAt w' g b := h.but (S := fun _ => False) (.ofBelow hb) id
set_option maxHeartbeats 400000 in
theorem after_ok (m r h d : Int) (w : World) (h0 : 0 ≤ h) (h1 : h ≤ 20000000) (r0 : 0 ≤ r * d) (r1 : r * d ≤ 109951162777600000) :
  Calls Tryz.prog 192 #[.agg #[.int .i64 m, .int .i64 r], .int .i64 h, .int .i64 d] w fun e w' => e = .returned (.int .i64 (min m (h + r * d))) ∧ w' = w.alloc (.cells #[.int .i64 m, .int .i64 r] 245) := by
 go_enter Tryz.func192, Tryz.ntmps192
 go_wp2
 all_goals
  go_ret
  exact ⟨congrArg (fun z => Ending.returned (.int .i64 z)) (by omega), rfl⟩
set_option maxHeartbeats 400000 in
theorem hasAt_core (g : Nat) (m r h l t v : Int) (w : World) (c0 : w.cell? ⟨g, 0, none⟩ = some (.int .i64 m)) (c1 : w.cell? ⟨g, 1, none⟩ = some (.int .i64 r)) (c2 : w.cell? ⟨g, 2, none⟩ = some (.int .i64 h)) (c3 : w.cell? ⟨g, 3, none⟩ = some (.int .i64 l)) (l0 : 0 ≤ l) (ht : l ≤ t) (t1 : t ≤ 1099511627776)
  (H : Hid (∀ w' : World, Calls Tryz.prog 192 #[.agg #[.int .i64 m, .int .i64 r], .int .i64 h, .int .i64 (t - l)] w' fun e w'' => e = .returned (.int .i64 v) ∧ w'' = w'.alloc (.cells #[.int .i64 m, .int .i64 r] 245))) :
  Calls Tryz.prog 179 #[.pointer (some ⟨g, 0, none⟩), .int .i64 t] w fun e w' => e = .returned (.int .i64 v) ∧ Below w.heap.size w w' := by
 have hw : IntKind.i64.wrap (t - l) = t - l := IntWalk.i64_in _ (by omega)
 go_enter Tryz.func179, Tryz.ntmps179
 go_wp2_with fail
 go_region_with (first
  | (go_simp; go_at_call 192; go_must (refine (H.out _).mono ?_; rintro e w1 ⟨rfl, rfl⟩))
  | fail)
 all_goals
  go_wp2_with fail
  go_ret
  exact ⟨rfl, (Below.refl _ _).drew.alloc (Nat.le_refl _) _⟩
theorem hasAt_ok (g : Nat) (b : Bk) (t : Int) (w : World) (hb : BkAt w g b) (hk : b.Ok) (ht : b.last ≤ t) (t1 : t ≤ 1099511627776) :
  Calls Tryz.prog 179 #[.pointer (some ⟨g, 0, none⟩), .int .i64 t] w fun e w' => e = .returned (.int .i64 (b.lev t)) ∧ Below w.heap.size w w' := by
 obtain ⟨r0, r1⟩ := hk.grow ht t1
 exact hasAt_core g b.most b.rate b.has b.last t (b.lev t) w hb.c0 hb.c1 hb.c2 hb.c3 hk.l0 ht t1 (fun w' => after_ok b.most b.rate b.has (t - b.last) w' hk.h0 (by have := hk.h1; have := hk.m1; omega) r0 r1)
end Go.Proofs.YtibhkijaafdkoaaGreatDoor
