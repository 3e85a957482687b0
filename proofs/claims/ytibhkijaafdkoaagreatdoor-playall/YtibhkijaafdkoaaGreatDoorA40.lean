/- Own facts, put together: no statement of its own. -/
import Derived.Test.YtibhkijaafdkoaaGreatDoorA09
import Derived.Test.YtibhkijaafdkoaaGreatDoorA30
import Derived.Test.YtibhkijaafdkoaaGreatDoorA29
import Derived.Test.YtibhkijaafdkoaaGreatDoorA31
import Derived.Test.YtibhkijaafdkoaaGreatDoorA36
import Derived.Test.YtibhkijaafdkoaaGreatDoorA39
import Derived.Test.YtibhkijaafdkoaaGreatDoorA26
import Derived.Test.YtibhkijaafdkoaaGreatDoorA25
namespace Go.Proofs.YtibhkijaafdkoaaGreatDoor
open Go.RowKit
def LinkFaultIs (ps : List Pk) (per c p : Int) : Prop :=
 (PksFault ps c p ∧ 0 < c) ∨ (OkPks ps ∧ (per < 1 ∨ 1000 < per) ∧ c = 2 ∧ p = -1) ∨ (OkPks ps ∧ 1 ≤ per ∧ per ≤ 1000 ∧ c = 0 ∧ p = -1)
theorem linkCheck_is (a : Option Addr) (cap : Nat) (ps : List Pk) (per c p : Int) (w : World) (ad : Nat → Addr) (he : Errs9 w ad) (hl : LiesP w a ps) (hcap : ps.length ≤ cap) (hm : cap ≤ maxLen) (h : LinkFaultIs ps per c p) (hc : 0 < c) :
  Calls Tryz.prog 52 #[.slice a ps.length cap, .int .i64 per] w fun e w' => ∃ ty v, e = .returned (.iface ty v) ∧ (ErrIs w' (.iface ty v) c p ∧ Below w.heap.size w w') := by
 rcases h with ⟨h, h0⟩ | ⟨ho, hp, rfl, rfl⟩ | ⟨ho, h1, h2, rfl, rfl⟩
 ·
  refine linkCheck_err (R := fun ty v w' => ErrIs w' (.iface ty v) c p ∧ Below w.heap.size w w') a ps.length cap per w ((pcheck_is a cap ps w ad he hl hcap hm c p h).mono ?_)
  rintro e w' ⟨E, rfl, hE, hb⟩
  obtain ⟨ty, v, rfl⟩ := hE.some_ (by omega)
  exact ⟨ty, v, rfl, hE, hb⟩
 ·
  refine (linkCheck_per a cap ps per w ad he.bo hl ho hp).mono ?_
  rintro e w' ⟨rfl, hb⟩
  exact ⟨_, _, rfl, errIs_sent (he.below hb) 1 (by decide), hb⟩
 · omega
theorem fifoRun_is (a : Option Addr) (cap : Nat) (ps : List Pk) (per c p : Int) (w : World) (ad : Nat → Addr) (he : Errs9 w ad) (hl : LiesP w a ps) (hcap : ps.length ≤ cap) (hm : cap ≤ maxLen) (h : LinkFaultIs ps per c p) (hc : 0 < c) :
  Calls Tryz.prog 85 #[.slice a ps.length cap, .int .i64 per] w fun e w' => ∃ ty v, e = .returned (.tuple #[.slice none 0 0, .iface ty v]) ∧ (ErrIs w' (.iface ty v) c p ∧ Below w.heap.size w w') :=
 fifoRun_err (R := fun ty v w' => ErrIs w' (.iface ty v) c p ∧ Below w.heap.size w w') a ps.length cap per w (linkCheck_is a cap ps per c p w ad he hl hcap hm h hc)
end Go.Proofs.YtibhkijaafdkoaaGreatDoor

namespace Go.Proofs.YtibhkijaafdkoaaGreatDoor
open Go.RowKit
theorem errIs_nums {w : World} {ad : Nat → Addr} (he : Errs9 w ad) {hi : Int} {ns : List Int} {c : Nat} (h : NumsFault 0 hi ns c) (hc : 0 < c) : ∃ ty v, sentOf ad c = .iface ty v ∧ ErrIs w (.iface ty v) c (-1) := by
 rcases h with ⟨rfl, -⟩ | ⟨rfl, -⟩ | ⟨rfl, -⟩
 · exact ⟨_, _, rfl, errIs_sent he 2 (by decide)⟩
 · exact ⟨_, _, rfl, errIs_sent he 1 (by decide)⟩
 · omega
theorem Errs9.nums {w : World} {ad : Nat → Addr} (he : Errs9 w ad) : NumErrs w ad := ⟨he.c1, he.c2⟩
theorem errIs_numsB {w : World} {ad : Nat → Addr} (he : Errs9 w ad) {lo hi : Int} {ns : List Int} {c : Nat} (h : NumsFault lo hi ns c) (hc : 0 < c) : ∃ ty v, sentOf ad c = .iface ty v ∧ ErrIs w (.iface ty v) c (-1) := by
 rcases h with ⟨rfl, -⟩ | ⟨rfl, -⟩ | ⟨rfl, -⟩
 · exact ⟨_, _, rfl, errIs_sent he 2 (by decide)⟩
 · exact ⟨_, _, rfl, errIs_sent he 1 (by decide)⟩
 · omega
end Go.Proofs.YtibhkijaafdkoaaGreatDoor

namespace Go.Proofs.YtibhkijaafdkoaaGreatDoor
open Go.RowKit
theorem rankRun_isL (a : Option Addr) (cap : Nat) (ps : List Pk) (per : Int) (na : Option Addr) (nn ncap : Nat) (w : World) (ad : Nat → Addr) (he : Errs9 w ad) (hl : LiesP w a ps) (hcap : ps.length ≤ cap) (hm : cap ≤ maxLen) (c p : Int) (h : LinkFaultIs ps per c p) (hc : 0 < c) :
  Calls Tryz.prog 86 #[.slice a ps.length cap, .int .i64 per, .slice na nn ncap] w fun e w' => ∃ ty v, e = .returned (.tuple #[.slice none 0 0, .iface ty v]) ∧ (ErrIs w' (.iface ty v) c p ∧ Below w.heap.size w w') := by
 refine rankRun_err1 (R := fun ty v w' => ErrIs w' (.iface ty v) c p ∧ Below w.heap.size w w') a _ cap per na _ ncap w (fun W hB => (linkCheck_is a cap ps per c p W ad (he.below hB.below) (hl.below hB.below) hcap hm h hc).mono ?_)
 rintro e w' ⟨ty, v, rfl, hE, hb⟩
 exact ⟨ty, v, rfl, hE, hB.below.trans (hb.mono hB.below.size)⟩
theorem rankRun_isN (a : Option Addr) (cap : Nat) (ps : List Pk) (per : Int) (na : Option Addr) (ncap : Nat) (ns : List Int) (w : World) (ad : Nat → Addr) (he : Errs9 w ad) (hl : LiesP w a ps) (hn : LiesN w na ns) (ho : OkPks ps) (h1 : 1 ≤ per) (h2 : per ≤ 1000) (c : Nat) (h : NumsFault 0 100 ns c) (hc : 0 < c) :
  Calls Tryz.prog 86 #[.slice a ps.length cap, .int .i64 per, .slice na ns.length ncap] w fun e w' => ∃ ty v, e = .returned (.tuple #[.slice none 0 0, .iface ty v]) ∧ (ErrIs w' (.iface ty v) c (-1) ∧ Below w.heap.size w w') := by
 refine rankRun_err2 (R := fun ty v w' => ErrIs w' (.iface ty v) c (-1) ∧ Below w.heap.size w w') a _ cap per na _ ncap w (fun W hB => linkCheck_ok a cap ps per W (hl.below hB.below) ho h1 h2) (fun W hB => (checkUpTo_bad na ncap ns 100 W ad (he.below hB.below).nums (hn.below hB.below) c h hc).mono ?_)
 rintro e w' ⟨rfl, hb⟩
 have hb' := hB.below.trans (hb.mono hB.below.size)
 obtain ⟨ty, v, e1, e2⟩ := errIs_nums (he.below hb') h hc
 exact ⟨ty, v, by rw [e1], e2, hb'⟩
theorem rankDue_isL (a : Option Addr) (cap : Nat) (ps : List Pk) (per : Int) (na : Option Addr) (nn ncap : Nat) (w : World) (ad : Nat → Addr) (he : Errs9 w ad) (hl : LiesP w a ps) (hcap : ps.length ≤ cap) (hm : cap ≤ maxLen) (c p : Int) (h : LinkFaultIs ps per c p) (hc : 0 < c) :
  Calls Tryz.prog 87 #[.slice a ps.length cap, .int .i64 per, .slice na nn ncap] w fun e w' => ∃ ty v, e = .returned (.tuple #[.slice none 0 0, .iface ty v]) ∧ (ErrIs w' (.iface ty v) c p ∧ Below w.heap.size w w') := by
 refine rankDue_err1 (R := fun ty v w' => ErrIs w' (.iface ty v) c p ∧ Below w.heap.size w w') a _ cap per na _ ncap w (fun W hB => (linkCheck_is a cap ps per c p W ad (he.below hB.below) (hl.below hB.below) hcap hm h hc).mono ?_)
 rintro e w' ⟨ty, v, rfl, hE, hb⟩
 exact ⟨ty, v, rfl, hE, hB.below.trans (hb.mono hB.below.size)⟩
theorem rankDue_isN (a : Option Addr) (cap : Nat) (ps : List Pk) (per : Int) (na : Option Addr) (ncap : Nat) (ns : List Int) (w : World) (ad : Nat → Addr) (he : Errs9 w ad) (hl : LiesP w a ps) (hn : LiesN w na ns) (ho : OkPks ps) (h1 : 1 ≤ per) (h2 : per ≤ 1000) (c : Nat) (h : NumsFault 0 1099511627776 ns c) (hc : 0 < c) :
  Calls Tryz.prog 87 #[.slice a ps.length cap, .int .i64 per, .slice na ns.length ncap] w fun e w' => ∃ ty v, e = .returned (.tuple #[.slice none 0 0, .iface ty v]) ∧ (ErrIs w' (.iface ty v) c (-1) ∧ Below w.heap.size w w') := by
 refine rankDue_err2 (R := fun ty v w' => ErrIs w' (.iface ty v) c (-1) ∧ Below w.heap.size w w') a _ cap per na _ ncap w (fun W hB => linkCheck_ok a cap ps per W (hl.below hB.below) ho h1 h2) (fun W hB => (checkUpTo_bad na ncap ns 1099511627776 W ad (he.below hB.below).nums (hn.below hB.below) c h hc).mono ?_)
 rintro e w' ⟨rfl, hb⟩
 have hb' := hB.below.trans (hb.mono hB.below.size)
 obtain ⟨ty, v, e1, e2⟩ := errIs_nums (he.below hb') h hc
 exact ⟨ty, v, by rw [e1], e2, hb'⟩
theorem roundRun_isL (a : Option Addr) (cap : Nat) (ps : List Pk) (per : Int) (na : Option Addr) (nn ncap : Nat) (w : World) (ad : Nat → Addr) (he : Errs9 w ad) (hl : LiesP w a ps) (hcap : ps.length ≤ cap) (hm : cap ≤ maxLen) (c p : Int) (h : LinkFaultIs ps per c p) (hc : 0 < c) :
  Calls Tryz.prog 26 #[.slice a ps.length cap, .int .i64 per, .slice na nn ncap] w fun e w' => ∃ ty v, e = .returned (.tuple #[.slice none 0 0, .iface ty v]) ∧ (ErrIs w' (.iface ty v) c p ∧ Below w.heap.size w w') :=
 roundRun_err1 (R := fun ty v w' => ErrIs w' (.iface ty v) c p ∧ Below w.heap.size w w') a _ cap per na _ ncap w (linkCheck_is a cap ps per c p w ad he hl hcap hm h hc)
theorem roundRun_isN (a : Option Addr) (cap : Nat) (ps : List Pk) (per : Int) (na : Option Addr) (ncap : Nat) (ns : List Int) (w : World) (ad : Nat → Addr) (he : Errs9 w ad) (hl : LiesP w a ps) (hn : LiesN w na ns) (ho : OkPks ps) (h1 : 1 ≤ per) (h2 : per ≤ 1000) (c : Nat) (h : NumsFault 1 3000 ns c) (hc : 0 < c) :
  Calls Tryz.prog 26 #[.slice a ps.length cap, .int .i64 per, .slice na ns.length ncap] w fun e w' => ∃ ty v, e = .returned (.tuple #[.slice none 0 0, .iface ty v]) ∧ (ErrIs w' (.iface ty v) c (-1) ∧ Below w.heap.size w w') := by
 refine roundRun_err2 (R := fun ty v w' => ErrIs w' (.iface ty v) c (-1) ∧ Below w.heap.size w w') a _ cap per na _ ncap w (linkCheck_ok a cap ps per w hl ho h1 h2) (fun W hb => (checkQuanta_bad na ncap ns W ad (he.below hb).nums (hn.below hb) c h hc).mono ?_)
 rintro e w' ⟨rfl, rfl⟩
 obtain ⟨ty, v, e1, e2⟩ := errIs_numsB (he.below hb) h hc
 exact ⟨ty, v, by rw [e1], e2, hb⟩
theorem errIs_wts {w : World} {ad : Nat → Addr} (he : Errs9 w ad) {ns : List Int} {c : Nat} (h : WtsFault ns c) (hc : 0 < c) : ∃ ty v, sentOf ad c = .iface ty v ∧ ErrIs w (.iface ty v) c (-1) := by
 rcases h with ⟨rfl, -⟩ | ⟨rfl, -⟩ | ⟨rfl, -⟩
 · exact ⟨_, _, rfl, errIs_sent he 2 (by decide)⟩
 · exact ⟨_, _, rfl, errIs_sent he 1 (by decide)⟩
 · omega
theorem fairCheck_isL (a : Option Addr) (cap : Nat) (ps : List Pk) (per : Int) (na : Option Addr) (nn ncap : Nat) (w : World) (ad : Nat → Addr) (he : Errs9 w ad) (hl : LiesP w a ps) (hcap : ps.length ≤ cap) (hm : cap ≤ maxLen) (c p : Int) (h : LinkFaultIs ps per c p) (hc : 0 < c) :
  Calls Tryz.prog 135 #[.slice a ps.length cap, .int .i64 per, .slice na nn ncap] w fun e w' => ∃ ty v, e = .returned (.iface ty v) ∧ (ErrIs w' (.iface ty v) c p ∧ Below w.heap.size w w') :=
 fairCheck_err1 (R := fun ty v w' => ErrIs w' (.iface ty v) c p ∧ Below w.heap.size w w') a _ cap per na _ ncap w (linkCheck_is a cap ps per c p w ad he hl hcap hm h hc)
theorem fairCheck_isN (a : Option Addr) (cap : Nat) (ps : List Pk) (per : Int) (na : Option Addr) (ncap : Nat) (ns : List Int) (w : World) (ad : Nat → Addr) (he : Errs9 w ad) (hl : LiesP w a ps) (hn : LiesN w na ns) (ho : OkPks ps) (h1 : 1 ≤ per) (h2 : per ≤ 1000) (c : Nat) (h : WtsFault ns c) (hc : 0 < c) :
  Calls Tryz.prog 135 #[.slice a ps.length cap, .int .i64 per, .slice na ns.length ncap] w fun e w' => ∃ ty v, e = .returned (.iface ty v) ∧ (ErrIs w' (.iface ty v) c (-1) ∧ Below w.heap.size w w') := by
 refine fairCheck_err2 (R := fun ty v w' => ErrIs w' (.iface ty v) c (-1) ∧ Below w.heap.size w w') a _ cap per na _ ncap w (linkCheck_ok a cap ps per w hl ho h1 h2) (fun W hb => (checkWeights_bad na ncap ns W ad (he.below hb).nums (hn.below hb) c h hc).mono ?_)
 rintro e w' ⟨rfl, rfl⟩
 obtain ⟨ty, v, e1, e2⟩ := errIs_wts (he.below hb) h hc
 exact ⟨ty, v, by rw [e1], e2, hb⟩
end Go.Proofs.YtibhkijaafdkoaaGreatDoor

namespace Go.Proofs.YtibhkijaafdkoaaGreatDoor
open Go.RowKit
def KindRes (k : Nat) (per : Int) (ns : List Int) (c : Int) : Prop := (¬ (1 ≤ per ∧ per ≤ 1000) ∧ c = 2) ∨ (1 ≤ per ∧ per ≤ 1000 ∧ ∃ d : Nat, KindFault k ns d ∧ c = d)
def SendEnd (k : Nat) (per : Int) (ns : List Int) (ps : List Pk) (c : Int) (w : World) (e : Ending) (w' : World) : Prop := ∃ la n lcap E, e = .returned (.tuple #[.slice la n lcap, E]) ∧ ErrIs w' E c (-1) ∧ Below w.heap.size w w' ∧ (c = 0 → ∃ l, n = l.length ∧ SntLie w' la lcap l ∧ LinkSends k per ps ns l)
theorem sendEnd_bad {k : Nat} {per : Int} {ns : List Int} {ps : List Pk} {c : Int} {w : World} (hc : 0 < c) {e : Ending} {w' : World} (h : ∃ ty v, e = .returned (.tuple #[.slice none 0 0, .iface ty v]) ∧ (ErrIs w' (.iface ty v) c (-1) ∧ Below w.heap.size w w')) : SendEnd k per ns ps c w e w' := by
 obtain ⟨ty, v, rfl, h1, h2⟩ := h
 exact ⟨none, 0, 0, _, rfl, h1, h2, fun h0 => by omega⟩
theorem sendEnd_ok {k : Nat} {per : Int} {ns : List Int} {ps : List Pk} {w w' : World} {v : Value} {l : List Sn} (ho : OwnS w' w.heap.size v l) (hl : LinkSends k per ps ns l) (hb : Below w.heap.size w w') : SendEnd k per ns ps 0 w (.returned (.tuple #[v, .nilIface])) w' := by
 obtain ⟨a, cap, rfl, h1, h2, h3, -, h5⟩ := ho.open
 exact ⟨a, l.length, cap, .nilIface, rfl, errIs_nil w', hb, fun _ => ⟨l, rfl, ⟨h3, h1, h2, h5⟩, hl⟩⟩
section
variable (pa : Option Addr) (pcap : Nat) (ps : List Pk) (per : Int) (na : Option Addr) (ncap : Nat) (ns : List Int) (w : World) (ad : Nat → Addr)
theorem linkBad {per : Int} {ps : List Pk} (ho : OkPks ps) (h : ¬ (1 ≤ per ∧ per ≤ 1000)) : LinkFaultIs ps per 2 (-1) := .inr (.inl ⟨ho, by omega, rfl, rfl⟩)
theorem sendRank (he : Errs9 w ad) (hp : PksLie w pa pcap ps) (hn : LiesN w na ns) (ho : OkPks ps) (c : Int) (hr : KindRes 2 per ns c) : Calls Tryz.prog 86 #[.slice pa ps.length pcap, .int .i64 per, .slice na ns.length ncap] w fun e w' => SendEnd 2 per ns ps c w e w' := by
 rcases hr with ⟨h, rfl⟩ | ⟨h1, h2, d, hd, rfl⟩
 · exact (rankRun_isL pa pcap ps per na ns.length ncap w ad he hp.pks hp.cap hp.max 2 (-1) (linkBad ho h) (by omega)).mono fun _ _ h => sendEnd_bad (by omega) h
 ·
  rcases hd with ⟨h, -⟩ | ⟨-, hd⟩ | ⟨h, -⟩ | ⟨h, -⟩ | ⟨h, -⟩
  · omega
  ·
   rcases Nat.eq_zero_or_pos d with rfl | h0
   ·
    refine (rankRun_ok pa pcap ps per na ncap ns w hp.pks hn ho h1 h2 hd.ok).mono ?_
    rintro e w' ⟨v, rfl, l, g1, g2, g3, g4⟩
    exact sendEnd_ok g1 (.inr (.inl ⟨rfl, g2, g3⟩)) g4
   · exact (rankRun_isN pa pcap ps per na ncap ns w ad he hp.pks hn ho h1 h2 d hd h0).mono fun _ _ h => sendEnd_bad (by omega) h
  all_goals omega
theorem sendDue (he : Errs9 w ad) (hp : PksLie w pa pcap ps) (hn : LiesN w na ns) (ho : OkPks ps) (c : Int) (hr : KindRes 3 per ns c) : Calls Tryz.prog 87 #[.slice pa ps.length pcap, .int .i64 per, .slice na ns.length ncap] w fun e w' => SendEnd 3 per ns ps c w e w' := by
 rcases hr with ⟨h, rfl⟩ | ⟨h1, h2, d, hd, rfl⟩
 · exact (rankDue_isL pa pcap ps per na ns.length ncap w ad he hp.pks hp.cap hp.max 2 (-1) (linkBad ho h) (by omega)).mono fun _ _ h => sendEnd_bad (by omega) h
 ·
  rcases hd with ⟨h, -⟩ | ⟨h, -⟩ | ⟨-, hd⟩ | ⟨h, -⟩ | ⟨h, -⟩
  · omega
  · omega
  ·
   rcases Nat.eq_zero_or_pos d with rfl | h0
   ·
    refine (rankDue_ok pa pcap ps per na ncap ns w hp.pks hn ho h1 h2 hd.ok).mono ?_
    rintro e w' ⟨v, rfl, l, g1, g2, g3, g4⟩
    exact sendEnd_ok g1 (.inr (.inr (.inl ⟨rfl, g2, g3⟩))) g4
   · exact (rankDue_isN pa pcap ps per na ncap ns w ad he hp.pks hn ho h1 h2 d hd h0).mono fun _ _ h => sendEnd_bad (by omega) h
  all_goals omega
theorem sendRound (he : Errs9 w ad) (hp : PksLie w pa pcap ps) (hn : LiesN w na ns) (ho : OkPks ps) (c : Int) (hr : KindRes 4 per ns c) : Calls Tryz.prog 26 #[.slice pa ps.length pcap, .int .i64 per, .slice na ns.length ncap] w fun e w' => SendEnd 4 per ns ps c w e w' := by
 rcases hr with ⟨h, rfl⟩ | ⟨h1, h2, d, hd, rfl⟩
 · exact (roundRun_isL pa pcap ps per na ns.length ncap w ad he hp.pks hp.cap hp.max 2 (-1) (linkBad ho h) (by omega)).mono fun _ _ h => sendEnd_bad (by omega) h
 ·
  rcases hd with ⟨h, -⟩ | ⟨h, -⟩ | ⟨h, -⟩ | ⟨-, hd⟩ | ⟨h, -⟩
  · omega
  · omega
  · omega
  ·
   rcases Nat.eq_zero_or_pos d with rfl | h0
   ·
    refine (roundRun_ok pa pcap ps per na ncap ns w hp.pks hn ho h1 h2 hd.ok).mono ?_
    rintro e w' ⟨v, rfl, l, g1, g2, g4⟩
    exact sendEnd_ok g1 (.inr (.inr (.inr (.inl ⟨rfl, g2⟩)))) g4
   · exact (roundRun_isN pa pcap ps per na ncap ns w ad he hp.pks hn ho h1 h2 d hd h0).mono fun _ _ h => sendEnd_bad (by omega) h
  all_goals omega
theorem sendFair (he : Errs9 w ad) (hp : PksLie w pa pcap ps) (hn : LiesN w na ns) (ho : OkPks ps) (c : Int) (hr : KindRes 5 per ns c) : Calls Tryz.prog 88 #[.slice pa ps.length pcap, .int .i64 per, .slice na ns.length ncap] w fun e w' => SendEnd 5 per ns ps c w e w' := by
 rcases hr with ⟨h, rfl⟩ | ⟨h1, h2, d, hd, rfl⟩
 · exact (fairRun_err (R := fun ty v w' => ErrIs w' (.iface ty v) 2 (-1) ∧ Below w.heap.size w w') pa _ pcap per na _ ncap w (fairCheck_isL pa pcap ps per na ns.length ncap w ad he hp.pks hp.cap hp.max 2 (-1) (linkBad ho h) (by omega))).mono fun _ _ h => sendEnd_bad (by omega) h
 ·
  rcases hd with ⟨h, -⟩ | ⟨h, -⟩ | ⟨h, -⟩ | ⟨h, -⟩ | ⟨-, hd⟩
  · omega
  · omega
  · omega
  · omega
  ·
   rcases Nat.eq_zero_or_pos d with rfl | h0
   ·
    refine (fairRun_ok pa pcap ps per na ncap ns w hp.pks hn ho h1 h2 hd.ok).mono ?_
    rintro e w' ⟨v, rfl, g, gt, l, f, g1, g2, g4, -⟩
    exact sendEnd_ok g1 (.inr (.inr (.inr (.inr ⟨rfl, _, g2⟩)))) g4
   · exact (fairRun_err (R := fun ty v w' => ErrIs w' (.iface ty v) d (-1) ∧ Below w.heap.size w w') pa _ pcap per na _ ncap w (fairCheck_isN pa pcap ps per na ncap ns w ad he hp.pks hn ho h1 h2 d hd h0)).mono fun _ _ h => sendEnd_bad (by omega) h
theorem Tryz.callFifo (args : Array Value) (W : World) : Sem.run Tryz.prog (callFunc 85 args) W = .ok (.enter 85 args) W := by kernel_rfl
set_option maxRecDepth 100000 in
set_option maxHeartbeats 2000000 in
theorem sendFifo (X : Nat) (he : Errs9 w ad) (hx : w.cell? ⟨X, 0, none⟩ = some (.func (.func 85) #[] #[])) (hp : PksLie w pa pcap ps) (ho : OkPks ps) (c : Int) (hr : KindRes 1 per ns c) : Calls Tryz.prog 129 #[.slice pa ps.length pcap, .int .i64 per, .slice na ns.length ncap, .pointer (some ⟨X, 0, none⟩)] w fun e w' => SendEnd 1 per ns ps c w e w' := by
 have hcall := Tryz.callFifo
 have HE : Hid (Errs9 w ad) := he
 have HO : Hid (OkPks ps) := ho
 rcases hr with ⟨h, rfl⟩ | ⟨h1, h2, d, hd, rfl⟩
 ·
  have HC : Hid (Calls Tryz.prog 85 #[.slice pa ps.length pcap, .int .i64 per] w fun e w' => ∃ ty v, e = .returned (.tuple #[.slice none 0 0, .iface ty v]) ∧ (ErrIs w' (.iface ty v) 2 (-1) ∧ Below w.heap.size w w')) := fifoRun_is pa pcap ps per 2 (-1) w ad he hp.pks hp.cap hp.max (linkBad ho h) (by omega)
  clear he hp ho h
  go_enter Tryz.func129, Tryz.ntmps129
  go_wp2_with fail
  refine HC.out.mono ?_
  rintro e w1 ⟨ty, v, rfl, h3, h4⟩
  have H3 : Hid (ErrIs w1 (.iface ty v) 2 (-1) ∧ Below w.heap.size w w1) := ⟨h3, h4⟩
  clear h3 h4
  go_wp2_with fail
  go_ret2
  exact sendEnd_bad (by omega) ⟨ty, v, rfl, H3.out⟩
 ·
  have HC : Hid (Calls Tryz.prog 85 #[.slice pa ps.length pcap, .int .i64 per] w fun e w' => ∃ v, e = .returned (.tuple #[v, .nilIface]) ∧ OwnS w' w.heap.size v (lindAll per ps ps.length) ∧ Below w.heap.size w w') := fifoRun_ok pa pcap ps per w hp.pks ho h1 h2
  have hd' : (d = 3 ∧ ns ≠ []) ∨ (d = 0 ∧ ns = []) := by
   rcases hd with ⟨-, hd⟩ | ⟨h, -⟩ | ⟨h, -⟩ | ⟨h, -⟩ | ⟨h, -⟩
   · exact hd
   all_goals omega
  obtain ⟨r, hr⟩ : ∃ r, ns.length = r := ⟨_, rfl⟩
  have HR : Hid (ns.length = r) := hr
  rw [hr]
  clear he hp ho hd hr
  rcases hd' with ⟨rfl, hne⟩ | ⟨rfl, hnil⟩
  ·
   have hr0 : (0 : Int) < (r : Int) := by have := List.length_pos_iff.2 hne; have := HR.out; omega
   clear hne
   go_enter Tryz.func129, Tryz.ntmps129
   go_wp2_with fail
   refine HC.out.mono ?_
   rintro e w1 ⟨v, rfl, h3, h4⟩
   have H4 : Hid (Below w.heap.size w w1) := h4
   have c2 := (HE.out.below h4).c2
   clear h3 h4
   go_wp2_with fail
   go_quiet (fail)
   go_wp2_with fail
   go_ret2
   have hbq : Below w.heap.size w (w1.drewN nq) := below_drewN H4.out nq
   exact ⟨none, 0, 0, _, rfl, errIs_sent (HE.out.below hbq) 2 (by omega), hbq, fun h0 => absurd h0 (by decide)⟩
  ·
   have hr0 : ¬ (0 : Int) < (r : Int) := by have := HR.out; rw [hnil] at this; simp at this; omega
   have HNil : Hid (ns = []) := hnil
   clear hnil
   go_enter Tryz.func129, Tryz.ntmps129
   go_wp2_with fail
   refine HC.out.mono ?_
   rintro e w1 ⟨v, rfl, h3, h4⟩
   have H4 : Hid (OwnS w1 w.heap.size v (lindAll per ps ps.length) ∧ Below w.heap.size w w1) := ⟨h3, h4⟩
   clear h3 h4
   go_wp2_with fail
   go_ret2
   exact sendEnd_ok H4.out.1 (.inl ⟨rfl, rfl⟩) H4.out.2
end
end Go.Proofs.YtibhkijaafdkoaaGreatDoor
