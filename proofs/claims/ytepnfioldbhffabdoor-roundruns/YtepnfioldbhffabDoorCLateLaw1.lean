/- RankLate: what Late tells, by the error's number and place; its short ways. -/
import Derived.Test.YtepnfioldbhffabDoorCAllLates
import Derived.Test.YtepnfioldbhffabDoorCOwnInts
import Derived.Test.YtepnfioldbhffabDoorCPkts5
import Derived.Test.YtepnfioldbhffabDoorCFaulted
import Derived.Test.YtepnfioldbhffabDoorCSends
import Derived.Test.YtepnfioldbhffabDoorCFitPkts
import Derived.Test.YtepnfioldbhffabDoorCAllNums
namespace Go.Proofs.YtepnfioldbhffabDoor
open Go.RowKit

theorem errIs_fault {w : World} {ad : Nat → Addr} (he : Errs9 w ad) (k : Nat) (hk : k < 9) (n : Int) (pb : Nat) (h0 : w.cell? ⟨pb, 0, none⟩ = some (.int .i64 n)) (h1 : w.cell? ⟨pb, 1, none⟩ = some (.iface 157 (.pointer (some (ad k))))) : ErrIs w (.iface 74 (.pointer (some ⟨pb, 0, none⟩))) (k + 1) n :=
  ⟨codeIs_fault he k hk n pb h0 h1, fun h => by omega, fun _ => ⟨_, _, rfl⟩⟩
theorem errIs_nums {w : World} {ad : Nat → Addr} (he : Errs9 w ad) {hi : Int} {ns : List Int} {c : Nat} (h : NumsFault 0 hi ns c) (hc : 0 < c) : ∃ ty v, sentOf ad c = .iface ty v ∧ ErrIs w (.iface ty v) c (-1) := by
  rcases h with ⟨rfl, -⟩ | ⟨rfl, -⟩ | ⟨rfl, -⟩
  · exact ⟨_, _, rfl, errIs_sent he 2 (by decide)⟩
  · exact ⟨_, _, rfl, errIs_sent he 1 (by decide)⟩
  · omega
theorem Errs9.nums {w : World} {ad : Nat → Addr} (he : Errs9 w ad) : NumErrs w ad := ⟨he.c1, he.c2⟩

/-- What is wrong, by the document. -/
def LateFaultIs (ps : List Pk) (ns : List Int) (l : List Sn) (c p : Int) : Prop :=
  (PksFault ps c p ∧ 0 < c) ∨ (OkPks ps ∧ (∃ k : Nat, NumsFault 0 1099511627776 ns k ∧ 0 < k ∧ c = k) ∧ p = -1) ∨ (OkPks ps ∧ NumsOk 0 1099511627776 ns ∧ SentFaultIs ps.length l c p ∧ 0 < c)
/-- Late's error, by its number and place. -/
theorem late_is (pa : Option Addr) (pcap : Nat) (ps : List Pk) (a : Option Addr) (cap : Nat) (l : List Sn) (na : Option Addr) (ncap : Nat) (ns : List Int) (w : World) (ad : Nat → Addr) (he : Errs9 w ad) (hp : LiesP w pa ps) (hl : LiesS w a l) (hn : LiesN w na ns) (hcap : ps.length ≤ pcap) (hm : pcap ≤ maxLen) (hll : l.length ≤ 300) (ht : tameAll l) (c p : Int) (h : LateFaultIs ps ns l c p) :
    Calls Tryd.prog 29 #[.slice pa ps.length pcap, .slice a l.length cap, .slice na ns.length ncap] w fun e w' => ∃ ty v, e = .returned (.tuple #[.int .i64 0, .iface ty v]) ∧ (ErrIs w' (.iface ty v) c p ∧ Below w.heap.size w w') := by
  rcases h with ⟨hf, h0⟩ | ⟨ho, ⟨k, hk, h0, rfl⟩, rfl⟩ | ⟨ho, hk, hs, h0⟩
  · refine late_err1 (R := fun ty v w' => ErrIs w' (.iface ty v) c p ∧ Below w.heap.size w w') pa _ pcap a _ cap na _ ncap w ((pcheck_is pa pcap ps w ad he hp hcap hm c p hf).mono ?_)
    rintro e w' ⟨E, rfl, hE, hb⟩
    obtain ⟨ty, v, rfl⟩ := hE.some_ (by omega)
    exact ⟨ty, v, rfl, hE, hb⟩
  · refine late_err2 (R := fun ty v w' => ErrIs w' (.iface ty v) k (-1) ∧ Below w.heap.size w w') pa _ pcap a _ cap na _ ncap w (pcheck_ok pa pcap ps w hp ho) (fun W hb => (checkUpTo_bad na ncap ns _ W ad (he.below hb).nums (hn.below hb) k hk h0).mono ?_)
    rintro e w' ⟨rfl, hb2⟩
    have hb' := hb.trans (hb2.mono hb.size)
    obtain ⟨ty, v, e1, e2⟩ := errIs_nums (he.below hb') hk h0
    exact ⟨ty, v, by rw [e1], e2, hb'⟩
  · refine (late_any pa pcap ps a cap l na ncap ns w ad he.c3 hp hl hn ho hk hll ht).mono ?_
    rintro e w' ⟨hb, ⟨-, hall⟩ | ⟨j, x, F, hx, hgood, hbad, rfl, f0, f1⟩⟩
    · rcases hs with ⟨j, x, hx, -, hno, -⟩ | ⟨-, rfl, -⟩
      · rw [hall j x hx] at hno; cases hno
      · omega
    · rcases hs with ⟨j', x', hx', hgood', hno, rfl, rfl⟩ | ⟨hall, -⟩
      · have ej : j = j' := by
          rcases Nat.lt_trichotomy j j' with h' | h' | h'
          · have := hgood' j x h' hx; rw [hbad] at this; cases this
          · exact h'
          · have := hgood j' x' h' hx'; rw [hno] at this; cases this
        subst ej
        exact ⟨_, _, rfl, errIs_fault (he.below hb) 3 (by decide) j F f0 f1, hb⟩
      · rw [hall j x hx] at hbad; cases hbad

set_option maxRecDepth 100000 in
set_option maxHeartbeats 1000000 in
theorem lateLaw_many (pa : Option Addr) (m pcap : Nat) (a : Option Addr) (n cap : Nat) (na : Option Addr) (nn ncap : Nat) (w : World) (h1 : ¬ (m : Int) ≤ 80) (h2 : m ≠ 301) :
    Calls Tryd.prog 6 #[.slice pa m pcap, .slice a n cap, .slice na nn ncap] w fun e w' => e = .returned (.bool true) ∧ Below w.heap.size w w' := by
  have HF : Hid (∀ w', Calls Tryd.prog 24 #[.slice pa m pcap, .int .i64 80] w' fun e w'' => e = .returned (.bool false) ∧ w'' = w') := fun w' => fitPkts_no pa m pcap 80 w' h1 h2
  clear h1 h2
  go_enter Tryd.func6, Tryd.ntmps6
  go_wp2_with fail
  refine (sends_any _).mono ?_
  rintro e w1 ⟨rfl, hb⟩
  have HB : Hid (Below w.heap.size w w1) := hb
  clear hb
  go_wp2_with fail
  refine (HF.out _).mono ?_
  rintro e w2 ⟨rfl, rfl⟩
  go_wp2_with fail
  go_ret
  exact ⟨rfl, HB.out⟩
set_option maxRecDepth 100000 in
set_option maxHeartbeats 1000000 in
theorem lateLaw_more (pa : Option Addr) (m pcap : Nat) (a : Option Addr) (n cap : Nat) (na : Option Addr) (nn ncap : Nat) (w : World) (hm : m ≤ maxLen) (h1 : (m : Int) ≤ 80 ∨ m = 301) (h : 100 < n ∨ (¬ 100 < n ∧ 30 < nn)) :
    Calls Tryd.prog 6 #[.slice pa m pcap, .slice a n cap, .slice na nn ncap] w fun e w' => e = .returned (.bool true) ∧ Below w.heap.size w w' := by
  have HF : Hid (∀ w', Calls Tryd.prog 24 #[.slice pa m pcap, .int .i64 80] w' fun e w'' => e = .returned (.bool true) ∧ w'' = w') := fun w' => fitPkts_yes pa m pcap 80 w' hm h1
  clear h1
  rcases h with h | ⟨h, h'⟩
  · go_enter Tryd.func6, Tryd.ntmps6
    go_wp2_with fail
    refine (sends_any _).mono ?_
    rintro e w1 ⟨rfl, hb⟩
    have HB : Hid (Below w.heap.size w w1) := hb
    clear hb
    go_wp2_with fail
    refine (HF.out _).mono ?_
    rintro e w2 ⟨rfl, rfl⟩
    go_wp2_with fail
    go_ret
    exact ⟨rfl, HB.out⟩
  · go_enter Tryd.func6, Tryd.ntmps6
    go_wp2_with fail
    refine (sends_any _).mono ?_
    rintro e w1 ⟨rfl, hb⟩
    have HB : Hid (Below w.heap.size w w1) := hb
    clear hb
    go_wp2_with fail
    refine (HF.out _).mono ?_
    rintro e w2 ⟨rfl, rfl⟩
    go_wp2_with fail
    go_ret
    exact ⟨rfl, HB.out⟩
end Go.Proofs.YtepnfioldbhffabDoor
