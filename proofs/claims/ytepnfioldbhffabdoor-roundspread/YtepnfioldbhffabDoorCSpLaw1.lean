/- RoundSpread: what Spread tells, by the error's number and place; its short ways. -/
import Derived.Test.YtepnfioldbhffabDoorCAllSpreads
import Derived.Test.YtepnfioldbhffabDoorCAllSpreadOfs
import Derived.Test.YtepnfioldbhffabDoorCTurned
import Derived.Test.YtepnfioldbhffabDoorCRRuns1
namespace Go.Proofs.YtepnfioldbhffabDoor
open Go.RowKit

theorem errIs_numsB {w : World} {ad : Nat → Addr} (he : Errs9 w ad) {lo hi : Int} {ns : List Int} {c : Nat} (h : NumsFault lo hi ns c) (hc : 0 < c) : ∃ ty v, sentOf ad c = .iface ty v ∧ ErrIs w (.iface ty v) c (-1) := by
  rcases h with ⟨rfl, -⟩ | ⟨rfl, -⟩ | ⟨rfl, -⟩
  · exact ⟨_, _, rfl, errIs_sent he 2 (by decide)⟩
  · exact ⟨_, _, rfl, errIs_sent he 1 (by decide)⟩
  · omega
/-- Two numbers of flows. -/
def Flows (x y : Int) : Prop := 0 ≤ x ∧ x < 8 ∧ 0 ≤ y ∧ y < 8
/-- What is wrong, by the document. -/
def SpreadFaultIs (ps : List Pk) (ns : List Int) (l : List Sn) (x y : Int) (c p : Int) : Prop :=
  ((∃ k : Nat, NumsFault 1 3000 ns k ∧ 0 < k ∧ c = k) ∧ p = -1) ∨ (NumsOk 1 3000 ns ∧ ¬ Flows x y ∧ c = 2 ∧ p = -1) ∨ (NumsOk 1 3000 ns ∧ Flows x y ∧ PksFault ps c p ∧ 0 < c) ∨ (NumsOk 1 3000 ns ∧ Flows x y ∧ OkPks ps ∧ SentFaultIs ps.length l c p ∧ 0 < c)
/-- Spread's error, by its number and place. -/
theorem spread_is (pa : Option Addr) (pcap : Nat) (ps : List Pk) (a : Option Addr) (cap : Nat) (l : List Sn) (na : Option Addr) (ncap : Nat) (ns : List Int) (x y : Int) (w : World) (ad : Nat → Addr) (he : Errs9 w ad) (hp : LiesP w pa ps) (hl : LiesS w a l) (hn : LiesN w na ns) (hcap : ps.length ≤ pcap) (hm : pcap ≤ maxLen) (hll : l.length ≤ 300) (ht : tameAll l) (c p : Int) (h : SpreadFaultIs ps ns l x y c p) :
    Calls Tryd.prog 39 #[.slice pa ps.length pcap, .slice a l.length cap, .slice na ns.length ncap, .int .i64 x, .int .i64 y] w fun e w' => ∃ ty v, e = .returned (.tuple #[.int .i64 0, .iface ty v]) ∧ (ErrIs w' (.iface ty v) c p ∧ Below w.heap.size w w') := by
  refine spread_err (R := fun ty v w' => ErrIs w' (.iface ty v) c p ∧ Below w.heap.size w w') pa _ pcap a _ cap na _ ncap x y w ?_
  rcases h with ⟨⟨k, hk, h0, rfl⟩, rfl⟩ | ⟨hk, hf, rfl, rfl⟩ | ⟨hk, hf, hq, h0⟩ | ⟨hk, hf, ho, hs, h0⟩
  · refine checkSpread_err1 (R := fun ty v w' => ErrIs w' (.iface ty v) k (-1) ∧ Below w.heap.size w w') pa _ pcap a _ cap na _ ncap x y w ((checkQuanta_bad na ncap ns w ad he.nums hn k hk h0).mono ?_)
    rintro e w' ⟨rfl, rfl⟩
    obtain ⟨ty, v, e1, e2⟩ := errIs_numsB he hk h0
    exact ⟨ty, v, by rw [e1], e2, Below.refl _ _⟩
  · refine (checkSpread_flow pa _ pcap a _ cap na _ ncap x y w ad he.c1 (checkQuanta_ok na ncap ns w hn hk) hf).mono ?_
    rintro e w' ⟨rfl, rfl⟩
    exact ⟨_, _, rfl, errIs_sent he 1 (by decide), Below.refl _ _⟩
  · refine checkSpread_err2 (R := fun ty v w' => ErrIs w' (.iface ty v) c p ∧ Below w.heap.size w w') pa _ pcap a _ cap na _ ncap x y w (checkQuanta_ok na ncap ns w hn hk) ⟨hf.1, hf.2.1⟩ hf.2.2 ((pcheck_is pa pcap ps w ad he hp hcap hm c p hq).mono ?_)
    rintro e w' ⟨E, rfl, hE, hb⟩
    obtain ⟨ty, v, rfl⟩ := hE.some_ (by omega)
    exact ⟨ty, v, rfl, hE, hb⟩
  · refine (checkSpread_last (R := fun u w' => ∃ ty v, u = .iface ty v ∧ (ErrIs w' (.iface ty v) c p ∧ Below w.heap.size w w')) pa _ pcap a _ cap na _ ncap x y w (checkQuanta_ok na ncap ns w hn hk) ⟨hf.1, hf.2.1⟩ hf.2.2 (pcheck_ok pa pcap ps w hp ho) (fun W hb => (delays_any pa pcap ps a cap l W ad (cell_later hb he.c3) (hp.below hb) (hl.below hb) hll ho.few ht (fun i p hp => by have := okPk_true (ho.each _ p hp).1; omega)).mono ?_)).mono ?_
    · rintro e w' ⟨hb2, ⟨D, rfl, -, hall⟩ | ⟨j, z, F, hz, hgood, hbad, rfl, f0, f1⟩⟩
      · rcases hs with ⟨j, z, hz, -, hno, -⟩ | ⟨-, rfl, -⟩
        · rw [hall j z hz] at hno; cases hno
        · omega
      · rcases hs with ⟨j', z', hz', hgood', hno, rfl, rfl⟩ | ⟨hall, -⟩
        · have ej : j = j' := by
            rcases Nat.lt_trichotomy j j' with h' | h' | h'
            · have := hgood' j z h' hz; rw [hbad] at this; cases this
            · exact h'
            · have := hgood j' z' h' hz'; rw [hno] at this; cases this
          subst ej
          have hb' := hb.trans (hb2.mono hb.size)
          exact ⟨_, _, rfl, _, _, rfl, errIs_fault (he.below hb') 3 (by decide) j F f0 f1, hb'⟩
        · rw [hall j z hz] at hbad; cases hbad
    · rintro e w' ⟨u, rfl, ty, v, rfl, h1, h2⟩
      exact ⟨ty, v, rfl, h1, h2⟩

set_option maxRecDepth 100000 in
set_option maxHeartbeats 1000000 in
theorem spLaw_many (pa : Option Addr) (m pcap : Nat) (a : Option Addr) (n cap : Nat) (na : Option Addr) (nn ncap : Nat) (x y : Int) (w : World) (h1 : ¬ (m : Int) ≤ 60) (h2 : m ≠ 301) :
    Calls Tryd.prog 10 #[.slice pa m pcap, .slice a n cap, .slice na nn ncap, .int .i64 x, .int .i64 y] w fun e w' => e = .returned (.bool true) ∧ Below w.heap.size w w' := by
  have HF : Hid (∀ w', Calls Tryd.prog 24 #[.slice pa m pcap, .int .i64 60] w' fun e w'' => e = .returned (.bool false) ∧ w'' = w') := fun w' => fitPkts_no pa m pcap 60 w' h1 h2
  clear h1 h2
  go_enter Tryd.func10, Tryd.ntmps10
  go_wp2_with fail
  refine (turned_any _).mono ?_
  rintro e w1 ⟨rfl, hb⟩
  have HB : Hid (Below w.heap.size w w1) := hb
  clear hb
  go_wp2_with fail
  refine (HF.out _).mono ?_
  rintro e w2 ⟨rfl, rfl⟩
  go_wp2_with fail
  go_ret
  exact ⟨rfl, HB.out⟩
set_option maxRecDepth 100000 in
set_option maxHeartbeats 1000000 in
theorem spLaw_more (pa : Option Addr) (m pcap : Nat) (a : Option Addr) (n cap : Nat) (na : Option Addr) (nn ncap : Nat) (x y : Int) (w : World) (hm : m ≤ maxLen) (h1 : (m : Int) ≤ 60 ∨ m = 301) (h : 60 < n ∨ (¬ 60 < n ∧ 30 < nn)) :
    Calls Tryd.prog 10 #[.slice pa m pcap, .slice a n cap, .slice na nn ncap, .int .i64 x, .int .i64 y] w fun e w' => e = .returned (.bool true) ∧ Below w.heap.size w w' := by
  have HF : Hid (∀ w', Calls Tryd.prog 24 #[.slice pa m pcap, .int .i64 60] w' fun e w'' => e = .returned (.bool true) ∧ w'' = w') := fun w' => fitPkts_yes pa m pcap 60 w' hm h1
  clear h1
  rcases h with h | ⟨h, h'⟩
  · go_enter Tryd.func10, Tryd.ntmps10
    go_wp2_with fail
    refine (turned_any _).mono ?_
    rintro e w1 ⟨rfl, hb⟩
    have HB : Hid (Below w.heap.size w w1) := hb
    clear hb
    go_wp2_with fail
    refine (HF.out _).mono ?_
    rintro e w2 ⟨rfl, rfl⟩
    go_wp2_with fail
    go_ret
    exact ⟨rfl, HB.out⟩
  · go_enter Tryd.func10, Tryd.ntmps10
    go_wp2_with fail
    refine (turned_any _).mono ?_
    rintro e w1 ⟨rfl, hb⟩
    have HB : Hid (Below w.heap.size w w1) := hb
    clear hb
    go_wp2_with fail
    refine (HF.out _).mono ?_
    rintro e w2 ⟨rfl, rfl⟩
    go_wp2_with fail
    go_ret
    exact ⟨rfl, HB.out⟩
end Go.Proofs.YtepnfioldbhffabDoor
