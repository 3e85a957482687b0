/- Walks: checkLink, Delay and Busy with their errors. -/
import Derived.Test.YtcldgpbimaoliaaDoorDelay6
namespace Go.Proofs.YtcldgpbimaoliaaDoor
open Go.RowKit

/-- What is wrong with lines and a link. -/
def LinkFault (ls : List (Int × Int)) (per c p : Int) : Prop := (FaultIs ls c p ∧ c ≠ 0) ∨ (okCurve ls ∧ (per < 1 ∨ 1000 < per) ∧ c = 2 ∧ p = -1)
def LinkOk (ls : List (Int × Int)) (per : Int) : Prop := okCurve ls ∧ 1 ≤ per ∧ per ≤ 1000
theorem link_is (ls : List (Int × Int)) (per : Int) : LinkOk ls per ∨ ∃ c p, LinkFault ls per c p := by
  obtain ⟨c, p, hf⟩ := fault_is ls
  by_cases hc : c = 0
  · subst hc
    obtain ⟨hk, _⟩ := hf.ok
    by_cases hp : per < 1 ∨ 1000 < per
    · exact .inr ⟨2, -1, .inr ⟨hk, hp, rfl, rfl⟩⟩
    · exact .inl ⟨hk, by omega, by omega⟩
  · exact .inr ⟨c, p, .inl ⟨hf, hc⟩⟩
theorem LinkFault.ne {ls : List (Int × Int)} {per c p : Int} (h : LinkFault ls per c p) : c = 2 ∨ c = 3 := by
  rcases h with ⟨h, h0⟩ | ⟨_, _, h, _⟩
  · rcases h.num with h | h
    · exact absurd h h0
    · exact h
  · exact .inl h

set_option maxHeartbeats 400000 in
theorem link_ok (a : Option Addr) (cap : Nat) (ls : List (Int × Int)) (per : Int) (w : World) (hl : Lies w a ls) (h : LinkOk ls per) :
    Calls Tryd.prog 63 #[.slice a ls.length cap, .int .i64 per] w fun e w' => e = .returned .nilIface ∧ Below w.heap.size w w' := by
  obtain ⟨hk, p1, p2⟩ := h
  have HL : Hid (Lies w a ls) := hl
  have HK : Hid (okCurve ls) := hk
  clear hl hk
  go_enter Tryd.func63, Tryd.ntmps63
  go_wp2_with fail
  refine (check_ok a cap ls _ HL.out HK.out).mono ?_
  rintro e w1 ⟨rfl, hb⟩
  have HB : Hid (Below w.heap.size w w1) := hb
  clear hb
  go_wp2_with fail
  go_ret
  exact ⟨rfl, HB.out⟩

set_option maxHeartbeats 400000 in
theorem link_bad (a : Option Addr) (cap : Nat) (ls : List (Int × Int)) (per : Int) (w : World) (ad : Nat → Addr) (he : Errs9 w ad) (hl : Lies w a ls) (hcap : ls.length ≤ cap) (hm : cap ≤ maxLen) (c p : Int) (h : LinkFault ls per c p) :
    Calls Tryd.prog 63 #[.slice a ls.length cap, .int .i64 per] w fun e w' => ∃ ty v, e = .returned (.iface ty v) ∧ ErrIs w' (.iface ty v) c p ∧ Below w.heap.size w w' := by
  rcases h with ⟨hf, hc⟩ | ⟨hk, hp, rfl, rfl⟩
  · have HC := (show Hid (Calls Tryd.prog 24 #[.slice a ls.length cap] w fun e w' => ∃ E, e = .returned E ∧ ErrIs w' E c p ∧ Below w.heap.size w w') from check_is a cap ls w ad he hl hcap hm c p hf)
    have Hc : Hid (c ≠ 0) := hc
    clear he hl hcap hm hf hc
    go_enter Tryd.func63, Tryd.ntmps63
    go_wp2_with fail
    refine HC.out.mono ?_
    rintro e w1 ⟨E, rfl, hE, hb⟩
    obtain ⟨ty, v, rfl⟩ := hE.some_ Hc.out
    have HB : Hid (ErrIs w1 (.iface ty v) c p ∧ Below w.heap.size w w1) := ⟨hE, hb⟩
    clear hb hE
    go_wp2_with fail
    go_ret
    exact ⟨ty, v, rfl, HB.out.1, HB.out.2⟩
  · have HL : Hid (Lies w a ls) := hl
    have HK : Hid (okCurve ls) := hk
    have HE : Hid (Errs9 w ad) := he
    clear hl hk he hcap hm
    rcases hp with hp | hp
    · go_enter Tryd.func63, Tryd.ntmps63
      go_wp2_with fail
      refine (check_ok a cap ls _ HL.out HK.out).mono ?_
      rintro e w1 ⟨rfl, hb⟩
      have HB : Hid (Below w.heap.size w w1) := hb
      have g1 := (HE.out.below hb).c1
      clear hb
      go_wp2_with fail
      go_ret
      exact ⟨_, _, rfl, errIs_sent (HE.out.below HB.out) 1 (by decide), HB.out⟩
    · have hp' : ¬ per < 1 := by omega
      go_enter Tryd.func63, Tryd.ntmps63
      go_wp2_with fail
      refine (check_ok a cap ls _ HL.out HK.out).mono ?_
      rintro e w1 ⟨rfl, hb⟩
      have HB : Hid (Below w.heap.size w w1) := hb
      have g1 := (HE.out.below hb).c1
      clear hb
      go_wp2_with fail
      go_ret
      exact ⟨_, _, rfl, errIs_sent (HE.out.below HB.out) 1 (by decide), HB.out⟩

set_option maxHeartbeats 400000 in
theorem delay_bad (a : Option Addr) (cap : Nat) (ls : List (Int × Int)) (per : Int) (w : World) (ad : Nat → Addr) (he : Errs9 w ad) (hl : Lies w a ls) (hcap : ls.length ≤ cap) (hm : cap ≤ maxLen) (c p : Int) (h : LinkFault ls per c p) :
    Calls Tryd.prog 32 #[.slice a ls.length cap, .int .i64 per] w fun e w' => ∃ ty v, e = .returned (.tuple #[.int .i64 0, .iface ty v]) ∧ ErrIs w' (.iface ty v) c p ∧ Below w.heap.size w w' := by
  have HC := (show Hid (Calls Tryd.prog 63 #[.slice a ls.length cap, .int .i64 per] w fun e w' => ∃ ty v, e = .returned (.iface ty v) ∧ ErrIs w' (.iface ty v) c p ∧ Below w.heap.size w w') from link_bad a cap ls per w ad he hl hcap hm c p h)
  clear he hl hcap hm h
  go_enter Tryd.func32, Tryd.ntmps32
  go_wp2_with fail
  refine HC.out.mono ?_
  rintro e w1 ⟨ty, v, rfl, hE, hb⟩
  have HB : Hid (ErrIs w1 (.iface ty v) c p ∧ Below w.heap.size w w1) := ⟨hE, hb⟩
  clear hb hE
  go_wp2_with fail
  go_ret2
  exact ⟨ty, v, rfl, HB.out.1, HB.out.2⟩

theorem rate_bd {ls : List (Int × Int)} {per : Int} (h : LinkOk ls per) : 0 ≤ leastR ls * per ∧ leastR ls * per ≤ 100000000 := by
  obtain ⟨q, hq, e⟩ := leastR_is ls h.1.1
  have hok := okLine_true (h.1.2.2 q hq)
  rw [e]
  refine ⟨Int.mul_nonneg hok.2.2.1 (by have := h.2.1; omega), ?_⟩
  have a1 := Int.mul_le_mul_of_nonneg_left h.2.2 hok.2.2.1
  omega

set_option maxHeartbeats 400000 in
theorem delay_none (a : Option Addr) (cap : Nat) (ls : List (Int × Int)) (per : Int) (w : World) (ad : Nat → Addr) (he : Errs9 w ad) (hl : Lies w a ls) (hcap : ls.length ≤ cap) (hm : cap ≤ maxLen) (h : LinkOk ls per) (hn : 1000 < leastR ls * per) :
    Calls Tryd.prog 32 #[.slice a ls.length cap, .int .i64 per] w fun e w' => e = .returned (.tuple #[.int .i64 0, .iface 98 (.pointer (some (ad 3)))]) ∧ Below w.heap.size w w' := by
  have HL : Hid (Lies w a ls) := hl
  have HK : Hid (LinkOk ls per) := h
  have Hc : Hid (ls.length ≤ cap ∧ cap ≤ maxLen) := ⟨hcap, hm⟩
  have HE : Hid (Errs9 w ad) := he
  obtain ⟨r1, r2⟩ := rate_bd h
  clear hl hcap hm he h
  go_enter Tryd.func32, Tryd.ntmps32
  go_wp2_with fail
  refine (link_ok a cap ls per _ HL.out HK.out).mono ?_
  rintro e w1 ⟨rfl, hb⟩
  have HB : Hid (Below w.heap.size w w1) := hb
  clear hb
  go_wp2_with fail
  refine (leastRate_ok a cap ls _ (HL.out.below HB.out) HK.out.1 Hc.out.1 Hc.out.2).mono ?_
  rintro e w2 ⟨rfl, hb2⟩
  have HB2 : Hid (Below w.heap.size w w2) := HB.out.trans (hb2.mono HB.out.size)
  have g3 := (HE.out.below HB2.out).c3
  clear hb2
  go_wp2_with fail
  go_quiet (fail)
  go_wp2_with fail
  go_ret2
  exact ⟨rfl, below_drewN HB2.out _⟩

set_option maxHeartbeats 400000 in
theorem delay_ok (a : Option Addr) (cap : Nat) (ls : List (Int × Int)) (per : Int) (w : World) (hl : Lies w a ls) (hcap : ls.length ≤ cap) (hm : cap ≤ maxLen) (h : LinkOk ls per) (hn : leastR ls * per ≤ 1000) :
    Calls Tryd.prog 32 #[.slice a ls.length cap, .int .i64 per] w fun e w' => ∃ d, e = .returned (.tuple #[.int .i64 d, .nilIface]) ∧ DelayIs per ls d ∧ Below w.heap.size w w' := by
  have HL : Hid (Lies w a ls) := hl
  have HK : Hid (LinkOk ls per) := h
  have Hc : Hid (ls.length ≤ cap ∧ cap ≤ maxLen) := ⟨hcap, hm⟩
  obtain ⟨r1, r2⟩ := rate_bd h
  have HN : Hid (leastR ls * per ≤ 1000) := hn
  clear hl hcap hm h
  go_enter Tryd.func32, Tryd.ntmps32
  go_wp2_with fail
  refine (link_ok a cap ls per _ HL.out HK.out).mono ?_
  rintro e w1 ⟨rfl, hb⟩
  have HB : Hid (Below w.heap.size w w1) := hb
  clear hb
  go_wp2_with fail
  refine (leastRate_ok a cap ls _ (HL.out.below HB.out) HK.out.1 Hc.out.1 Hc.out.2).mono ?_
  rintro e w2 ⟨rfl, hb2⟩
  have HB2 : Hid (Below w.heap.size w w2) := HB.out.trans (hb2.mono HB.out.size)
  clear hb2
  go_wp2_with fail
  refine (longest_ok a cap ls per _ (HL.out.below HB2.out) HK.out.1 Hc.out.1 Hc.out.2 HK.out.2.1 HK.out.2.2 HN.out).mono ?_
  rintro e w3 ⟨d, rfl, hd, hb3⟩
  have HB3 : Hid (DelayIs per ls d ∧ Below w.heap.size w w3) := ⟨hd, HB2.out.trans (hb3.mono HB2.out.size)⟩
  clear hb3 hd
  go_wp2_with fail
  go_ret2
  exact ⟨d, rfl, HB3.out.1, HB3.out.2⟩
end Go.Proofs.YtcldgpbimaoliaaDoor
