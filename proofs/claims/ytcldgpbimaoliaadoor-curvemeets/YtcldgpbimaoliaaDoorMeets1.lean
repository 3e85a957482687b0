/- CurveMeets: the ways that end early, and those with an error. -/
import Derived.Test.YtcldgpbimaoliaaDoorBusy
import Derived.Test.YtcldgpbimaoliaaDoorCurveAt
namespace Go.Proofs.YtcldgpbimaoliaaDoor
open Go.RowKit

/-- So many numbers lie in memory from an address on. -/
def LiesI (w : World) (a : Option Addr) (ts : List Int) : Prop :=
  ts = [] ∨ ∃ b off, a = some ⟨b, off, none⟩ ∧ b < w.heap.size ∧ ∀ i x, ts[i]? = some x → w.cell? ⟨b, off + i, none⟩ = some (.int .i64 x)

set_option maxHeartbeats 400000 in
theorem meets_len (a a2 : Option Addr) (n cap n2 cap2 : Nat) (per : Int) (w : World) (hm : n ≤ maxLen) (hn : 30 < n) :
    Calls Tryd.prog 7 #[.slice a n cap, .int .i64 per, .slice a2 n2 cap2] w fun e w' => e = .returned (.bool true) ∧ Below w.heap.size w w' := by
  unfold maxLen at hm
  go_enter Tryd.func7, Tryd.ntmps7
  go_wp2_with fail
  refine (drawn_any _).mono ?_
  rintro e w1 ⟨rfl, hb⟩
  have HB : Hid (Below w.heap.size w w1) := hb
  clear hb
  go_wp2_with fail
  go_ret
  exact ⟨rfl, HB.out⟩
set_option maxHeartbeats 400000 in
theorem meets_many (a a2 : Option Addr) (n cap n2 cap2 : Nat) (per : Int) (w : World) (hn : n ≤ 30) (hm : n2 ≤ maxLen) (h2 : 60 < n2) :
    Calls Tryd.prog 7 #[.slice a n cap, .int .i64 per, .slice a2 n2 cap2] w fun e w' => e = .returned (.bool true) ∧ Below w.heap.size w w' := by
  unfold maxLen at hm
  go_enter Tryd.func7, Tryd.ntmps7
  go_wp2_with fail
  refine (drawn_any _).mono ?_
  rintro e w1 ⟨rfl, hb⟩
  have HB : Hid (Below w.heap.size w w1) := hb
  clear hb
  go_wp2_with fail
  go_ret
  exact ⟨rfl, HB.out⟩

/-- Delay and Busy of the same lines, both errors. -/
theorem delay_err (a : Option Addr) (cap : Nat) (ls : List (Int × Int)) (per : Int) (w : World) (ad : Nat → Addr) (he : Errs9 w ad) (hl : Lies w a ls) (hcap : ls.length ≤ cap) (hm : cap ≤ maxLen) (h : ¬ (LinkOk ls per ∧ leastR ls * per ≤ 1000)) :
    Calls Tryd.prog 32 #[.slice a ls.length cap, .int .i64 per] w fun e w' => ∃ ty v, e = .returned (.tuple #[.int .i64 0, .iface ty v]) ∧ Below w.heap.size w w' := by
  rcases link_is ls per with hk | ⟨c, p, hf⟩
  · refine (delay_none a cap ls per w ad he hl hcap hm hk (by rcases Int.lt_or_le 1000 (leastR ls * per) with h' | h'; exact h'; exact absurd ⟨hk, h'⟩ h)).mono ?_
    rintro e w' ⟨rfl, hb⟩
    exact ⟨_, _, rfl, hb⟩
  · refine (delay_bad a cap ls per w ad he hl hcap hm c p hf).mono ?_
    rintro e w' ⟨ty, v, rfl, _, hb⟩
    exact ⟨_, _, rfl, hb⟩
theorem busy_err (a : Option Addr) (cap : Nat) (ls : List (Int × Int)) (per : Int) (w : World) (ad : Nat → Addr) (he : Errs9 w ad) (hl : Lies w a ls) (hcap : ls.length ≤ cap) (hm : cap ≤ maxLen) (h : ¬ (LinkOk ls per ∧ leastR ls * per ≤ 1000)) :
    Calls Tryd.prog 33 #[.slice a ls.length cap, .int .i64 per] w fun e w' => ∃ ty v, e = .returned (.tuple #[.int .i64 0, .iface ty v]) ∧ Below w.heap.size w w' := by
  rcases link_is ls per with hk | ⟨c, p, hf⟩
  · refine (busy_any a cap ls per w ad he hl hcap hm hk).mono ?_
    rintro e w' ⟨hb, ⟨n, hB, rfl⟩ | ⟨_, rfl⟩⟩
    · exfalso
      obtain ⟨p, hp, _, h1, _⟩ := busy_slow hk.1 hk.2.1 hB.one hB.is_
      have := leastR_le ls p hp
      have := Int.mul_le_mul_of_nonneg_right this (show 0 ≤ per by have := hk.2.1; omega)
      exact h ⟨hk, by omega⟩
    · exact ⟨_, _, rfl, hb⟩
  · refine (busy_bad a cap ls per w ad he hl hcap hm c p hf).mono ?_
    rintro e w' ⟨ty, v, rfl, _, hb⟩
    exact ⟨_, _, rfl, hb⟩

set_option maxHeartbeats 1000000 in
theorem meets_err (a a2 : Option Addr) (cap n2 cap2 : Nat) (ls : List (Int × Int)) (per : Int) (w : World) (ad : Nat → Addr) (he : Errs9 w ad) (hl : Lies w a ls) (hn : ls.length ≤ 30) (ha : a = none → ls = [] ∧ cap = 0) (h2 : n2 ≤ 60) (h : ¬ (LinkOk ls per ∧ leastR ls * per ≤ 1000)) :
    Calls Tryd.prog 7 #[.slice a ls.length cap, .int .i64 per, .slice a2 n2 cap2] w fun e w' => e = .returned (.bool true) ∧ Below w.heap.size w w' := by
  have HE : Hid (Errs9 w ad) := he
  have HL : Hid (Lies w a ls) := hl
  have HA : Hid (a = none → ls = [] ∧ cap = 0) := ha
  have HN : Hid (¬ (LinkOk ls per ∧ leastR ls * per ≤ 1000)) := h
  have hn30 : Hid (ls.length ≤ 1000) := by show _ ≤ _; omega
  clear he hl ha h
  go_enter Tryd.func7, Tryd.ntmps7
  go_wp2_with fail
  refine (drawn_any _).mono ?_
  rintro e w1 ⟨rfl, hb⟩
  have HB1 : Hid (Below w.heap.size w w1) := hb
  clear hb
  go_wp2_with fail
  refine (ownLines_from a cap ls w _ HB1.out HL.out hn30.out HA.out).mono ?_
  rintro e w2 ⟨v2, rfl, ho2, _, hB2⟩
  have HB2 : Hid (Below w.heap.size w w2) := hB2
  obtain ⟨b2, k2, rfl, g2, m2, l2⟩ := ho2.open
  clear hB2 ho2
  go_wp2_with fail
  refine (delay_err b2 k2 ls per _ ad (HE.out.below HB2.out) l2 g2 m2 HN.out).mono ?_
  rintro e w3 ⟨t3, v3, rfl, hb3⟩
  have HB3 : Hid (Below w.heap.size w w3) := HB2.out.trans (hb3.mono HB2.out.size)
  clear hb3 l2 g2 m2
  go_wp2_with fail
  refine (ownLines_from a cap ls w _ HB3.out HL.out hn30.out HA.out).mono ?_
  rintro e w4 ⟨v4, rfl, ho4, _, hB4⟩
  have HB4 : Hid (Below w.heap.size w w4) := hB4
  obtain ⟨b4, k4, rfl, g4, m4, l4⟩ := ho4.open
  clear hB4 ho4
  go_wp2_with fail
  refine (busy_err b4 k4 ls per _ ad (HE.out.below HB4.out) l4 g4 m4 HN.out).mono ?_
  rintro e w5 ⟨t5, v5, rfl, hb5⟩
  have HB5 : Hid (Below w.heap.size w w5) := HB4.out.trans (hb5.mono HB4.out.size)
  clear hb5 l4 g4 m4
  go_wp2_with fail
  go_ret
  exact ⟨rfl, HB5.out⟩
end Go.Proofs.YtcldgpbimaoliaaDoor
