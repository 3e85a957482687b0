/- CurveSame: Sum with its errors, and the ways of the law that end early. -/
import Derived.Test.YtcldgpbimaoliaaDoorPlainTidy
import Derived.Test.YtcldgpbimaoliaaDoorWalk6
namespace Go.Proofs.YtcldgpbimaoliaaDoor
open Go.RowKit

/-- What Sum tells. -/
def SumIs (w' : World) (B : Nat) (e : Ending) (la lb : List (Int × Int)) : Prop :=
  (∃ ty p, e = .returned (.tuple #[.slice none 0 0, .iface ty p])) ∨
  (∃ v ls', e = .returned (.tuple #[v, .nilIface]) ∧ okCurve lb ∧ okAll (eachL la lb) ∧ ls'.Perm (eachL la lb) ∧ SortedL ls' ∧ (lowT [] ls').length ≤ 6 ∧ OwnL w' B v (lowT [] ls').reverse)
theorem sum_any (a1 a2 : Option Addr) (cap1 cap2 : Nat) (la lb : List (Int × Int)) (w : World) (aB aS : Addr) (he : Errs2 w aB aS) (h1 : Lies w a1 la) (h2 : Lies w a2 lb) (k1 : okCurve la) (hcap : lb.length ≤ cap2) (hm : cap2 ≤ maxLen) :
    Calls Tryd.prog 28 #[.slice a1 la.length cap1, .slice a2 lb.length cap2] w fun e w' => SumIs w' w.heap.size e la lb ∧ Below w.heap.size w w' := by
  by_cases k2 : okCurve lb
  · rcases firstBad (eachL la lb) with h | ⟨j, hj, hn, hb⟩
    · refine (sum_ok a1 a2 cap1 cap2 la lb w aS he.shape h1 h2 k1 k2 h).mono ?_
      rintro e w' ⟨ls', hp, hs, hb, ⟨-, rfl⟩ | ⟨h6, v, rfl, ho⟩⟩
      · exact ⟨.inl ⟨_, _, rfl⟩, hb⟩
      · exact ⟨.inr ⟨v, ls', rfl, k2, h, hp, hs, h6, ho⟩, hb⟩
    · refine (sum_bound a1 a2 cap1 cap2 la lb w aB he.bound h1 h2 k1 k2 j hj hn hb).mono ?_
      rintro e w' ⟨rfl, hb⟩
      exact ⟨.inl ⟨_, _, rfl⟩, hb⟩
  · refine (sum_err2 (R := fun _ _ w' => Below w.heap.size w w') a1 cap1 la a2 lb.length cap2 w h1 k1 fun w1 hw1 => ?_).mono ?_
    · rcases check_any a2 cap2 lb w1 aB aS (he.below hw1) (h2.below hw1) hcap hm with ⟨hk, -⟩ | ⟨-, hc⟩
      · exact absurd hk k2
      · refine hc.mono ?_
        rintro e w' ⟨ty, p, rfl, hb⟩
        exact ⟨ty, p, rfl, hw1.trans (hb.mono hw1.size)⟩
    · rintro e w' ⟨ty, p, rfl, hb⟩
      exact ⟨.inl ⟨_, _, rfl⟩, hb⟩

set_option maxHeartbeats 400000 in
theorem same_len1 (a a2 : Option Addr) (n cap n2 cap2 : Nat) (t : Int) (w : World) (hn : n ≤ maxLen) (h : 30 < n) :
    Calls Tryd.prog 6 #[.slice a n cap, .slice a2 n2 cap2, .int .i64 t] w fun e w' => e = .returned (.bool true) ∧ Below w.heap.size w w' := by
  unfold maxLen at hn
  go_enter Tryd.func6, Tryd.ntmps6
  go_wp2_with fail
  refine (drawn_any _).mono ?_
  rintro e w1 ⟨rfl, hb⟩
  have HB1 : Hid (Below w.heap.size w w1) := hb
  clear hb
  go_wp2_with fail
  go_ret
  exact ⟨rfl, HB1.out⟩
set_option maxHeartbeats 400000 in
theorem same_len2 (a a2 : Option Addr) (n cap n2 cap2 : Nat) (t : Int) (w : World) (hn0 : n ≤ 30) (hn : n2 ≤ maxLen) (h : 30 < n2) :
    Calls Tryd.prog 6 #[.slice a n cap, .slice a2 n2 cap2, .int .i64 t] w fun e w' => e = .returned (.bool true) ∧ Below w.heap.size w w' := by
  unfold maxLen at hn
  go_enter Tryd.func6, Tryd.ntmps6
  go_wp2_with fail
  refine (drawn_any _).mono ?_
  rintro e w1 ⟨rfl, hb⟩
  have HB1 : Hid (Below w.heap.size w w1) := hb
  clear hb
  go_wp2_with fail
  go_ret
  exact ⟨rfl, HB1.out⟩
set_option maxHeartbeats 400000 in
theorem same_neg (a a2 : Option Addr) (n cap n2 cap2 : Nat) (t : Int) (w : World) (hn0 : n ≤ 30) (hn : n2 ≤ 30) (h : t < 0) :
    Calls Tryd.prog 6 #[.slice a n cap, .slice a2 n2 cap2, .int .i64 t] w fun e w' => e = .returned (.bool true) ∧ Below w.heap.size w w' := by
  go_enter Tryd.func6, Tryd.ntmps6
  go_wp2_with fail
  refine (drawn_any _).mono ?_
  rintro e w1 ⟨rfl, hb⟩
  have HB1 : Hid (Below w.heap.size w w1) := hb
  clear hb
  go_wp2_with fail
  go_ret
  exact ⟨rfl, HB1.out⟩
set_option maxHeartbeats 400000 in
theorem same_late (a a2 : Option Addr) (n cap n2 cap2 : Nat) (t : Int) (w : World) (hn0 : n ≤ 30) (hn : n2 ≤ 30) (h : ¬ t < 0) (h' : 1099511627776 < t) :
    Calls Tryd.prog 6 #[.slice a n cap, .slice a2 n2 cap2, .int .i64 t] w fun e w' => e = .returned (.bool true) ∧ Below w.heap.size w w' := by
  go_enter Tryd.func6, Tryd.ntmps6
  go_wp2_with fail
  refine (drawn_any _).mono ?_
  rintro e w1 ⟨rfl, hb⟩
  have HB1 : Hid (Below w.heap.size w w1) := hb
  clear hb
  go_wp2_with fail
  go_ret
  exact ⟨rfl, HB1.out⟩

set_option maxHeartbeats 400000 in
theorem same_bad (a a2 : Option Addr) (cap n2 cap2 : Nat) (la : List (Int × Int)) (t : Int) (w : World) (aB aS : Addr) (he : Errs2 w aB aS) (hl : Lies w a la) (ha : a = none → la = [] ∧ cap = 0) (hn0 : la.length ≤ 30) (hn : n2 ≤ 30) (h : ¬ t < 0) (h' : ¬ 1099511627776 < t) (hk : ¬ okCurve la) :
    Calls Tryd.prog 6 #[.slice a la.length cap, .slice a2 n2 cap2, .int .i64 t] w fun e w' => e = .returned (.bool true) ∧ Below w.heap.size w w' := by
  have HE : Hid (Errs2 w aB aS) := he
  have HL : Hid (Lies w a la) := hl
  have HA : Hid (a = none → la = [] ∧ cap = 0) := ha
  have HK : Hid (¬ okCurve la) := hk
  clear he hl ha hk
  go_enter Tryd.func6, Tryd.ntmps6
  go_wp2_with fail
  refine (drawn_any _).mono ?_
  rintro e w1 ⟨rfl, hb⟩
  have HB1 : Hid (Below w.heap.size w w1) := hb
  clear hb
  go_wp2_with fail
  refine (ownLines_from a cap la w _ HB1.out HL.out (Nat.le_trans hn0 (by decide)) HA.out).mono ?_
  rintro e w2 ⟨v2, rfl, ho2, _, hB2⟩
  have HB2 : Hid (Below w.heap.size w w2) := hB2
  obtain ⟨b2, k2, rfl, g2, m2, l2⟩ := ho2.open
  clear hB2 ho2
  have HC := (show Hid (Calls Tryd.prog 27 #[.slice b2 la.length k2] w2 fun e w' => ∃ ty p, e = .returned (.tuple #[.slice none 0 0, .iface ty p]) ∧ Below w2.heap.size w2 w') from by
    rcases check_any b2 k2 la w2 aB aS (HE.out.below HB2.out) l2 g2 m2 with ⟨h, -⟩ | ⟨-, hc⟩
    · exact absurd h HK.out
    · exact tidy_err (R := fun _ _ w' => Below w2.heap.size w2 w') b2 la.length k2 w2 hc)
  clear l2 g2 m2
  go_wp2_with fail
  refine HC.out.mono ?_
  rintro e w3 ⟨ty, p, rfl, hb3⟩
  have HB3 : Hid (Below w.heap.size w w3) := HB2.out.trans (hb3.mono HB2.out.size)
  clear hb3
  go_wp2_with fail
  go_ret
  exact ⟨rfl, HB3.out⟩
end Go.Proofs.YtcldgpbimaoliaaDoor
