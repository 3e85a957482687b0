/- CurveTidy: the ways that end early, and where the first curve is none. -/
import Derived.Test.YtcldgpbimaoliaaDoorTidyRel
namespace Go.Proofs.YtcldgpbimaoliaaDoor
open Go.RowKit

set_option maxHeartbeats 400000 in
theorem tidyLaw_len1 (a a2 : Option Addr) (n cap n2 cap2 : Nat) (w : World) (hn : n ≤ maxLen) (h : 30 < n) :
    Calls Tryd.prog 5 #[.slice a n cap, .slice a2 n2 cap2] w fun e w' => e = .returned (.bool true) ∧ Below w.heap.size w w' := by
  unfold maxLen at hn
  go_enter Tryd.func5, Tryd.ntmps5
  go_wp2_with fail
  refine (drawn_any _).mono ?_
  rintro e w1 ⟨rfl, hb⟩
  have HB1 : Hid (Below w.heap.size w w1) := hb
  clear hb
  go_wp2_with fail
  go_ret
  exact ⟨rfl, HB1.out⟩
set_option maxHeartbeats 400000 in
theorem tidyLaw_len2 (a a2 : Option Addr) (n cap n2 cap2 : Nat) (w : World) (hn0 : n ≤ 30) (hn : n2 ≤ maxLen) (h : 30 < n2) :
    Calls Tryd.prog 5 #[.slice a n cap, .slice a2 n2 cap2] w fun e w' => e = .returned (.bool true) ∧ Below w.heap.size w w' := by
  unfold maxLen at hn
  go_enter Tryd.func5, Tryd.ntmps5
  go_wp2_with fail
  refine (drawn_any _).mono ?_
  rintro e w1 ⟨rfl, hb⟩
  have HB1 : Hid (Below w.heap.size w w1) := hb
  clear hb
  go_wp2_with fail
  go_ret
  exact ⟨rfl, HB1.out⟩

set_option maxRecDepth 100000 in
set_option maxHeartbeats 1000000 in
theorem tidyLaw_bad (a a2 : Option Addr) (cap cap2 : Nat) (la lb : List (Int × Int)) (w : World) (ad : Nat → Addr) (he : Errs9 w ad) (hl : Lies w a la) (ha : a = none → la = [] ∧ cap = 0) (hcap : la.length ≤ cap) (hm : cap ≤ maxLen) (hl2 : Lies w a2 lb) (ha2 : a2 = none → lb = [] ∧ cap2 = 0) (hn0 : la.length ≤ 30) (hn : lb.length ≤ 30) (c p : Int) (hf : FaultIs la c p) (hc : c = 2 ∨ c = 3) :
    Calls Tryd.prog 5 #[.slice a la.length cap, .slice a2 lb.length cap2] w fun e w' => e = .returned (.bool true) ∧ Below w.heap.size w w' := by
  have HE : Hid (Errs9 w ad) := he
  have HL : Hid (Lies w a la ∧ (a = none → la = [] ∧ cap = 0) ∧ la.length ≤ 1000 ∧ la.length ≤ cap ∧ cap ≤ maxLen) := ⟨hl, ha, by omega, hcap, hm⟩
  have HM : Hid (Lies w a2 lb ∧ (a2 = none → lb = [] ∧ cap2 = 0) ∧ lb.length ≤ 1000) := ⟨hl2, ha2, by omega⟩
  have HF : Hid (FaultIs la c p) := hf
  have hc0 : ¬ c = 0 := by omega
  have hcp : 0 < c := by omega
  clear he hl ha hl2 ha2 hf hcap hm hc
  go_enter Tryd.func5, Tryd.ntmps5
  go_wp2_with fail
  refine (drawn_any _).mono ?_
  rintro e w1 ⟨rfl, hb⟩
  have HB1 : Hid (Below w.heap.size w w1) := hb
  clear hb
  go_wp2_with fail
  refine (ownLines_from a cap la w _ HB1.out HL.out.1 HL.out.2.2.1 HL.out.2.1).mono ?_
  rintro e w2 ⟨v2, rfl, ho2, _, hB2⟩
  have HB2 : Hid (Below w.heap.size w w2) := hB2
  obtain ⟨b2, k2, rfl, g2, m2, l2⟩ := ho2.open
  clear hB2 ho2
  go_wp2_with fail
  refine (tidy_fault b2 k2 la _ ad (HE.out.below HB2.out) l2 g2 m2 c p HF.out hc0).mono ?_
  rintro e w3 ⟨ty3, q3, rfl, hC3, hb3⟩
  have HB3 : Hid (Below w.heap.size w w3) := HB2.out.trans (hb3.mono HB2.out.size)
  have HC3 : Hid (CodeIs w3 (.iface ty3 q3) c p) := hC3
  clear hC3 hb3 l2 g2 m2
  go_wp2_with fail
  refine (ownLines_from a cap la w _ HB3.out HL.out.1 HL.out.2.2.1 HL.out.2.1).mono ?_
  rintro e w4 ⟨v4, rfl, ho4, hb4, hB4⟩
  have HB4 : Hid (Below w.heap.size w w4) := hB4
  have HC4 : Hid (CodeIs w4 (.iface ty3 q3) c p) := HC3.out.below hb4
  obtain ⟨b4, k4, rfl, g4, m4, l4⟩ := ho4.open
  have HG4 : Hid (la.length ≤ k4 ∧ k4 ≤ maxLen ∧ Lies w4 b4 la) := ⟨g4, m4, l4⟩
  clear hB4 ho4 hb4 g4 m4 l4
  go_wp2_with fail
  refine (ownLines_from a2 cap2 lb w _ HB4.out HM.out.1 HM.out.2.2 HM.out.2.1).mono ?_
  rintro e w5 ⟨v5, rfl, ho5, hb5, hB5⟩
  have HB5 : Hid (Below w.heap.size w w5) := hB5
  have HC5 : Hid (CodeIs w5 (.iface ty3 q3) c p) := HC4.out.below hb5
  have HG5 : Hid (Lies w5 b4 la) := HG4.out.2.2.below hb5
  obtain ⟨b5, k5, rfl, g5, m5, l5⟩ := ho5.open
  clear hB5 ho5 hb5 g5 m5 l5
  go_wp2_with fail
  refine (sum_fault1 b4 k4 la _ _ ad (HE.out.below HB5.out) HG5.out HG4.out.1 HG4.out.2.1 c p HF.out hc0).mono ?_
  rintro e w6 ⟨ty6, q6, rfl, hC6, hb6⟩
  have HB6 : Hid (Below w.heap.size w w6) := HB5.out.trans (hb6.mono HB5.out.size)
  have HC6 : Hid (CodeIs w6 (.iface ty6 q6) c p ∧ CodeIs w6 (.iface ty3 q3) c p) := ⟨hC6, HC5.out.below hb6⟩
  clear hC6 hb6
  go_wp2_with fail
  refine (curveFault_is a cap la _ (HL.out.1.below HB6.out) HL.out.2.2.2.1 HL.out.2.2.2.2 c p HF.out).mono ?_
  rintro e w7 ⟨rfl, hb7⟩
  have HB7 : Hid (Below w6.heap.size w6 w7) := hb7
  clear hb7
  have h48 := four_new w7 (.int .i64 c) (.int .i64 p) 40
  have hb8 : Below w7.heap.size w7 ((w7.alloc (.cells #[.int .i64 c, .int .i64 p] 40)).alloc (.cells #[.int .i64 c, .int .i64 p] 40)) := ((Below.refl _ _).alloc (Nat.le_refl _) _).alloc (by simp) _
  have H48 : Hid (Four w7.heap.size ((w7.alloc (.cells #[.int .i64 c, .int .i64 p] 40)).alloc (.cells #[.int .i64 c, .int .i64 p] 40)) (.int .i64 c) (.int .i64 p) (.int .i64 c) (.int .i64 p)) := h48
  have HB8 : Hid (Below w6.heap.size w6 ((w7.alloc (.cells #[.int .i64 c, .int .i64 p] 40)).alloc (.cells #[.int .i64 c, .int .i64 p] 40))) := HB7.out.trans (hb8.mono HB7.out.size)
  clear h48 hb8
  go_wp2_with fail
  generalize (w7.alloc (.cells #[.int .i64 c, .int .i64 p] 40)).alloc (.cells #[.int .i64 c, .int .i64 p] 40) = w8 at *
  refine (faulted_yes _ c p _ (HC6.out.2.below HB8.out)).mono ?_
  rintro e w9 ⟨rfl, hb9⟩
  have HB9 : Hid (Below w6.heap.size w6 w9) := HB8.out.trans (hb9.mono HB8.out.size)
  obtain ⟨c0, c1, d0, d1, f0, f1⟩ := H48.out.later hb9
  clear hb9
  go_wp2_with fail
  refine (faulted_yes _ c p _ (HC6.out.1.below HB9.out)).mono ?_
  rintro e w10 ⟨rfl, hb10⟩
  have HB10 : Hid (Below w6.heap.size w6 w10) := HB9.out.trans (hb10.mono HB9.out.size)
  clear hb10
  go_wp2_with fail
  go_ret
  exact ⟨rfl, HB6.out.trans (HB10.out.mono HB6.out.size)⟩
end Go.Proofs.YtcldgpbimaoliaaDoor
