/- The walk of CurveAt. -/
import Derived.Test.YtlknljbceppedaaDoorCAt2
import Derived.Deep.DeepCutAuto
import Derived.Deep.RegionLaw
namespace Go.Proofs.YtlknljbceppedaaDoor
open Go.RowKit

set_option maxHeartbeats 400000 in
theorem curveAt_len (a : Option Addr) (n cap : Nat) (t : Int) (w : World) (hm : n ≤ maxLen) (hn : 30 < n) :
    Calls Tryd.prog 4 #[.slice a n cap, .int .i64 t] w fun e w' => e = .returned (.bool true) ∧ Below w.heap.size w w' := by
  unfold maxLen at hm
  go_enter Tryd.func4, Tryd.ntmps4
  go_wp2_with fail
  refine (drawn_any _).mono ?_
  rintro e w1 ⟨rfl, hb⟩
  have HB : Hid (Below w.heap.size w w1) := hb
  clear hb
  go_wp2_with fail
  go_ret
  exact ⟨rfl, HB.out⟩

set_option maxRecDepth 100000 in
set_option maxHeartbeats 1000000 in
theorem curveAt_bad (a : Option Addr) (cap : Nat) (ls : List (Int × Int)) (t : Int) (w : World) (ad : Nat → Addr) (he : Errs9 w ad) (hl : Lies w a ls) (hn : ls.length ≤ 30) (hcap : ls.length ≤ cap) (hm : cap ≤ maxLen) (ha : a = none → ls = [] ∧ cap = 0) (c p : Int) (hf : FaultIs ls c p) (hc : c = 2 ∨ c = 3) :
    Calls Tryd.prog 4 #[.slice a ls.length cap, .int .i64 t] w fun e w' => e = .returned (.bool true) ∧ Below w.heap.size w w' := by
  have HE : Hid (Errs9 w ad) := he
  have HL : Hid (Lies w a ls) := hl
  have HK : Hid (ls.length ≤ cap ∧ cap ≤ maxLen) := ⟨hcap, hm⟩
  have HA : Hid (a = none → ls = [] ∧ cap = 0) := ha
  have HF : Hid (FaultIs ls c p) := hf
  have hn30 : Hid (ls.length ≤ 1000) := by show _ ≤ _; omega
  have hpos : 0 < c := by omega
  have hne : (c == 0) = false := by simp; omega
  have hcne : Hid (c ≠ 0) := by show _ ≠ _; omega
  clear he hl hcap hm ha hf hc
  go_enter Tryd.func4, Tryd.ntmps4
  go_wp2_with fail
  refine (drawn_any _).mono ?_
  rintro e w1 ⟨rfl, hb⟩
  have HB1 : Hid (Below w.heap.size w w1) := hb
  clear hb
  go_wp2_with fail
  refine (ownLines_from a cap ls w _ HB1.out HL.out hn30.out HA.out).mono ?_
  rintro e w2 ⟨v2, rfl, ho2, hb2, hB2⟩
  have HB2 : Hid (Below w.heap.size w w2) := hB2
  obtain ⟨a2, cap2, rfl, g2, m2, l2⟩ := ho2.open
  clear hb2 hB2 ho2
  go_wp2_with fail
  refine (at_fault a2 cap2 ls t _ ad (HE.out.below HB2.out) l2 g2 m2 c p HF.out hcne.out).mono ?_
  rintro e w3 ⟨ty, v3, rfl, hE, hb3⟩
  have HB3 : Hid (Below w.heap.size w w3) := HB2.out.trans (hb3.mono HB2.out.size)
  have HX : Hid (ErrIs w3 (.iface ty v3) c p) := hE
  clear hb3 hE l2 g2 m2
  go_wp2_with fail
  refine (curveFault_is a cap ls _ (HL.out.below HB3.out) HK.out.1 HK.out.2 c p HF.out).mono ?_
  rintro e w4 ⟨rfl, hb4⟩
  have HX4 : Hid (ErrIs w4 (.iface ty v3) c p) := HX.out.below hb4
  have HB4 : Hid (Below w.heap.size w w4) := HB3.out.trans (hb4.mono HB3.out.size)
  clear hb4
  have h25 := two_new w4 (.int .i64 c) (.int .i64 p) 40
  have hb45 : Below w4.heap.size w4 (w4.alloc (.cells #[.int .i64 c, .int .i64 p] 40)) := (Below.refl _ _).alloc (Nat.le_refl _) _
  go_upto_region 6 with fail
  generalize w4.alloc (.cells #[.int .i64 c, .int .i64 p] 40) = w5 at *
  have HB5 : Hid (Below w.heap.size w w5) := HB4.out.trans (hb45.mono HB4.out.size)
  have HX5 : Hid (ErrIs w5 (.iface ty v3) c p) := HX4.out.below hb45
  have H25 : Hid (Two w4 w5 (.int .i64 c) (.int .i64 p)) := h25
  have e0 := h25.c0
  have e1 := h25.c1
  clear h25 hb45
  go_cut [32] (fun s32 wx => s32 = .bool false ∧ Below w5.heap.size w5 wx)
  case first =>
    go_region_with (first
      | (go_at_call 21; go_must (refine (ownLines_from a cap ls w _ ?_ HL.out hn30.out HA.out).mono ?_; exact HB5.out.drew; rintro e w6 ⟨v6, rfl, ho6, hb6, hB6⟩; obtain ⟨a6, cap6, rfl, g6, m6, l6⟩ := ho6.open; have HB6 : Hid (Below w5.heap.size w5 w6) := below_undrew hb6; have e60 := cell_later HB6.out e0; have e61 := cell_later HB6.out e1; have HG6 : Hid (ls.length ≤ cap6 ∧ cap6 ≤ maxLen ∧ Lies w6 a6 ls) := ⟨g6, m6, l6⟩; clear g6 m6 l6 ho6 hb6 hB6))
      | (go_at_call 24; go_must (refine (check_is a6 cap6 ls _ ad (HE.out.below (HB5.out.trans (HB6.out.mono HB5.out.size))) HG6.out.2.2 HG6.out.1 HG6.out.2.1 c p HF.out).mono ?_; rintro e w7 ⟨E7, rfl, hE7, hb7⟩; have HB7 : Hid (Below w5.heap.size w5 w7) := HB6.out.trans (hb7.mono HB6.out.size); have e70 := cell_later HB7.out e0; have e71 := cell_later HB7.out e1; have HX7 : Hid (ErrIs w7 E7 c p) := hE7; clear hE7 hb7))
      | (go_at_call 23; go_must (refine (faulted_yes E7 c p _ HX7.out.code).mono ?_; rintro e w8 ⟨rfl, hb8⟩; have HB8 : Hid (Below w5.heap.size w5 w8) := HB7.out.trans (hb8.mono HB7.out.size); clear hb8))
      | fail)
    all_goals (go_wp2_with fail; go_meet; exact ⟨rfl, HB8.out⟩)
  case rest =>
  obtain ⟨rfl, hbc⟩ := hcut
  have HBC : Hid (Below w5.heap.size w5 wc) := hbc
  have HXC : Hid (ErrIs wc (.iface ty v3) c p) := HX5.out.below hbc
  obtain ⟨c0, c1, f0, f1⟩ := H25.out.later hbc
  have HW : Hid (Below w.heap.size w wc) := HB5.out.trans (hbc.mono HB5.out.size)
  clear hbc e0 e1
  go_wp2_with fail
  refine (faulted_yes _ c p _ HXC.out.code).mono ?_
  rintro e w9 ⟨rfl, hb9⟩
  have HB9 : Hid (Below w.heap.size w w9) := HW.out.trans (hb9.mono HW.out.size)
  clear hb9
  go_wp2_with fail
  go_ret
  exact ⟨rfl, HB9.out⟩
end Go.Proofs.YtlknljbceppedaaDoor
