/- CurveTidy: where the first curve is one. -/
import Derived.Test.YtcldgpbimaoliaaDoorTidyLaw1
namespace Go.Proofs.YtcldgpbimaoliaaDoor
open Go.RowKit

set_option maxRecDepth 100000 in
set_option maxHeartbeats 2000000 in
theorem tidyLaw_bad2 (a a2 : Option Addr) (cap cap2 : Nat) (la lb : List (Int × Int)) (w : World) (ad : Nat → Addr) (he : Errs9 w ad) (hl : Lies w a la) (ha : a = none → la = [] ∧ cap = 0) (hcap : la.length ≤ cap) (hm : cap ≤ maxLen) (hl2 : Lies w a2 lb) (ha2 : a2 = none → lb = [] ∧ cap2 = 0) (hcap2 : lb.length ≤ cap2) (hm2 : cap2 ≤ maxLen) (hn0 : la.length ≤ 30) (hn : lb.length ≤ 30) (hk : okCurve la) (c p : Int) (hf : FaultIs lb c p) (hc : c = 2 ∨ c = 3) :
    Calls Tryd.prog 5 #[.slice a la.length cap, .slice a2 lb.length cap2] w fun e w' => e = .returned (.bool true) ∧ Below w.heap.size w w' := by
  have HE : Hid (Errs9 w ad) := he
  have HL : Hid (Lies w a la ∧ (a = none → la = [] ∧ cap = 0) ∧ la.length ≤ 1000 ∧ la.length ≤ cap ∧ cap ≤ maxLen) := ⟨hl, ha, by omega, hcap, hm⟩
  have HM : Hid (Lies w a2 lb ∧ (a2 = none → lb = [] ∧ cap2 = 0) ∧ lb.length ≤ 1000 ∧ lb.length ≤ cap2 ∧ cap2 ≤ maxLen) := ⟨hl2, ha2, by omega, hcap2, hm2⟩
  have HK : Hid (okCurve la ∧ FaultIs la 0 (-1)) := ⟨hk, .inr (.inr ⟨hk, rfl, rfl⟩)⟩
  have HF : Hid (FaultIs lb c p) := hf
  have hc0 : ¬ c = 0 := by omega
  have hcp : 0 < c := by omega
  clear hf hc
  clear he hl ha hl2 ha2 hcap hm hcap2 hm2 hk
  go_enter Tryd.func5, Tryd.ntmps5
  go_wp2_with fail
  refine (drawn_any _).mono ?_
  rintro e w1 ⟨rfl, hb⟩
  have HB1 : Hid (Below w.heap.size w w1) := hb
  clear hb
  go_wp2_with fail
  refine (ownLines_from a cap la w _ HB1.out HL.out.1 HL.out.2.2.1 HL.out.2.1).mono ?_
  rintro e w2 ⟨v2, rfl, ho2, _, hB2⟩
  have HB2 : Hid (Below w.heap.size w w2) := hB2
  obtain ⟨b2, k2, rfl, g2, m2, l2⟩ := ho2.open
  clear hB2 ho2
  go_wp2_with fail
  refine (tidy_ok b2 k2 la _ l2 HK.out.1).mono ?_
  rintro e w3 ⟨v3, rfl, ⟨ls', hp, hs, ho3⟩, hb3⟩
  have HB3 : Hid (Below w.heap.size w w3) := HB2.out.trans (hb3.mono HB2.out.size)
  have hQl : (lowT [] ls').reverse.length ≤ 6 := by rw [List.length_reverse]; exact Nat.le_trans (low_len hp) HK.out.1.2.1
  have HT : Hid (TidyIs la (lowT [] ls').reverse) := ⟨ls', hp, hs, rfl⟩
  generalize (lowT [] ls').reverse = Q at *
  have HO3 : Hid (OwnL w3 w2.heap.size v3 Q) := ho3
  obtain ⟨a3, k3, rfl, g3, m3, l3⟩ := OwnL.open ho3
  have HQ3 : Hid (Lies w3 a3 Q) := l3
  clear hb3 ho3 hp hs l2 g2 m2 g3 m3 l3
  go_wp2_with fail
  refine (ownLines_from a cap la w _ HB3.out HL.out.1 HL.out.2.2.1 HL.out.2.1).mono ?_
  rintro e w4 ⟨v4, rfl, ho4, hb4, hB4⟩
  have HB4 : Hid (Below w.heap.size w w4) := hB4
  have HQ4 : Hid (Lies w4 a3 Q) := HQ3.out.below hb4
  obtain ⟨b4, k4, rfl, g4, m4, l4⟩ := ho4.open
  have HG4 : Hid (la.length ≤ k4 ∧ k4 ≤ maxLen ∧ Lies w4 b4 la) := ⟨g4, m4, l4⟩
  clear hB4 ho4 hb4 g4 m4 l4
  go_wp2_with fail
  refine (ownLines_from a2 cap2 lb w _ HB4.out HM.out.1 HM.out.2.2.1 HM.out.2.1).mono ?_
  rintro e w5 ⟨v5, rfl, ho5, hb5, hB5⟩
  have HB5 : Hid (Below w.heap.size w w5) := hB5
  have HQ5 : Hid (Lies w5 a3 Q) := HQ4.out.below hb5
  have HG5 : Hid (Lies w5 b4 la) := HG4.out.2.2.below hb5
  obtain ⟨b5, k5, rfl, g5, m5, l5⟩ := ho5.open
  have HG6 : Hid (lb.length ≤ k5 ∧ k5 ≤ maxLen ∧ Lies w5 b5 lb) := ⟨g5, m5, l5⟩
  clear hB5 ho5 hb5 g5 m5 l5
  go_wp2_with fail
  refine (sum_fault2 b4 k4 la b5 k5 lb _ ad (HE.out.below HB5.out) HG5.out HK.out.1 HG6.out.2.2 HG6.out.1 HG6.out.2.1 c p HF.out hc0).mono ?_
  rintro e w6 ⟨ty6, q6, rfl, hC6, hb6⟩
  have HB6 : Hid (Below w.heap.size w w6) := HB5.out.trans (hb6.mono HB5.out.size)
  have HC6 : Hid (CodeIs w6 (.iface ty6 q6) c p) := hC6
  have HQ6 : Hid (Lies w6 a3 Q) := HQ5.out.below hb6
  clear hC6 hb6
  go_wp2_with fail
  refine (curveFault_is a cap la _ (HL.out.1.below HB6.out) HL.out.2.2.2.1 HL.out.2.2.2.2 0 (-1) HK.out.2).mono ?_
  rintro e w7 ⟨rfl, hb7⟩
  have HB7 : Hid (Below w6.heap.size w6 w7) := hb7
  clear hb7
  have h48 := four_new w7 (.int .i64 0) (.int .i64 (-1)) 40
  have hb8 : Below w7.heap.size w7 ((w7.alloc (.cells #[.int .i64 0, .int .i64 (-1)] 40)).alloc (.cells #[.int .i64 0, .int .i64 (-1)] 40)) := ((Below.refl _ _).alloc (Nat.le_refl _) _).alloc (by simp) _
  have H48 : Hid (Four w7.heap.size ((w7.alloc (.cells #[.int .i64 0, .int .i64 (-1)] 40)).alloc (.cells #[.int .i64 0, .int .i64 (-1)] 40)) (.int .i64 0) (.int .i64 (-1)) (.int .i64 0) (.int .i64 (-1))) := h48
  have HB8 : Hid (Below w6.heap.size w6 ((w7.alloc (.cells #[.int .i64 0, .int .i64 (-1)] 40)).alloc (.cells #[.int .i64 0, .int .i64 (-1)] 40))) := HB7.out.trans (hb8.mono HB7.out.size)
  clear h48 hb8
  go_wp2_with fail
  generalize (w7.alloc (.cells #[.int .i64 0, .int .i64 (-1)] 40)).alloc (.cells #[.int .i64 0, .int .i64 (-1)] 40) = w8 at *
  refine (curveFault_is a2 cap2 lb _ (HM.out.1.below (HB6.out.trans (HB8.out.mono HB6.out.size))) HM.out.2.2.2.1 HM.out.2.2.2.2 c p HF.out).mono ?_
  rintro e w9 ⟨rfl, hb9⟩
  have HB9 : Hid (Below w6.heap.size w6 w9) := HB8.out.trans (hb9.mono HB8.out.size)
  obtain ⟨c0, c1, d0, d1, f0, f1⟩ := H48.out.later hb9
  have hz : w6.heap.size ≤ w7.heap.size + 1 := Nat.le_succ_of_le HB7.out.size
  clear hb9
  have HBA : Hid (Below w6.heap.size w6 ((w9.setCell ⟨w7.heap.size + 1, 0, none⟩ (.int .i64 c)).setCell ⟨w7.heap.size + 1, 1, none⟩ (.int .i64 p))) := (HB9.out.setCell hz _).setCell hz _
  go_wp2_with fail
  have x0 : ((w9.setCell ⟨w7.heap.size + 1, 0, none⟩ (.int .i64 c)).setCell ⟨w7.heap.size + 1, 1, none⟩ (.int .i64 p)).cell? ⟨w7.heap.size + 1, 0, none⟩ = some (.int .i64 c) := (two_set d0 d1).1
  have x1 : ((w9.setCell ⟨w7.heap.size + 1, 0, none⟩ (.int .i64 c)).setCell ⟨w7.heap.size + 1, 1, none⟩ (.int .i64 p)).cell? ⟨w7.heap.size + 1, 1, none⟩ = some (.int .i64 p) := (two_set d0 d1).2
  clear c0 c1 d0 d1 f0 f1
  generalize (w9.setCell ⟨w7.heap.size + 1, 0, none⟩ (.int .i64 c)).setCell ⟨w7.heap.size + 1, 1, none⟩ (.int .i64 p) = wA at *
  refine (tidyOf_ok a cap la _ (HL.out.1.below (HB6.out.trans (HBA.out.mono HB6.out.size))) (by omega) HK.out.1.2.2).mono ?_
  rintro e w10 ⟨v10, R, rfl, hkept, ho10, hb10⟩
  obtain rfl := kept_tidy hkept HT.out
  obtain ⟨a10, k10, rfl, -, -, l10⟩ := OwnL.open ho10
  have HB10 : Hid (Below w6.heap.size w6 w10) := HBA.out.trans (hb10.mono HBA.out.size)
  have y0 := cell_later hb10 x0
  have y1 := cell_later hb10 x1
  have HL10 : Hid (Lies w10 a10 R) := l10
  clear hkept ho10 hb10 l10 x0 x1
  go_wp2_with fail
  refine (sameLines_yes a3 a10 k3 k10 R _ (HQ6.out.below HB10.out) HL10.out (by omega)).mono ?_
  rintro e w11 ⟨rfl, hb11⟩
  have HB11 : Hid (Below w6.heap.size w6 w11) := HB10.out.trans (hb11.mono HB10.out.size)
  have z0 := cell_later hb11 y0
  have z1 := cell_later hb11 y1
  clear hb11 y0 y1
  go_wp2_with fail
  refine (faulted_yes _ c p _ (HC6.out.below HB11.out)).mono ?_
  rintro e w12 ⟨rfl, hb12⟩
  have HB12 : Hid (Below w6.heap.size w6 w12) := HB11.out.trans (hb12.mono HB11.out.size)
  clear hb12
  go_wp2_with fail
  go_ret
  exact ⟨rfl, HB6.out.trans (HB12.out.mono HB6.out.size)⟩

set_option maxRecDepth 100000 in
set_option maxHeartbeats 2000000 in
theorem tidyLaw_fine (a a2 : Option Addr) (cap cap2 : Nat) (la lb : List (Int × Int)) (w : World) (ad : Nat → Addr) (he : Errs9 w ad) (hl : Lies w a la) (ha : a = none → la = [] ∧ cap = 0) (hcap : la.length ≤ cap) (hm : cap ≤ maxLen) (hl2 : Lies w a2 lb) (ha2 : a2 = none → lb = [] ∧ cap2 = 0) (hcap2 : lb.length ≤ cap2) (hm2 : cap2 ≤ maxLen) (hn0 : la.length ≤ 30) (hn : lb.length ≤ 30) (hk : okCurve la) (hk2 : okCurve lb) :
    Calls Tryd.prog 5 #[.slice a la.length cap, .slice a2 lb.length cap2] w fun e w' => e = .returned (.bool true) ∧ Below w.heap.size w w' := by
  have HE : Hid (Errs9 w ad) := he
  have HL : Hid (Lies w a la ∧ (a = none → la = [] ∧ cap = 0) ∧ la.length ≤ 1000 ∧ la.length ≤ cap ∧ cap ≤ maxLen) := ⟨hl, ha, by omega, hcap, hm⟩
  have HM : Hid (Lies w a2 lb ∧ (a2 = none → lb = [] ∧ cap2 = 0) ∧ lb.length ≤ 1000 ∧ lb.length ≤ cap2 ∧ cap2 ≤ maxLen) := ⟨hl2, ha2, by omega, hcap2, hm2⟩
  have HK : Hid (okCurve la ∧ FaultIs la 0 (-1)) := ⟨hk, .inr (.inr ⟨hk, rfl, rfl⟩)⟩
  have HK2 : Hid (okCurve lb ∧ FaultIs lb 0 (-1)) := ⟨hk2, .inr (.inr ⟨hk2, rfl, rfl⟩)⟩
  clear hk2
  clear he hl ha hl2 ha2 hcap hm hcap2 hm2 hk
  go_enter Tryd.func5, Tryd.ntmps5
  go_wp2_with fail
  refine (drawn_any _).mono ?_
  rintro e w1 ⟨rfl, hb⟩
  have HB1 : Hid (Below w.heap.size w w1) := hb
  clear hb
  go_wp2_with fail
  refine (ownLines_from a cap la w _ HB1.out HL.out.1 HL.out.2.2.1 HL.out.2.1).mono ?_
  rintro e w2 ⟨v2, rfl, ho2, _, hB2⟩
  have HB2 : Hid (Below w.heap.size w w2) := hB2
  obtain ⟨b2, k2, rfl, g2, m2, l2⟩ := ho2.open
  clear hB2 ho2
  go_wp2_with fail
  refine (tidy_ok b2 k2 la _ l2 HK.out.1).mono ?_
  rintro e w3 ⟨v3, rfl, ⟨ls', hp, hs, ho3⟩, hb3⟩
  have HB3 : Hid (Below w.heap.size w w3) := HB2.out.trans (hb3.mono HB2.out.size)
  have hQl : (lowT [] ls').reverse.length ≤ 6 := by rw [List.length_reverse]; exact Nat.le_trans (low_len hp) HK.out.1.2.1
  have HT : Hid (TidyIs la (lowT [] ls').reverse) := ⟨ls', hp, hs, rfl⟩
  generalize (lowT [] ls').reverse = Q at *
  have HO3 : Hid (OwnL w3 w2.heap.size v3 Q) := ho3
  obtain ⟨a3, k3, rfl, g3, m3, l3⟩ := OwnL.open ho3
  have HQ3 : Hid (Lies w3 a3 Q) := l3
  clear hb3 ho3 hp hs l2 g2 m2 g3 m3 l3
  go_wp2_with fail
  refine (ownLines_from a cap la w _ HB3.out HL.out.1 HL.out.2.2.1 HL.out.2.1).mono ?_
  rintro e w4 ⟨v4, rfl, ho4, hb4, hB4⟩
  have HB4 : Hid (Below w.heap.size w w4) := hB4
  have HQ4 : Hid (Lies w4 a3 Q) := HQ3.out.below hb4
  obtain ⟨b4, k4, rfl, g4, m4, l4⟩ := ho4.open
  have HG4 : Hid (la.length ≤ k4 ∧ k4 ≤ maxLen ∧ Lies w4 b4 la) := ⟨g4, m4, l4⟩
  clear hB4 ho4 hb4 g4 m4 l4
  go_wp2_with fail
  refine (ownLines_from a2 cap2 lb w _ HB4.out HM.out.1 HM.out.2.2.1 HM.out.2.1).mono ?_
  rintro e w5 ⟨v5, rfl, ho5, hb5, hB5⟩
  have HB5 : Hid (Below w.heap.size w w5) := hB5
  have HQ5 : Hid (Lies w5 a3 Q) := HQ4.out.below hb5
  have HG5 : Hid (Lies w5 b4 la) := HG4.out.2.2.below hb5
  obtain ⟨b5, k5, rfl, g5, m5, l5⟩ := ho5.open
  have HG6 : Hid (lb.length ≤ k5 ∧ k5 ≤ maxLen ∧ Lies w5 b5 lb) := ⟨g5, m5, l5⟩
  clear hB5 ho5 hb5 g5 m5 l5
  go_wp2_with fail
  refine (sum_is b4 b5 k4 k5 la lb _ ad (HE.out.below HB5.out) HG5.out HG6.out.2.2 HK.out.1 HK2.out.1).mono ?_
  rintro e w6 ⟨v6, E6, code, L, rfl, hC6, ho6, hR, hb6⟩
  have HB6 : Hid (Below w.heap.size w w6) := HB5.out.trans (hb6.mono HB5.out.size)
  have HC6 : Hid (CodeIs w6 E6 code (-1)) := hC6
  have HQ6 : Hid (Lies w6 a3 Q) := HQ5.out.below hb6
  have HR6 : Hid (SumRel la lb code L) := hR
  have hLl := sumRel_len hR
  obtain ⟨a6, k6, rfl, -, -, l6⟩ := OwnL.open ho6
  have HL6 : Hid (Lies w6 a6 L) := l6
  clear hC6 hb6 ho6 hR l6
  go_wp2_with fail
  refine (curveFault_is a cap la _ (HL.out.1.below HB6.out) HL.out.2.2.2.1 HL.out.2.2.2.2 0 (-1) HK.out.2).mono ?_
  rintro e w7 ⟨rfl, hb7⟩
  have HB7 : Hid (Below w6.heap.size w6 w7) := hb7
  clear hb7
  have h48 := four_new w7 (.int .i64 0) (.int .i64 (-1)) 40
  have hb8 : Below w7.heap.size w7 ((w7.alloc (.cells #[.int .i64 0, .int .i64 (-1)] 40)).alloc (.cells #[.int .i64 0, .int .i64 (-1)] 40)) := ((Below.refl _ _).alloc (Nat.le_refl _) _).alloc (by simp) _
  have H48 : Hid (Four w7.heap.size ((w7.alloc (.cells #[.int .i64 0, .int .i64 (-1)] 40)).alloc (.cells #[.int .i64 0, .int .i64 (-1)] 40)) (.int .i64 0) (.int .i64 (-1)) (.int .i64 0) (.int .i64 (-1))) := h48
  have HB8 : Hid (Below w6.heap.size w6 ((w7.alloc (.cells #[.int .i64 0, .int .i64 (-1)] 40)).alloc (.cells #[.int .i64 0, .int .i64 (-1)] 40))) := HB7.out.trans (hb8.mono HB7.out.size)
  clear h48 hb8
  go_wp2_with fail
  generalize (w7.alloc (.cells #[.int .i64 0, .int .i64 (-1)] 40)).alloc (.cells #[.int .i64 0, .int .i64 (-1)] 40) = w8 at *
  refine (curveFault_is a2 cap2 lb _ (HM.out.1.below (HB6.out.trans (HB8.out.mono HB6.out.size))) HM.out.2.2.2.1 HM.out.2.2.2.2 0 (-1) HK2.out.2).mono ?_
  rintro e w9 ⟨rfl, hb9⟩
  have HB9 : Hid (Below w6.heap.size w6 w9) := HB8.out.trans (hb9.mono HB8.out.size)
  obtain ⟨c0, c1, d0, d1, f0, f1⟩ := H48.out.later hb9
  have hz : w6.heap.size ≤ w7.heap.size + 1 := Nat.le_succ_of_le HB7.out.size
  clear hb9
  have HBA : Hid (Below w6.heap.size w6 ((w9.setCell ⟨w7.heap.size + 1, 0, none⟩ (.int .i64 0)).setCell ⟨w7.heap.size + 1, 1, none⟩ (.int .i64 (-1)))) := (HB9.out.setCell hz _).setCell hz _
  go_wp2_with fail
  have x0 : ((w9.setCell ⟨w7.heap.size + 1, 0, none⟩ (.int .i64 0)).setCell ⟨w7.heap.size + 1, 1, none⟩ (.int .i64 (-1))).cell? ⟨w7.heap.size + 1, 0, none⟩ = some (.int .i64 0) := (two_set d0 d1).1
  have x1 : ((w9.setCell ⟨w7.heap.size + 1, 0, none⟩ (.int .i64 0)).setCell ⟨w7.heap.size + 1, 1, none⟩ (.int .i64 (-1))).cell? ⟨w7.heap.size + 1, 1, none⟩ = some (.int .i64 (-1)) := (two_set d0 d1).2
  clear c0 c1 d0 d1 f0 f1
  generalize (w9.setCell ⟨w7.heap.size + 1, 0, none⟩ (.int .i64 0)).setCell ⟨w7.heap.size + 1, 1, none⟩ (.int .i64 (-1)) = wA at *
  refine (tidyOf_ok a cap la _ (HL.out.1.below (HB6.out.trans (HBA.out.mono HB6.out.size))) (by omega) HK.out.1.2.2).mono ?_
  rintro e w10 ⟨v10, R, rfl, hkept, ho10, hb10⟩
  obtain rfl := kept_tidy hkept HT.out
  obtain ⟨a10, k10, rfl, -, -, l10⟩ := OwnL.open ho10
  have HB10 : Hid (Below w6.heap.size w6 w10) := HBA.out.trans (hb10.mono HBA.out.size)
  have y0 := cell_later hb10 x0
  have y1 := cell_later hb10 x1
  have HL10 : Hid (Lies w10 a10 R) := l10
  clear hkept ho10 hb10 l10 x0 x1
  go_wp2_with fail
  refine (sameLines_yes a3 a10 k3 k10 R _ (HQ6.out.below HB10.out) HL10.out (by omega)).mono ?_
  rintro e w11 ⟨rfl, hb11⟩
  have HB11 : Hid (Below w6.heap.size w6 w11) := HB10.out.trans (hb11.mono HB10.out.size)
  have z0 := cell_later hb11 y0
  have z1 := cell_later hb11 y1
  clear hb11 y0 y1
  go_wp2_with fail
  refine (sumOf_ok a a2 cap cap2 la lb _ (HL.out.1.below (HB6.out.trans (HB11.out.mono HB6.out.size))) (HM.out.1.below (HB6.out.trans (HB11.out.mono HB6.out.size))) HK.out.1.2.1 HK2.out.1.2.1 HK.out.1.2.2 HK2.out.1.2.2).mono ?_
  intro e w12 hsum
  obtain ⟨v12, rfl, ho12, hb12⟩ := sumOf_is hsum HR6.out
  obtain ⟨a12, k12, rfl, -, -, l12⟩ := OwnL.open ho12
  have HB12 : Hid (Below w6.heap.size w6 w12) := HB11.out.trans (hb12.mono HB11.out.size)
  have HL12 : Hid (Lies w12 a12 L) := l12
  clear hsum ho12 hb12 l12
  go_wp2_with fail
  refine (coded_yes E6 code _ (HC6.out.below HB12.out)).mono ?_
  rintro e w13 ⟨rfl, hb13⟩
  have HB13 : Hid (Below w6.heap.size w6 w13) := HB12.out.trans (hb13.mono HB12.out.size)
  have HL13 : Hid (Lies w13 a12 L) := HL12.out.below hb13
  clear hb13
  go_wp2_with fail
  refine (sameLines_yes a6 a12 k6 k12 L _ (HL6.out.below HB13.out) HL13.out (by omega)).mono ?_
  rintro e w14 ⟨rfl, hb14⟩
  have HB14 : Hid (Below w6.heap.size w6 w14) := HB13.out.trans (hb14.mono HB13.out.size)
  clear hb14
  go_wp2_with fail
  go_ret
  exact ⟨rfl, HB6.out.trans (HB14.out.mono HB6.out.size)⟩
end Go.Proofs.YtcldgpbimaoliaaDoor
