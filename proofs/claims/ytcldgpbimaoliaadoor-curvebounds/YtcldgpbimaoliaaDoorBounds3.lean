/- CurveBounds: the ways with a fault. -/
import Derived.Test.YtcldgpbimaoliaaDoorBounds1
namespace Go.Proofs.YtcldgpbimaoliaaDoor
open Go.RowKit

set_option maxRecDepth 100000 in
set_option maxHeartbeats 2000000 in
theorem bounds_bad (a : Option Addr) (cap : Nat) (ls : List (Int × Int)) (per : Int) (w : World) (ad : Nat → Addr) (he : Errs9 w ad) (hl : Lies w a ls) (hn : ls.length ≤ 30) (hcap : ls.length ≤ cap) (hm : cap ≤ maxLen) (ha : a = none → ls = [] ∧ cap = 0) (hsm : ∀ p, p ∈ ls → p.1 ≤ 60) (c p : Int) (hf : FaultIs ls c p) (hc : c = 2 ∨ c = 3) :
    Calls Tryd.prog 8 #[.slice a ls.length cap, .int .i64 per] w fun e w' => e = .returned (.bool true) ∧ Below w.heap.size w w' := by
  have HE : Hid (Errs9 w ad) := he
  have HL : Hid (Lies w a ls) := hl
  have Hc : Hid (ls.length ≤ cap ∧ cap ≤ maxLen) := ⟨hcap, hm⟩
  have HA : Hid (a = none → ls = [] ∧ cap = 0) := ha
  have HS : Hid (∀ p, p ∈ ls → p.1 ≤ 60) := hsm
  have hn30 : Hid (ls.length ≤ 1000) := by show _ ≤ _; omega
  have HF : Hid (FaultIs ls c p) := hf
  have HK : Hid (LinkFault ls per c p) := .inl ⟨hf, by omega⟩
  have hpos : 0 < c := by omega
  have hne : (c == 0) = false := by simp; omega
  clear hf hc
  clear he hl ha hcap hm hsm
  go_enter Tryd.func8, Tryd.ntmps8
  go_wp2_with fail
  refine (drawn_any _).mono ?_
  rintro e w1 ⟨rfl, hb⟩
  have HB1 : Hid (Below w.heap.size w w1) := hb
  clear hb
  go_wp2_with fail
  go_loop [6] (fun i => ∃ k : Nat, k ≤ ls.length ∧ i = .int .i64 k) (fun i => ls.length - (intOf i).toNat)
  case atStart => exact ⟨0, Nat.zero_le _, rfl⟩
  case round =>
  obtain ⟨k, hk, rfl⟩ := hrel
  by_cases hkn : k < ls.length
  · obtain ⟨b, off, rfl, hlt, hc⟩ := HL.out.some (by omega)
    obtain ⟨⟨x, y⟩, hp, hmem⟩ := get_some ls k hkn
    have q := cell_later HB1.out (hc k x y hp).1
    have hx : x ≤ 60 := HS.out _ hmem
    clear hc hp hmem
    go_wp2_with fail
    go_round
    case rel => exact ⟨k + 1, by omega, by go_num⟩
    case measure => simp [intOf]; omega
  go_wp2_with fail
  refine (ownLines_from a cap ls w _ HB1.out HL.out hn30.out HA.out).mono ?_
  rintro e w2 ⟨v2, rfl, ho2, _, hB2⟩
  have HB2 : Hid (Below w.heap.size w w2) := hB2
  obtain ⟨b2, k2, rfl, g2, m2, l2⟩ := ho2.open
  clear hB2 ho2
  go_wp2_with fail
  refine (delay_bad b2 k2 ls per _ ad (HE.out.below HB2.out) l2 g2 m2 c p HK.out).mono ?_
  rintro e w3 ⟨t3, v3, rfl, hE3, hb3⟩
  have HB3 : Hid (Below w.heap.size w w3) := HB2.out.trans (hb3.mono HB2.out.size)
  have HX3 : Hid (ErrIs w3 (.iface t3 v3) c p) := hE3
  clear hE3
  clear hb3 l2 g2 m2
  go_wp2_with fail
  refine (ownLines_from a cap ls w _ HB3.out HL.out hn30.out HA.out).mono ?_
  rintro e w4 ⟨v4, rfl, ho4, hb34, hB4⟩
  have HB34 : Hid (Below w3.heap.size w3 w4) := hb34
  clear hb34
  have HB4 : Hid (Below w.heap.size w w4) := hB4
  obtain ⟨b4, k4, rfl, g4, m4, l4⟩ := ho4.open
  clear hB4 ho4
  go_wp2_with fail
  refine (busy_bad b4 k4 ls per _ ad (HE.out.below HB4.out) l4 g4 m4 c p HK.out).mono ?_
  rintro e w5 ⟨t5, v5, rfl, hE5, hb5⟩
  have HB35 : Hid (Below w3.heap.size w3 w5) := HB34.out.trans (hb5.mono HB34.out.size)
  have HB5 : Hid (Below w.heap.size w w5) := HB4.out.trans (hb5.mono HB4.out.size)
  have HX5 : Hid (ErrIs w5 (.iface t5 v5) c p) := hE5
  clear hE5
  clear hb5 l4 g4 m4
  go_wp2_with fail
  refine (curveFault_is a cap ls _ (HL.out.below HB5.out) Hc.out.1 Hc.out.2 c p HF.out).mono ?_
  rintro e w6 ⟨rfl, hb6⟩
  have HB6 : Hid (Below w.heap.size w w6) := HB5.out.trans (hb6.mono HB5.out.size)
  have HB36 : Hid (Below w3.heap.size w3 w6) := HB35.out.trans (hb6.mono HB35.out.size)
  have HB56 : Hid (Below w5.heap.size w5 w6) := hb6
  have h27 := two_new w6 (.int .i64 c) (.int .i64 p) 40
  have HB7 : Hid (Below w.heap.size w (w6.alloc (.cells #[.int .i64 c, .int .i64 p] 40))) := HB6.out.alloc HB6.out.size _
  have H27 : Hid (Two w6 (w6.alloc (.cells #[.int .i64 c, .int .i64 p] 40)) (.int .i64 c) (.int .i64 p)) := h27
  clear hb6 h27
  have HX7 : Hid (ErrIs (w6.alloc (.cells #[.int .i64 c, .int .i64 p] 40)) (.iface t3 v3) c p) := HX3.out.below (HB36.out.alloc HB36.out.size _)
  have HY7 : Hid (ErrIs (w6.alloc (.cells #[.int .i64 c, .int .i64 p] 40)) (.iface t5 v5) c p) := HX5.out.below (HB56.out.alloc HB56.out.size _)
  go_wp2_with fail
  generalize w6.alloc (.cells #[.int .i64 c, .int .i64 p] 40) = w7 at *
  refine (faulted_yes _ c p _ HX7.out.code).mono ?_
  rintro e w8 ⟨rfl, hb8⟩
  obtain ⟨c0, c1, f0, f1⟩ := H27.out.later hb8
  have HB8 : Hid (Below w.heap.size w w8) := HB7.out.trans (hb8.mono HB7.out.size)
  have HY8 : Hid (ErrIs w8 (.iface t5 v5) c p) := HY7.out.below hb8
  clear hb8 f0 f1
  go_wp2_with fail
  refine (faulted_yes _ c p _ HY8.out.code).mono ?_
  rintro e w9 ⟨rfl, hb9⟩
  have HB9 : Hid (Below w.heap.size w w9) := HB8.out.trans (hb9.mono HB8.out.size)
  clear hb9
  go_wp2_with fail
  go_ret
  exact ⟨rfl, HB9.out⟩

set_option maxRecDepth 100000 in
set_option maxHeartbeats 2000000 in
theorem bounds_neg (a : Option Addr) (cap : Nat) (ls : List (Int × Int)) (per : Int) (w : World) (ad : Nat → Addr) (he : Errs9 w ad) (hl : Lies w a ls) (hn : ls.length ≤ 30) (hcap : ls.length ≤ cap) (hm : cap ≤ maxLen) (ha : a = none → ls = [] ∧ cap = 0) (hsm : ∀ p, p ∈ ls → p.1 ≤ 60) (hk : okCurve ls) (hp : per < 1) :
    Calls Tryd.prog 8 #[.slice a ls.length cap, .int .i64 per] w fun e w' => e = .returned (.bool true) ∧ Below w.heap.size w w' := by
  have HE : Hid (Errs9 w ad) := he
  have HL : Hid (Lies w a ls) := hl
  have Hc : Hid (ls.length ≤ cap ∧ cap ≤ maxLen) := ⟨hcap, hm⟩
  have HA : Hid (a = none → ls = [] ∧ cap = 0) := ha
  have HS : Hid (∀ p, p ∈ ls → p.1 ≤ 60) := hsm
  have hn30 : Hid (ls.length ≤ 1000) := by show _ ≤ _; omega
  have HF : Hid (FaultIs ls 0 (-1)) := .inr (.inr ⟨hk, rfl, rfl⟩)
  have HK : Hid (LinkFault ls per 2 (-1)) := .inr ⟨hk, .inl hp, rfl, rfl⟩
  clear hk
  clear he hl ha hcap hm hsm
  go_enter Tryd.func8, Tryd.ntmps8
  go_wp2_with fail
  refine (drawn_any _).mono ?_
  rintro e w1 ⟨rfl, hb⟩
  have HB1 : Hid (Below w.heap.size w w1) := hb
  clear hb
  go_wp2_with fail
  go_loop [6] (fun i => ∃ k : Nat, k ≤ ls.length ∧ i = .int .i64 k) (fun i => ls.length - (intOf i).toNat)
  case atStart => exact ⟨0, Nat.zero_le _, rfl⟩
  case round =>
  obtain ⟨k, hk, rfl⟩ := hrel
  by_cases hkn : k < ls.length
  · obtain ⟨b, off, rfl, hlt, hc⟩ := HL.out.some (by omega)
    obtain ⟨⟨x, y⟩, hp, hmem⟩ := get_some ls k hkn
    have q := cell_later HB1.out (hc k x y hp).1
    have hx : x ≤ 60 := HS.out _ hmem
    clear hc hp hmem
    go_wp2_with fail
    go_round
    case rel => exact ⟨k + 1, by omega, by go_num⟩
    case measure => simp [intOf]; omega
  go_wp2_with fail
  refine (ownLines_from a cap ls w _ HB1.out HL.out hn30.out HA.out).mono ?_
  rintro e w2 ⟨v2, rfl, ho2, _, hB2⟩
  have HB2 : Hid (Below w.heap.size w w2) := hB2
  obtain ⟨b2, k2, rfl, g2, m2, l2⟩ := ho2.open
  clear hB2 ho2
  go_wp2_with fail
  refine (delay_bad b2 k2 ls per _ ad (HE.out.below HB2.out) l2 g2 m2 2 (-1) HK.out).mono ?_
  rintro e w3 ⟨t3, v3, rfl, hE3, hb3⟩
  have HB3 : Hid (Below w.heap.size w w3) := HB2.out.trans (hb3.mono HB2.out.size)
  have HX3 : Hid (ErrIs w3 (.iface t3 v3) 2 (-1)) := hE3
  clear hE3
  clear hb3 l2 g2 m2
  go_wp2_with fail
  refine (ownLines_from a cap ls w _ HB3.out HL.out hn30.out HA.out).mono ?_
  rintro e w4 ⟨v4, rfl, ho4, hb34, hB4⟩
  have HB34 : Hid (Below w3.heap.size w3 w4) := hb34
  clear hb34
  have HB4 : Hid (Below w.heap.size w w4) := hB4
  obtain ⟨b4, k4, rfl, g4, m4, l4⟩ := ho4.open
  clear hB4 ho4
  go_wp2_with fail
  refine (busy_bad b4 k4 ls per _ ad (HE.out.below HB4.out) l4 g4 m4 2 (-1) HK.out).mono ?_
  rintro e w5 ⟨t5, v5, rfl, hE5, hb5⟩
  have HB35 : Hid (Below w3.heap.size w3 w5) := HB34.out.trans (hb5.mono HB34.out.size)
  have HB5 : Hid (Below w.heap.size w w5) := HB4.out.trans (hb5.mono HB4.out.size)
  have HX5 : Hid (ErrIs w5 (.iface t5 v5) 2 (-1)) := hE5
  clear hE5
  clear hb5 l4 g4 m4
  go_wp2_with fail
  refine (curveFault_is a cap ls _ (HL.out.below HB5.out) Hc.out.1 Hc.out.2 0 (-1) HF.out).mono ?_
  rintro e w6 ⟨rfl, hb6⟩
  have HB6 : Hid (Below w.heap.size w w6) := HB5.out.trans (hb6.mono HB5.out.size)
  have HB36 : Hid (Below w3.heap.size w3 w6) := HB35.out.trans (hb6.mono HB35.out.size)
  have HB56 : Hid (Below w5.heap.size w5 w6) := hb6
  have h27 := two_new w6 (.int .i64 0) (.int .i64 (-1)) 40
  have HB7 : Hid (Below w.heap.size w (w6.alloc (.cells #[.int .i64 0, .int .i64 (-1)] 40))) := HB6.out.alloc HB6.out.size _
  have H27 : Hid (Two w6 (w6.alloc (.cells #[.int .i64 0, .int .i64 (-1)] 40)) (.int .i64 0) (.int .i64 (-1))) := h27
  clear hb6 h27
  have HB37 : Hid (Below w3.heap.size w3 (w6.alloc (.cells #[.int .i64 0, .int .i64 (-1)] 40))) := HB36.out.alloc HB36.out.size _
  have HB57 : Hid (Below w5.heap.size w5 (w6.alloc (.cells #[.int .i64 0, .int .i64 (-1)] 40))) := HB56.out.alloc HB56.out.size _
  go_wp2_with fail
  generalize w6.alloc (.cells #[.int .i64 0, .int .i64 (-1)] 40) = w7 at *
  refine (bare_any 2 _).mono ?_
  rintro e w8 ⟨rfl, hb8⟩
  obtain ⟨c0, c1, f0, f1⟩ := H27.out.later hb8
  have H28 : Hid (TwoB w6.heap.size w8 (.int .i64 0) (.int .i64 (-1))) := ⟨c0, c1, f0, f1⟩
  have HB8 : Hid (Below w.heap.size w w8) := HB7.out.trans (hb8.mono HB7.out.size)
  have HB38 : Hid (Below w3.heap.size w3 w8) := HB37.out.trans (hb8.mono HB37.out.size)
  have HB58 : Hid (Below w5.heap.size w5 w8) := HB57.out.trans (hb8.mono HB57.out.size)
  have hz : w.heap.size ≤ w6.heap.size := HB6.out.size
  have hz3 : w3.heap.size ≤ w6.heap.size := HB36.out.size
  have hz5 : w5.heap.size ≤ w6.heap.size := HB56.out.size
  have HBA : Hid (Below w.heap.size w ((w8.setCell ⟨w6.heap.size, 0, none⟩ (.int .i64 2)).setCell ⟨w6.heap.size, 1, none⟩ (.int .i64 (-1)))) := (HB8.out.setCell hz _).setCell hz _
  have HXA : Hid (CodeIs ((w8.setCell ⟨w6.heap.size, 0, none⟩ (.int .i64 2)).setCell ⟨w6.heap.size, 1, none⟩ (.int .i64 (-1))) (.iface t3 v3) 2 (-1)) := HX3.out.code.below ((HB38.out.setCell hz3 _).setCell hz3 _)
  have HYA : Hid (CodeIs ((w8.setCell ⟨w6.heap.size, 0, none⟩ (.int .i64 2)).setCell ⟨w6.heap.size, 1, none⟩ (.int .i64 (-1))) (.iface t5 v5) 2 (-1)) := HX5.out.code.below ((HB58.out.setCell hz5 _).setCell hz5 _)
  have H2A : Hid (TwoB w6.heap.size ((w8.setCell ⟨w6.heap.size, 0, none⟩ (.int .i64 2)).setCell ⟨w6.heap.size, 1, none⟩ (.int .i64 (-1))) (.int .i64 2) (.int .i64 (-1))) := H28.out.set _ _
  clear hb8
  go_wp2_with fail
  refine (faulted_yes _ 2 (-1) _ HXA.out).mono ?_
  rintro e wB ⟨rfl, hbB⟩
  obtain ⟨d0, d1, _, _⟩ := H2A.out.later hbB
  have HBB : Hid (Below w.heap.size w wB) := HBA.out.trans (hbB.mono HBA.out.size)
  have HYB : Hid (CodeIs wB (.iface t5 v5) 2 (-1)) := HYA.out.below hbB
  clear hbB c0 c1 f0 f1
  go_wp2_with fail
  refine (faulted_yes _ 2 (-1) _ HYB.out).mono ?_
  rintro e wC ⟨rfl, hbC⟩
  have HBC : Hid (Below w.heap.size w wC) := HBB.out.trans (hbC.mono HBB.out.size)
  clear hbC
  go_wp2_with fail
  go_ret
  exact ⟨rfl, HBC.out⟩

set_option maxRecDepth 100000 in
set_option maxHeartbeats 2000000 in
theorem bounds_late (a : Option Addr) (cap : Nat) (ls : List (Int × Int)) (per : Int) (w : World) (ad : Nat → Addr) (he : Errs9 w ad) (hl : Lies w a ls) (hn : ls.length ≤ 30) (hcap : ls.length ≤ cap) (hm : cap ≤ maxLen) (ha : a = none → ls = [] ∧ cap = 0) (hsm : ∀ p, p ∈ ls → p.1 ≤ 60) (hk : okCurve ls) (hp1 : 1 ≤ per) (hp : 1000 < per) :
    Calls Tryd.prog 8 #[.slice a ls.length cap, .int .i64 per] w fun e w' => e = .returned (.bool true) ∧ Below w.heap.size w w' := by
  have HE : Hid (Errs9 w ad) := he
  have HL : Hid (Lies w a ls) := hl
  have Hc : Hid (ls.length ≤ cap ∧ cap ≤ maxLen) := ⟨hcap, hm⟩
  have HA : Hid (a = none → ls = [] ∧ cap = 0) := ha
  have HS : Hid (∀ p, p ∈ ls → p.1 ≤ 60) := hsm
  have hn30 : Hid (ls.length ≤ 1000) := by show _ ≤ _; omega
  have HF : Hid (FaultIs ls 0 (-1)) := .inr (.inr ⟨hk, rfl, rfl⟩)
  have HK : Hid (LinkFault ls per 2 (-1)) := .inr ⟨hk, .inr hp, rfl, rfl⟩
  clear hk
  clear he hl ha hcap hm hsm
  go_enter Tryd.func8, Tryd.ntmps8
  go_wp2_with fail
  refine (drawn_any _).mono ?_
  rintro e w1 ⟨rfl, hb⟩
  have HB1 : Hid (Below w.heap.size w w1) := hb
  clear hb
  go_wp2_with fail
  go_loop [6] (fun i => ∃ k : Nat, k ≤ ls.length ∧ i = .int .i64 k) (fun i => ls.length - (intOf i).toNat)
  case atStart => exact ⟨0, Nat.zero_le _, rfl⟩
  case round =>
  obtain ⟨k, hk, rfl⟩ := hrel
  by_cases hkn : k < ls.length
  · obtain ⟨b, off, rfl, hlt, hc⟩ := HL.out.some (by omega)
    obtain ⟨⟨x, y⟩, hp, hmem⟩ := get_some ls k hkn
    have q := cell_later HB1.out (hc k x y hp).1
    have hx : x ≤ 60 := HS.out _ hmem
    clear hc hp hmem
    go_wp2_with fail
    go_round
    case rel => exact ⟨k + 1, by omega, by go_num⟩
    case measure => simp [intOf]; omega
  go_wp2_with fail
  refine (ownLines_from a cap ls w _ HB1.out HL.out hn30.out HA.out).mono ?_
  rintro e w2 ⟨v2, rfl, ho2, _, hB2⟩
  have HB2 : Hid (Below w.heap.size w w2) := hB2
  obtain ⟨b2, k2, rfl, g2, m2, l2⟩ := ho2.open
  clear hB2 ho2
  go_wp2_with fail
  refine (delay_bad b2 k2 ls per _ ad (HE.out.below HB2.out) l2 g2 m2 2 (-1) HK.out).mono ?_
  rintro e w3 ⟨t3, v3, rfl, hE3, hb3⟩
  have HB3 : Hid (Below w.heap.size w w3) := HB2.out.trans (hb3.mono HB2.out.size)
  have HX3 : Hid (ErrIs w3 (.iface t3 v3) 2 (-1)) := hE3
  clear hE3
  clear hb3 l2 g2 m2
  go_wp2_with fail
  refine (ownLines_from a cap ls w _ HB3.out HL.out hn30.out HA.out).mono ?_
  rintro e w4 ⟨v4, rfl, ho4, hb34, hB4⟩
  have HB34 : Hid (Below w3.heap.size w3 w4) := hb34
  clear hb34
  have HB4 : Hid (Below w.heap.size w w4) := hB4
  obtain ⟨b4, k4, rfl, g4, m4, l4⟩ := ho4.open
  clear hB4 ho4
  go_wp2_with fail
  refine (busy_bad b4 k4 ls per _ ad (HE.out.below HB4.out) l4 g4 m4 2 (-1) HK.out).mono ?_
  rintro e w5 ⟨t5, v5, rfl, hE5, hb5⟩
  have HB35 : Hid (Below w3.heap.size w3 w5) := HB34.out.trans (hb5.mono HB34.out.size)
  have HB5 : Hid (Below w.heap.size w w5) := HB4.out.trans (hb5.mono HB4.out.size)
  have HX5 : Hid (ErrIs w5 (.iface t5 v5) 2 (-1)) := hE5
  clear hE5
  clear hb5 l4 g4 m4
  go_wp2_with fail
  refine (curveFault_is a cap ls _ (HL.out.below HB5.out) Hc.out.1 Hc.out.2 0 (-1) HF.out).mono ?_
  rintro e w6 ⟨rfl, hb6⟩
  have HB6 : Hid (Below w.heap.size w w6) := HB5.out.trans (hb6.mono HB5.out.size)
  have HB36 : Hid (Below w3.heap.size w3 w6) := HB35.out.trans (hb6.mono HB35.out.size)
  have HB56 : Hid (Below w5.heap.size w5 w6) := hb6
  have h27 := two_new w6 (.int .i64 0) (.int .i64 (-1)) 40
  have HB7 : Hid (Below w.heap.size w (w6.alloc (.cells #[.int .i64 0, .int .i64 (-1)] 40))) := HB6.out.alloc HB6.out.size _
  have H27 : Hid (Two w6 (w6.alloc (.cells #[.int .i64 0, .int .i64 (-1)] 40)) (.int .i64 0) (.int .i64 (-1))) := h27
  clear hb6 h27
  have HB37 : Hid (Below w3.heap.size w3 (w6.alloc (.cells #[.int .i64 0, .int .i64 (-1)] 40))) := HB36.out.alloc HB36.out.size _
  have HB57 : Hid (Below w5.heap.size w5 (w6.alloc (.cells #[.int .i64 0, .int .i64 (-1)] 40))) := HB56.out.alloc HB56.out.size _
  go_wp2_with fail
  generalize w6.alloc (.cells #[.int .i64 0, .int .i64 (-1)] 40) = w7 at *
  refine (bare_any 2 _).mono ?_
  rintro e w8 ⟨rfl, hb8⟩
  obtain ⟨c0, c1, f0, f1⟩ := H27.out.later hb8
  have H28 : Hid (TwoB w6.heap.size w8 (.int .i64 0) (.int .i64 (-1))) := ⟨c0, c1, f0, f1⟩
  have HB8 : Hid (Below w.heap.size w w8) := HB7.out.trans (hb8.mono HB7.out.size)
  have HB38 : Hid (Below w3.heap.size w3 w8) := HB37.out.trans (hb8.mono HB37.out.size)
  have HB58 : Hid (Below w5.heap.size w5 w8) := HB57.out.trans (hb8.mono HB57.out.size)
  have hz : w.heap.size ≤ w6.heap.size := HB6.out.size
  have hz3 : w3.heap.size ≤ w6.heap.size := HB36.out.size
  have hz5 : w5.heap.size ≤ w6.heap.size := HB56.out.size
  have HBA : Hid (Below w.heap.size w ((w8.setCell ⟨w6.heap.size, 0, none⟩ (.int .i64 2)).setCell ⟨w6.heap.size, 1, none⟩ (.int .i64 (-1)))) := (HB8.out.setCell hz _).setCell hz _
  have HXA : Hid (CodeIs ((w8.setCell ⟨w6.heap.size, 0, none⟩ (.int .i64 2)).setCell ⟨w6.heap.size, 1, none⟩ (.int .i64 (-1))) (.iface t3 v3) 2 (-1)) := HX3.out.code.below ((HB38.out.setCell hz3 _).setCell hz3 _)
  have HYA : Hid (CodeIs ((w8.setCell ⟨w6.heap.size, 0, none⟩ (.int .i64 2)).setCell ⟨w6.heap.size, 1, none⟩ (.int .i64 (-1))) (.iface t5 v5) 2 (-1)) := HX5.out.code.below ((HB58.out.setCell hz5 _).setCell hz5 _)
  have H2A : Hid (TwoB w6.heap.size ((w8.setCell ⟨w6.heap.size, 0, none⟩ (.int .i64 2)).setCell ⟨w6.heap.size, 1, none⟩ (.int .i64 (-1))) (.int .i64 2) (.int .i64 (-1))) := H28.out.set _ _
  clear hb8
  go_wp2_with fail
  refine (faulted_yes _ 2 (-1) _ HXA.out).mono ?_
  rintro e wB ⟨rfl, hbB⟩
  obtain ⟨d0, d1, _, _⟩ := H2A.out.later hbB
  have HBB : Hid (Below w.heap.size w wB) := HBA.out.trans (hbB.mono HBA.out.size)
  have HYB : Hid (CodeIs wB (.iface t5 v5) 2 (-1)) := HYA.out.below hbB
  clear hbB c0 c1 f0 f1
  go_wp2_with fail
  refine (faulted_yes _ 2 (-1) _ HYB.out).mono ?_
  rintro e wC ⟨rfl, hbC⟩
  have HBC : Hid (Below w.heap.size w wC) := HBB.out.trans (hbC.mono HBB.out.size)
  clear hbC
  go_wp2_with fail
  go_ret
  exact ⟨rfl, HBC.out⟩
end Go.Proofs.YtcldgpbimaoliaaDoor
