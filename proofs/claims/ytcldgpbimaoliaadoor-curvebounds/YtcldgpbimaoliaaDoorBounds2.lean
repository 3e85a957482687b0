/- CurveBounds: the ways on curves and links. -/
import Derived.Test.YtcldgpbimaoliaaDoorBounds1
namespace Go.Proofs.YtcldgpbimaoliaaDoor
open Go.RowKit

/-- What Delay tells is what is most within 130000 ticks. -/
theorem delay_best {per d best : Int} {ls : List (Int × Int)} (h : LinkOk ls per) (hs : leastR ls * per ≤ 1000) (hb : ∀ p, p ∈ ls → p.1 ≤ 60) (hd : DelayIs per ls d) (hx : BestIs per ls 130001 best) : d = best := by
  obtain ⟨k, e, hh, k1, k2, hk⟩ := hd.at_
  rcases hx with ⟨h0, _⟩ | ⟨_, hall, s, s0, s1, es⟩
  · omega
  · have u := hd.upper s s0
    have ht := tick_small h.1 h.2.1 hs hb hk hh
    obtain ⟨c0, c1⟩ := has_at ls k h.1 hh
    have l := hall (comesAt (lastC k ls) k) c0 (by omega)
    have m := Int.mul_le_mul_of_nonneg_left c1 (show 0 ≤ per by have := h.2.1; omega)
    unfold waitOf at e
    omega

set_option maxRecDepth 100000 in
set_option maxHeartbeats 2000000 in
theorem bounds_fine (a : Option Addr) (cap : Nat) (ls : List (Int × Int)) (per : Int) (w : World) (ad : Nat → Addr) (he : Errs9 w ad) (hl : Lies w a ls) (hn : ls.length ≤ 30) (hcap : ls.length ≤ cap) (hm : cap ≤ maxLen) (ha : a = none → ls = [] ∧ cap = 0) (hsm : ∀ p, p ∈ ls → p.1 ≤ 60) (hk : LinkOk ls per) (hr : leastR ls * per < 1000) :
    Calls Tryd.prog 8 #[.slice a ls.length cap, .int .i64 per] w fun e w' => e = .returned (.bool true) ∧ Below w.heap.size w w' := by
  have HE : Hid (Errs9 w ad) := he
  have HL : Hid (Lies w a ls) := hl
  have Hc : Hid (ls.length ≤ cap ∧ cap ≤ maxLen) := ⟨hcap, hm⟩
  have HA : Hid (a = none → ls = [] ∧ cap = 0) := ha
  have HS : Hid (∀ p, p ∈ ls → p.1 ≤ 60) := hsm
  have hn30 : Hid (ls.length ≤ 1000) := by show _ ≤ _; omega
  have HK : Hid (LinkOk ls per) := hk
  have HF : Hid (FaultIs ls 0 (-1)) := .inr (.inr ⟨hk.1, rfl, rfl⟩)
  obtain ⟨hk0, p1, p2⟩ := hk
  have HR : Hid (leastR ls * per ≤ 1000) := by show _ ≤ _; omega
  have HR2 : Hid (leastR ls * per < 1000) := hr
  have HNB : Hid (∃ n, 1 ≤ n ∧ per * n ≤ 1099511627776 ∧ busyB per ls n = true) := busy_some hk0 p2 hr
  clear he hl ha hcap hm hsm
  go_enter Tryd.func8, Tryd.ntmps8
  go_wp2_with fail
  refine (drawn_any _).mono ?_
  rintro e w1 ⟨rfl, hb⟩
  have HB1 : Hid (Below w.heap.size w w1) := hb
  clear hb
  go_wp2_with fail
  go_loop [6] (fun i => ∃ k : Nat, k ≤ ls.length ∧ i = .int .i64 k) (fun i => ls.length - (intOf i).toNat)
  case atStart => exact ⟨0, Nat.zero_le _, rfl⟩
  case round =>
  obtain ⟨k, hk, rfl⟩ := hrel
  by_cases hkn : k < ls.length
  · obtain ⟨b, off, rfl, hlt, hc⟩ := HL.out.some (by omega)
    obtain ⟨⟨x, y⟩, hp, hmem⟩ := get_some ls k hkn
    have q := cell_later HB1.out (hc k x y hp).1
    have hx : x ≤ 60 := HS.out _ hmem
    clear hc hp hmem
    go_wp2_with fail
    go_round
    case rel => exact ⟨k + 1, by omega, by go_num⟩
    case measure => simp [intOf]; omega
  go_wp2_with fail
  refine (ownLines_from a cap ls w _ HB1.out HL.out hn30.out HA.out).mono ?_
  rintro e w2 ⟨v2, rfl, ho2, _, hB2⟩
  have HB2 : Hid (Below w.heap.size w w2) := hB2
  obtain ⟨b2, k2, rfl, g2, m2, l2⟩ := ho2.open
  clear hB2 ho2
  go_wp2_with fail
  refine (delay_ok b2 k2 ls per _ l2 g2 m2 HK.out HR.out).mono ?_
  rintro e w3 ⟨d, rfl, hd, hb3⟩
  have HB3 : Hid (Below w.heap.size w w3) := HB2.out.trans (hb3.mono HB2.out.size)
  have HD : Hid (DelayIs per ls d) := hd
  clear hd
  clear hb3 l2 g2 m2
  go_wp2_with fail
  refine (ownLines_from a cap ls w _ HB3.out HL.out hn30.out HA.out).mono ?_
  rintro e w4 ⟨v4, rfl, ho4, _, hB4⟩
  have HB4 : Hid (Below w.heap.size w w4) := hB4
  obtain ⟨b4, k4, rfl, g4, m4, l4⟩ := ho4.open
  clear hB4 ho4
  go_wp2_with fail
  refine (busy_any b4 k4 ls per _ ad (HE.out.below HB4.out) l4 g4 m4 HK.out).mono ?_
  rintro e w5 ⟨hb5, ⟨nb, hB, rfl⟩ | ⟨hB, rfl⟩⟩
  case inr => exact absurd HNB.out (fun ⟨m, m1, m2, m3⟩ => by have := hB m m1 m2; rw [m3] at this; cases this)
  have HB5 : Hid (Below w.heap.size w w5) := HB4.out.trans (hb5.mono HB4.out.size)
  have HN : Hid (BusyIs per ls nb) := hB
  have x1 := hB.most
  have x0 : 0 ≤ per * nb := Int.mul_nonneg (by omega) (by have := hB.one; omega)
  clear hB
  clear hb5 l4 g4 m4
  go_wp2_with fail
  refine (curveFault_is a cap ls _ (HL.out.below HB5.out) Hc.out.1 Hc.out.2 0 (-1) HF.out).mono ?_
  rintro e w6 ⟨rfl, hb6⟩
  have HB6 : Hid (Below w.heap.size w w6) := HB5.out.trans (hb6.mono HB5.out.size)
  have h27 := two_new w6 (.int .i64 0) (.int .i64 (-1)) 40
  have HB7 : Hid (Below w.heap.size w (w6.alloc (.cells #[.int .i64 0, .int .i64 (-1)] 40))) := HB6.out.alloc HB6.out.size _
  have H27 : Hid (Two w6 (w6.alloc (.cells #[.int .i64 0, .int .i64 (-1)] 40)) (.int .i64 0) (.int .i64 (-1))) := h27
  clear hb6 h27
  go_wp2_with fail
  refine (delayOf_ok a cap ls per _ (HL.out.below HB7.out) HK.out HR.out).mono ?_
  rintro e w8 ⟨best, rfl, hbest, hb8⟩
  have HB8 : Hid (Below w.heap.size w w8) := HB7.out.trans (hb8.mono HB7.out.size)
  obtain rfl := delay_best HK.out HR.out HS.out HD.out hbest
  clear hb8 hbest
  go_wp2_with fail
  refine (busyOf_ok a cap ls per nb _ (HL.out.below HB8.out) HK.out HR2.out HN.out).mono ?_
  rintro e w9 ⟨rfl, hb9⟩
  have HB9 : Hid (Below w.heap.size w w9) := HB8.out.trans (hb9.mono HB8.out.size)
  clear hb9
  generalize per * nb = b9 at *
  go_wp2_with fail
  go_ret
  exact ⟨rfl, HB9.out⟩

set_option maxRecDepth 100000 in
set_option maxHeartbeats 2000000 in
theorem bounds_even (a : Option Addr) (cap : Nat) (ls : List (Int × Int)) (per : Int) (w : World) (ad : Nat → Addr) (he : Errs9 w ad) (hl : Lies w a ls) (hn : ls.length ≤ 30) (hcap : ls.length ≤ cap) (hm : cap ≤ maxLen) (ha : a = none → ls = [] ∧ cap = 0) (hsm : ∀ p, p ∈ ls → p.1 ≤ 60) (hk : LinkOk ls per) (hr : leastR ls * per = 1000) :
    Calls Tryd.prog 8 #[.slice a ls.length cap, .int .i64 per] w fun e w' => e = .returned (.bool true) ∧ Below w.heap.size w w' := by
  have HE : Hid (Errs9 w ad) := he
  have HL : Hid (Lies w a ls) := hl
  have Hc : Hid (ls.length ≤ cap ∧ cap ≤ maxLen) := ⟨hcap, hm⟩
  have HA : Hid (a = none → ls = [] ∧ cap = 0) := ha
  have HS : Hid (∀ p, p ∈ ls → p.1 ≤ 60) := hsm
  have hn30 : Hid (ls.length ≤ 1000) := by show _ ≤ _; omega
  have HK : Hid (LinkOk ls per) := hk
  have HF : Hid (FaultIs ls 0 (-1)) := .inr (.inr ⟨hk.1, rfl, rfl⟩)
  obtain ⟨hk0, p1, p2⟩ := hk
  have HR : Hid (leastR ls * per ≤ 1000) := by show _ ≤ _; omega
  have HR2 : Hid (1000 ≤ leastR ls * per) := by show _ ≤ _; omega
  clear hr
  clear he hl ha hcap hm hsm
  go_enter Tryd.func8, Tryd.ntmps8
  go_wp2_with fail
  refine (drawn_any _).mono ?_
  rintro e w1 ⟨rfl, hb⟩
  have HB1 : Hid (Below w.heap.size w w1) := hb
  clear hb
  go_wp2_with fail
  go_loop [6] (fun i => ∃ k : Nat, k ≤ ls.length ∧ i = .int .i64 k) (fun i => ls.length - (intOf i).toNat)
  case atStart => exact ⟨0, Nat.zero_le _, rfl⟩
  case round =>
  obtain ⟨k, hk, rfl⟩ := hrel
  by_cases hkn : k < ls.length
  · obtain ⟨b, off, rfl, hlt, hc⟩ := HL.out.some (by omega)
    obtain ⟨⟨x, y⟩, hp, hmem⟩ := get_some ls k hkn
    have q := cell_later HB1.out (hc k x y hp).1
    have hx : x ≤ 60 := HS.out _ hmem
    clear hc hp hmem
    go_wp2_with fail
    go_round
    case rel => exact ⟨k + 1, by omega, by go_num⟩
    case measure => simp [intOf]; omega
  go_wp2_with fail
  refine (ownLines_from a cap ls w _ HB1.out HL.out hn30.out HA.out).mono ?_
  rintro e w2 ⟨v2, rfl, ho2, _, hB2⟩
  have HB2 : Hid (Below w.heap.size w w2) := hB2
  obtain ⟨b2, k2, rfl, g2, m2, l2⟩ := ho2.open
  clear hB2 ho2
  go_wp2_with fail
  refine (delay_ok b2 k2 ls per _ l2 g2 m2 HK.out HR.out).mono ?_
  rintro e w3 ⟨d, rfl, hd, hb3⟩
  have HB3 : Hid (Below w.heap.size w w3) := HB2.out.trans (hb3.mono HB2.out.size)
  have HD : Hid (DelayIs per ls d) := hd
  clear hd
  clear hb3 l2 g2 m2
  go_wp2_with fail
  refine (ownLines_from a cap ls w _ HB3.out HL.out hn30.out HA.out).mono ?_
  rintro e w4 ⟨v4, rfl, ho4, _, hB4⟩
  have HB4 : Hid (Below w.heap.size w w4) := hB4
  obtain ⟨b4, k4, rfl, g4, m4, l4⟩ := ho4.open
  clear hB4 ho4
  go_wp2_with fail
  refine (busy_any b4 k4 ls per _ ad (HE.out.below HB4.out) l4 g4 m4 HK.out).mono ?_
  rintro e w5 ⟨hb5, ⟨nb, hB, rfl⟩ | ⟨hB, rfl⟩⟩
  case inl => exact absurd hB.is_ (by rw [busy_never HK.out.1 p1 hB.one HR2.out]; decide)
  have HB5 : Hid (Below w.heap.size w w5) := HB4.out.trans (hb5.mono HB4.out.size)
  clear hB
  clear hb5 l4 g4 m4
  go_wp2_with fail
  refine (curveFault_is a cap ls _ (HL.out.below HB5.out) Hc.out.1 Hc.out.2 0 (-1) HF.out).mono ?_
  rintro e w6 ⟨rfl, hb6⟩
  have HB6 : Hid (Below w.heap.size w w6) := HB5.out.trans (hb6.mono HB5.out.size)
  have h27 := two_new w6 (.int .i64 0) (.int .i64 (-1)) 40
  have HB7 : Hid (Below w.heap.size w (w6.alloc (.cells #[.int .i64 0, .int .i64 (-1)] 40))) := HB6.out.alloc HB6.out.size _
  have H27 : Hid (Two w6 (w6.alloc (.cells #[.int .i64 0, .int .i64 (-1)] 40)) (.int .i64 0) (.int .i64 (-1))) := h27
  clear hb6 h27
  go_wp2_with fail
  refine (delayOf_ok a cap ls per _ (HL.out.below HB7.out) HK.out HR.out).mono ?_
  rintro e w8 ⟨best, rfl, hbest, hb8⟩
  have HB8 : Hid (Below w.heap.size w w8) := HB7.out.trans (hb8.mono HB7.out.size)
  obtain rfl := delay_best HK.out HR.out HS.out HD.out hbest
  clear hb8 hbest
  go_wp2_with fail
  refine (busyOf_none a cap ls per _ (HL.out.below HB8.out) HK.out HR2.out).mono ?_
  rintro e w9 ⟨rfl, hb9⟩
  have HB9 : Hid (Below w.heap.size w w9) := HB8.out.trans (hb9.mono HB8.out.size)
  clear hb9
  go_wp2_with fail
  refine (coded_yes _ 4 _ (codeIs_sent (HE.out.below HB9.out) 3 (by decide))).mono ?_
  rintro e w10 ⟨rfl, hb10⟩
  have HB10 : Hid (Below w.heap.size w w10) := HB9.out.trans (hb10.mono HB9.out.size)
  clear hb10
  go_wp2_with fail
  go_ret
  exact ⟨rfl, HB10.out⟩

set_option maxRecDepth 100000 in
set_option maxHeartbeats 2000000 in
theorem bounds_none (a : Option Addr) (cap : Nat) (ls : List (Int × Int)) (per : Int) (w : World) (ad : Nat → Addr) (he : Errs9 w ad) (hl : Lies w a ls) (hn : ls.length ≤ 30) (hcap : ls.length ≤ cap) (hm : cap ≤ maxLen) (ha : a = none → ls = [] ∧ cap = 0) (hsm : ∀ p, p ∈ ls → p.1 ≤ 60) (hk : LinkOk ls per) (hr : 1000 < leastR ls * per) :
    Calls Tryd.prog 8 #[.slice a ls.length cap, .int .i64 per] w fun e w' => e = .returned (.bool true) ∧ Below w.heap.size w w' := by
  have HE : Hid (Errs9 w ad) := he
  have HL : Hid (Lies w a ls) := hl
  have Hc : Hid (ls.length ≤ cap ∧ cap ≤ maxLen) := ⟨hcap, hm⟩
  have HA : Hid (a = none → ls = [] ∧ cap = 0) := ha
  have HS : Hid (∀ p, p ∈ ls → p.1 ≤ 60) := hsm
  have hn30 : Hid (ls.length ≤ 1000) := by show _ ≤ _; omega
  have HK : Hid (LinkOk ls per) := hk
  have HF : Hid (FaultIs ls 0 (-1)) := .inr (.inr ⟨hk.1, rfl, rfl⟩)
  obtain ⟨hk0, p1, p2⟩ := hk
  have HR : Hid (1000 < leastR ls * per) := hr
  have HR2 : Hid (1000 ≤ leastR ls * per) := by show _ ≤ _; omega
  clear he hl ha hcap hm hsm
  go_enter Tryd.func8, Tryd.ntmps8
  go_wp2_with fail
  refine (drawn_any _).mono ?_
  rintro e w1 ⟨rfl, hb⟩
  have HB1 : Hid (Below w.heap.size w w1) := hb
  clear hb
  go_wp2_with fail
  go_loop [6] (fun i => ∃ k : Nat, k ≤ ls.length ∧ i = .int .i64 k) (fun i => ls.length - (intOf i).toNat)
  case atStart => exact ⟨0, Nat.zero_le _, rfl⟩
  case round =>
  obtain ⟨k, hk, rfl⟩ := hrel
  by_cases hkn : k < ls.length
  · obtain ⟨b, off, rfl, hlt, hc⟩ := HL.out.some (by omega)
    obtain ⟨⟨x, y⟩, hp, hmem⟩ := get_some ls k hkn
    have q := cell_later HB1.out (hc k x y hp).1
    have hx : x ≤ 60 := HS.out _ hmem
    clear hc hp hmem
    go_wp2_with fail
    go_round
    case rel => exact ⟨k + 1, by omega, by go_num⟩
    case measure => simp [intOf]; omega
  go_wp2_with fail
  refine (ownLines_from a cap ls w _ HB1.out HL.out hn30.out HA.out).mono ?_
  rintro e w2 ⟨v2, rfl, ho2, _, hB2⟩
  have HB2 : Hid (Below w.heap.size w w2) := hB2
  obtain ⟨b2, k2, rfl, g2, m2, l2⟩ := ho2.open
  clear hB2 ho2
  go_wp2_with fail
  refine (delay_none b2 k2 ls per _ ad (HE.out.below HB2.out) l2 g2 m2 HK.out HR.out).mono ?_
  rintro e w3 ⟨rfl, hb3⟩
  have HB3 : Hid (Below w.heap.size w w3) := HB2.out.trans (hb3.mono HB2.out.size)
  clear hb3 l2 g2 m2
  go_wp2_with fail
  refine (ownLines_from a cap ls w _ HB3.out HL.out hn30.out HA.out).mono ?_
  rintro e w4 ⟨v4, rfl, ho4, _, hB4⟩
  have HB4 : Hid (Below w.heap.size w w4) := hB4
  obtain ⟨b4, k4, rfl, g4, m4, l4⟩ := ho4.open
  clear hB4 ho4
  go_wp2_with fail
  refine (busy_any b4 k4 ls per _ ad (HE.out.below HB4.out) l4 g4 m4 HK.out).mono ?_
  rintro e w5 ⟨hb5, ⟨nb, hB, rfl⟩ | ⟨hB, rfl⟩⟩
  case inl => exact absurd hB.is_ (by rw [busy_never HK.out.1 p1 hB.one HR2.out]; decide)
  have HB5 : Hid (Below w.heap.size w w5) := HB4.out.trans (hb5.mono HB4.out.size)
  clear hB
  clear hb5 l4 g4 m4
  go_wp2_with fail
  refine (curveFault_is a cap ls _ (HL.out.below HB5.out) Hc.out.1 Hc.out.2 0 (-1) HF.out).mono ?_
  rintro e w6 ⟨rfl, hb6⟩
  have HB6 : Hid (Below w.heap.size w w6) := HB5.out.trans (hb6.mono HB5.out.size)
  have h27 := two_new w6 (.int .i64 0) (.int .i64 (-1)) 40
  have HB7 : Hid (Below w.heap.size w (w6.alloc (.cells #[.int .i64 0, .int .i64 (-1)] 40))) := HB6.out.alloc HB6.out.size _
  have H27 : Hid (Two w6 (w6.alloc (.cells #[.int .i64 0, .int .i64 (-1)] 40)) (.int .i64 0) (.int .i64 (-1))) := h27
  clear hb6 h27
  go_wp2_with fail
  refine (delayOf_none a cap ls per _ (HL.out.below HB7.out) HK.out HR.out).mono ?_
  rintro e w8 ⟨rfl, hb8⟩
  have HB8 : Hid (Below w.heap.size w w8) := HB7.out.trans (hb8.mono HB7.out.size)
  clear hb8
  go_wp2_with fail
  refine (coded_yes _ 4 _ (codeIs_sent (HE.out.below HB8.out) 3 (by decide))).mono ?_
  rintro e w80 ⟨rfl, hb80⟩
  have HB80 : Hid (Below w.heap.size w w80) := HB8.out.trans (hb80.mono HB8.out.size)
  clear hb80
  go_wp2_with fail
  refine (busyOf_none a cap ls per _ (HL.out.below HB80.out) HK.out HR2.out).mono ?_
  rintro e w9 ⟨rfl, hb9⟩
  have HB9 : Hid (Below w.heap.size w w9) := HB80.out.trans (hb9.mono HB80.out.size)
  clear hb9
  go_wp2_with fail
  refine (coded_yes _ 4 _ (codeIs_sent (HE.out.below HB9.out) 3 (by decide))).mono ?_
  rintro e w10 ⟨rfl, hb10⟩
  have HB10 : Hid (Below w.heap.size w w10) := HB9.out.trans (hb10.mono HB9.out.size)
  clear hb10
  go_wp2_with fail
  go_ret
  exact ⟨rfl, HB10.out⟩

end Go.Proofs.YtcldgpbimaoliaaDoor
