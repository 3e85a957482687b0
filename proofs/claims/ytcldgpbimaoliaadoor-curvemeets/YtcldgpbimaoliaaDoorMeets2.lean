/- CurveMeets: the way through. -/
import Derived.Test.YtcldgpbimaoliaaDoorMeets1
import Derived.Deep.LoopGhost
namespace Go.Proofs.YtcldgpbimaoliaaDoor
open Go.RowKit

theorem LiesI.some {w : World} {a : Option Addr} {ts : List Int} (h : LiesI w a ts) (h1 : 1 ≤ ts.length) :
    ∃ b off, a = some ⟨b, off, none⟩ ∧ b < w.heap.size ∧ ∀ i x, ts[i]? = some x → w.cell? ⟨b, off + i, none⟩ = some (.int .i64 x) := by
  rcases h with rfl | h
  · simp at h1
  · exact h

/-- What Delay tells bounds what the link has to send at any tick. -/
theorem delay_bd {per d t : Int} {ls : List (Int × Int)} (h : LinkOk ls per) (hd : DelayIs per ls d) (t0 : 0 ≤ t) (t1 : t ≤ 1099511627776) :
    1 ≤ d ∧ d ≤ 20020000000 ∧ 0 ≤ per * curveAt t ls ∧ per * curveAt t ls ≤ 1119531627776 ∧ per * curveAt t ls - t ≤ d := by
  obtain ⟨hk, p1, p2⟩ := h
  have u := hd.upper t t0
  have u0 := hd.upper 0 (by omega)
  have f0 := curveAt_bd 0 ls hk (by omega) (by omega)
  have ft := curveAt_bd t ls hk t0 t1
  obtain ⟨k, e, hh, k1, k2, _⟩ := hd.at_
  have wb := wait_bd hk p1 p2 (by omega) (by omega) hh
  have a1 := Int.mul_le_mul_of_nonneg_left f0.1 (show 0 ≤ per by omega)
  have a2 := Int.mul_nonneg (show 0 ≤ per by omega) (show 0 ≤ curveAt t ls by omega)
  omega

set_option maxRecDepth 100000 in
set_option maxHeartbeats 4000000 in
theorem meets_fine (a a2 : Option Addr) (cap cap2 : Nat) (ls : List (Int × Int)) (ts : List Int) (per : Int) (w : World) (ad : Nat → Addr) (he : Errs9 w ad) (hl : Lies w a ls) (hn : ls.length ≤ 30) (ha : a = none → ls = [] ∧ cap = 0) (h2 : ts.length ≤ 60) (hI : LiesI w a2 ts) (hk : LinkOk ls per) (hs : leastR ls * per ≤ 1000) :
    Calls Tryd.prog 7 #[.slice a ls.length cap, .int .i64 per, .slice a2 ts.length cap2] w fun e w' => e = .returned (.bool true) ∧ Below w.heap.size w w' := by
  have HE : Hid (Errs9 w ad) := he
  have HL : Hid (Lies w a ls) := hl
  have HI : Hid (LiesI w a2 ts) := hI
  have HA : Hid (a = none → ls = [] ∧ cap = 0) := ha
  have HK : Hid (LinkOk ls per) := hk
  have HS : Hid (leastR ls * per ≤ 1000) := hs
  have hn30 : Hid (ls.length ≤ 1000) := by show _ ≤ _; omega
  obtain ⟨_, p1, p2⟩ := hk
  clear he hl ha hI hs
  go_enter Tryd.func7, Tryd.ntmps7
  go_wp2_with fail
  refine (drawn_any _).mono ?_
  rintro e w1 ⟨rfl, hb⟩
  have HB1 : Hid (Below w.heap.size w w1) := hb
  clear hb
  go_wp2_with fail
  refine (ownLines_from a cap ls w _ HB1.out HL.out hn30.out HA.out).mono ?_
  rintro e w2 ⟨v2, rfl, ho2, _, hB2⟩
  have HB2 : Hid (Below w.heap.size w w2) := hB2
  obtain ⟨b2, k2, rfl, g2, m2, l2⟩ := ho2.open
  clear hB2 ho2
  go_wp2_with fail
  refine (delay_ok b2 k2 ls per _ l2 g2 m2 HK.out HS.out).mono ?_
  rintro e w3 ⟨d, rfl, hd, hb3⟩
  have HB3 : Hid (Below w.heap.size w w3) := HB2.out.trans (hb3.mono HB2.out.size)
  have HD : Hid (DelayIs per ls d) := hd
  clear hb3 l2 g2 m2 hd
  go_wp2_with fail
  refine (ownLines_from a cap ls w _ HB3.out HL.out hn30.out HA.out).mono ?_
  rintro e w4 ⟨v4, rfl, ho4, _, hB4⟩
  have HB4 : Hid (Below w.heap.size w w4) := hB4
  obtain ⟨b4, k4, rfl, g4, m4, l4⟩ := ho4.open
  clear hB4 ho4
  go_wp2_with fail
  refine (busy_any b4 k4 ls per _ ad (HE.out.below HB4.out) l4 g4 m4 HK.out).mono ?_
  rintro e w5 ⟨hb5, ⟨nb, hB, rfl⟩ | ⟨hB, rfl⟩⟩
  · have HB5 : Hid (Below w.heap.size w w5) := HB4.out.trans (hb5.mono HB4.out.size)
    have HX : Hid (BusyIs per ls nb) := hB
    have x1 := hB.most
    have x0 : 0 ≤ per * nb := Int.mul_nonneg (by omega) (by have := hB.one; omega)
    clear hb5 l4 g4 m4 hB
    go_wp2_with fail
    go_loopg [12] ts.length (fun g i wr => ∃ k : Nat, g + k = ts.length ∧ i = .int .i64 k ∧ Below w.heap.size w wr)
    case atStart => exact ⟨0, rfl, rfl, HB5.out⟩
    case round =>
      obtain ⟨k, hgk, rfl, hbr⟩ := hrel
      have HBR : Hid (Below w.heap.size w wr) := hbr
      clear hbr
      by_cases hkn : k < ts.length
      · obtain ⟨b, off, rfl, hlt, hc⟩ := HI.out.some (by omega)
        obtain ⟨t, ht, -⟩ := get_some ts k hkn
        have HT : Hid (w.cell? ⟨b, off + k, none⟩ = some (.int .i64 t)) := hc k t ht
        have q := cell_later HBR.out HT.out
        clear hc ht
        by_cases ht0 : t < 0
        · go_wp2_with fail
          go_roundg (gk - 1)
          case measure => omega
          case rel => exact ⟨k + 1, by omega, by go_num, HBR.out⟩
        by_cases ht1 : 1099511627776 < t
        · go_wp2_with fail
          go_roundg (gk - 1)
          case measure => omega
          case rel => exact ⟨k + 1, by omega, by go_num, HBR.out⟩
        go_upto_region 12 with fail
        go_cut [13, 14] (fun s13 s14 wx => s13 = .int .i64 (curveAt t ls) ∧ s14 = .nilIface ∧ Below wr.heap.size wr wx)
        case first =>
          go_region_with (first
            | (go_at_call 21; go_must (refine (ownLines_from a cap ls w _ ?_ HL.out hn30.out HA.out).mono ?_; exact HBR.out.drew; rintro e w6 ⟨v6, rfl, ho6, hb6, _⟩; obtain ⟨a6, cap6, rfl, g6, m6, l6⟩ := ho6.open; have HB6 : Hid (Below wr.heap.size wr w6) := below_undrew hb6; have q6 := cell_later HB6.out q; have HG6 : Hid (ls.length ≤ cap6 ∧ cap6 ≤ maxLen ∧ Lies w6 a6 ls) := ⟨g6, m6, l6⟩; clear g6 m6 l6 ho6 hb6))
            | (go_at_call 20; go_must (refine (at_ok a6 cap6 ls t _ HG6.out.2.2 HK.out.1 HG6.out.1 HG6.out.2.1 (by omega) (by omega)).mono ?_; rintro e w7 ⟨rfl, hb7⟩; have HB7 : Hid (Below wr.heap.size wr w7) := HB6.out.trans (hb7.mono HB6.out.size); clear hb7))
            | fail)
          all_goals (go_wp2_with fail; go_meet; exact ⟨rfl, rfl, HB7.out⟩)
        case rest =>
        obtain ⟨rfl, rfl, hbc⟩ := hcut
        have HBC : Hid (Below w.heap.size w wc) := HBR.out.trans (hbc.mono HBR.out.size)
        have qc := cell_later hbc q
        clear hbc q
        obtain ⟨d0, d1, n0, n1, nd⟩ := delay_bd HK.out HD.out (show 0 ≤ t by omega) (show t ≤ 1099511627776 by omega)
        have hle : 1 ≤ t → t < per * nb → t < per * curveAt t ls := fun h1 h2 => busy_least HK.out.1 p1 h1 HX.out.least h2 (by omega)
        generalize curveAt t ls = M at *
        by_cases c1 : 1 ≤ t
        · by_cases c2 : t < per * nb
          · have c3 := hle c1 c2
            clear hle
            go_wp2_with fail
            go_roundg (gk - 1)
            case measure => omega
            case rel => exact ⟨k + 1, by omega, by go_num, HBC.out⟩
          · clear hle
            go_wp2_with fail
            go_roundg (gk - 1)
            case measure => omega
            case rel => exact ⟨k + 1, by omega, by go_num, HBC.out⟩
        · clear hle
          go_wp2_with fail
          go_roundg (gk - 1)
          case measure => omega
          case rel => exact ⟨k + 1, by omega, by go_num, HBC.out⟩
      · have y1 := delay_busy (k := 1) HK.out.1 p1 HX.out.one HX.out.is_
        clear y1
        have y2 : d ≤ per * nb := by
          obtain ⟨k', e', hh', _⟩ := HD.out.at_
          rw [e']
          exact delay_busy HK.out.1 p1 HX.out.one HX.out.is_ hh'
        have y3 : curveAt (per * nb) ls ≤ nb := of_decide_eq_true HX.out.is_
        have y4 := Int.mul_le_mul_of_nonneg_left y3 (show 0 ≤ per by omega)
        obtain ⟨d0, d1, n0, n1, nd⟩ := delay_bd HK.out HD.out x0 x1
        clear y3
        go_wp2_with fail
        refine (ownLines_from a cap ls w _ HBR.out HL.out hn30.out HA.out).mono ?_
        rintro e w6 ⟨v6, rfl, ho6, hb6, hB6⟩
        obtain ⟨a6, cap6, rfl, g6, m6, l6⟩ := ho6.open
        have HB6 : Hid (Below w.heap.size w w6) := hB6
        clear hb6 hB6 ho6
        go_wp2_with fail
        refine (at_ok a6 cap6 ls (per * nb) _ l6 HK.out.1 g6 m6 x0 x1).mono ?_
        rintro e w7 ⟨rfl, hb7⟩
        have HB7 : Hid (Below w.heap.size w w7) := HB6.out.trans (hb7.mono HB6.out.size)
        clear hb7 l6 g6 m6
        generalize curveAt (per * nb) ls = M at *
        generalize per * nb = b7 at *
        go_wp2_with fail
        go_ret
        exact ⟨rfl, HB7.out⟩
  · have HB5 : Hid (Below w.heap.size w w5) := HB4.out.trans (hb5.mono HB4.out.size)
    clear hb5 l4 g4 m4 hB
    go_wp2_with fail
    go_loopg [12] ts.length (fun g i wr => ∃ k : Nat, g + k = ts.length ∧ i = .int .i64 k ∧ Below w.heap.size w wr)
    case atStart => exact ⟨0, rfl, rfl, HB5.out⟩
    case round =>
      obtain ⟨k, hgk, rfl, hbr⟩ := hrel
      have HBR : Hid (Below w.heap.size w wr) := hbr
      clear hbr
      by_cases hkn : k < ts.length
      · obtain ⟨b, off, rfl, hlt, hc⟩ := HI.out.some (by omega)
        obtain ⟨t, ht, -⟩ := get_some ts k hkn
        have HT : Hid (w.cell? ⟨b, off + k, none⟩ = some (.int .i64 t)) := hc k t ht
        have q := cell_later HBR.out HT.out
        clear hc ht
        by_cases ht0 : t < 0
        · go_wp2_with fail
          go_roundg (gk - 1)
          case measure => omega
          case rel => exact ⟨k + 1, by omega, by go_num, HBR.out⟩
        by_cases ht1 : 1099511627776 < t
        · go_wp2_with fail
          go_roundg (gk - 1)
          case measure => omega
          case rel => exact ⟨k + 1, by omega, by go_num, HBR.out⟩
        go_upto_region 12 with fail
        go_cut [13, 14] (fun s13 s14 wx => s13 = .int .i64 (curveAt t ls) ∧ s14 = .nilIface ∧ Below wr.heap.size wr wx)
        case first =>
          go_region_with (first
            | (go_at_call 21; go_must (refine (ownLines_from a cap ls w _ ?_ HL.out hn30.out HA.out).mono ?_; exact HBR.out.drew; rintro e w6 ⟨v6, rfl, ho6, hb6, _⟩; obtain ⟨a6, cap6, rfl, g6, m6, l6⟩ := ho6.open; have HB6 : Hid (Below wr.heap.size wr w6) := below_undrew hb6; have q6 := cell_later HB6.out q; have HG6 : Hid (ls.length ≤ cap6 ∧ cap6 ≤ maxLen ∧ Lies w6 a6 ls) := ⟨g6, m6, l6⟩; clear g6 m6 l6 ho6 hb6))
            | (go_at_call 20; go_must (refine (at_ok a6 cap6 ls t _ HG6.out.2.2 HK.out.1 HG6.out.1 HG6.out.2.1 (by omega) (by omega)).mono ?_; rintro e w7 ⟨rfl, hb7⟩; have HB7 : Hid (Below wr.heap.size wr w7) := HB6.out.trans (hb7.mono HB6.out.size); clear hb7))
            | fail)
          all_goals (go_wp2_with fail; go_meet; exact ⟨rfl, rfl, HB7.out⟩)
        case rest =>
        obtain ⟨rfl, rfl, hbc⟩ := hcut
        have HBC : Hid (Below w.heap.size w wc) := HBR.out.trans (hbc.mono HBR.out.size)
        have qc := cell_later hbc q
        clear hbc q
        obtain ⟨d0, d1, n0, n1, nd⟩ := delay_bd HK.out HD.out (show 0 ≤ t by omega) (show t ≤ 1099511627776 by omega)
        generalize curveAt t ls = M at *
        go_wp2_with fail
        go_roundg (gk - 1)
        case measure => omega
        case rel => exact ⟨k + 1, by omega, by go_num, HBC.out⟩
      · go_wp2_with fail
        refine (coded_yes _ 4 _ (codeIs_sent (HE.out.below HBR.out) 3 (by decide))).mono ?_
        rintro e w6 ⟨rfl, hb6⟩
        have HB6 : Hid (Below w.heap.size w w6) := HBR.out.trans (hb6.mono HBR.out.size)
        clear hb6
        go_wp2_with fail
        go_ret
        exact ⟨rfl, HB6.out⟩
end Go.Proofs.YtcldgpbimaoliaaDoor
