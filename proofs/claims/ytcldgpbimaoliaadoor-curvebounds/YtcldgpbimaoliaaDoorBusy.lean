/- Walks: Busy with its errors. -/
import Derived.Test.YtcldgpbimaoliaaDoorDelay7
namespace Go.Proofs.YtcldgpbimaoliaaDoor
open Go.RowKit

set_option maxHeartbeats 400000 in
theorem busy_call (a : Option Addr) (cap : Nat) (ls : List (Int × Int)) (per n : Int) (w : World) (k1 k2 : Nat) (c1 : w.cell? ⟨k1, 0, none⟩ = some (.slice a ls.length cap)) (c2 : w.cell? ⟨k2, 0, none⟩ = some (.int .i64 per))
    (hl : Lies w a ls) (h : okCurve ls) (hcap : ls.length ≤ cap) (hm : cap ≤ maxLen) (m0 : 0 ≤ per * n) (m1 : per * n ≤ 1099511627776) :
    Calls Tryd.prog 67 #[.int .i64 n, .pointer (some ⟨k1, 0, none⟩), .pointer (some ⟨k2, 0, none⟩)] w fun e w' => e = .returned (.bool (busyB per ls n)) ∧ Below w.heap.size w w' := by
  have HL : Hid (Lies w a ls) := hl
  have HK : Hid (okCurve ls) := h
  have Hc : Hid (ls.length ≤ cap ∧ cap ≤ maxLen) := ⟨hcap, hm⟩
  clear hl h hcap hm
  go_enter Tryd.func67, Tryd.ntmps67
  go_wp2_with fail
  refine (bytesAt_ok a cap ls (per * n) _ HL.out HK.out Hc.out.1 Hc.out.2 m0 m1).mono ?_
  rintro e w1 ⟨rfl, hb⟩
  have HB : Hid (Below w.heap.size w w1) := hb
  clear hb
  go_wp2_with fail
  go_ret
  exact ⟨rfl, HB.out⟩

/-- How long a link is busy: the least n bytes with which it has caught up. -/
structure BusyIs (per : Int) (ls : List (Int × Int)) (n : Int) : Prop where
  one : 1 ≤ n
  most : per * n ≤ 1099511627776
  is_ : busyB per ls n = true
  least : n = 1 ∨ busyB per ls (n - 1) = false
/-- .. or it never has. -/
def BusyNot (per : Int) (ls : List (Int × Int)) : Prop := ∀ n, 1 ≤ n → per * n ≤ 1099511627776 → busyB per ls n = false

theorem quo_bd {per : Int} (p1 : 1 ≤ per) (p2 : per ≤ 1000) : 1099511627 ≤ (1099511627776 : Int) / per ∧ (1099511627776 : Int) / per ≤ 1099511627776 ∧ per * ((1099511627776 : Int) / per) ≤ 1099511627776 ∧ (1099511627776 : Int) < per * ((1099511627776 : Int) / per) + per := by
  have h1 := Int.mul_ediv_self_le (x := 1099511627776) (k := per) (by omega)
  have h2 := Int.lt_mul_ediv_self_add (x := 1099511627776) (k := per) (by omega)
  have h3 := Int.ediv_le_self (a := 1099511627776) per (by omega)
  refine ⟨?_, h3, h1, h2⟩
  rcases Int.lt_or_le ((1099511627776 : Int) / per) 1099511627 with h | h
  · exfalso
    generalize (1099511627776 : Int) / per = q at *
    have a1 := Int.mul_le_mul_of_nonneg_left (show q + 1 ≤ 1099511627 by omega) (show 0 ≤ per by omega)
    rw [Int.mul_add] at a1
    omega
  · exact h

/-- Behind the search: which of both. -/
theorem busy_found {per r : Int} {ls : List (Int × Int)} (h : okCurve ls) (p1 : 1 ≤ per) (p2 : per ≤ 1000) (r1 : 1 ≤ r) (_r2 : r ≤ 1099511627776 / per + 1) (h3 : r = 1099511627776 / per + 1 ∨ busyB per ls r = true) (h4 : r = 1 ∨ busyB per ls (r - 1) = false) :
    (r ≤ 1099511627776 / per ∧ BusyIs per ls r) ∨ (1099511627776 / per < r ∧ BusyNot per ls) := by
  obtain ⟨q1, q2, q3, q4⟩ := quo_bd p1 p2
  generalize (1099511627776 : Int) / per = q at *
  by_cases hr : r ≤ q
  · refine .inl ⟨hr, r1, ?_, ?_, h4⟩
    · have := Int.mul_le_mul_of_nonneg_left hr (show 0 ≤ per by omega)
      omega
    · rcases h3 with h3 | h3
      · omega
      · exact h3
  · refine .inr ⟨by omega, fun n n1 n2 => ?_⟩
    have er : r = q + 1 := by omega
    subst er
    rcases h4 with h4 | h4
    · omega
    · rw [show q + 1 - 1 = q by omega] at h4
      cases hq : busyB per ls n with
      | false => rfl
      | true =>
        have hnq : n ≤ q := by
          rcases Int.lt_or_le q n with h | h
          · have := Int.mul_le_mul_of_nonneg_left (show q + 1 ≤ n by omega) (show 0 ≤ per by omega)
            rw [Int.mul_add] at this
            omega
          · exact h
        have := busy_le (n := q) h p1 n1 hnq hq
        rw [h4] at this
        cases this

set_option maxHeartbeats 400000 in
theorem busy_bad (a : Option Addr) (cap : Nat) (ls : List (Int × Int)) (per : Int) (w : World) (ad : Nat → Addr) (he : Errs9 w ad) (hl : Lies w a ls) (hcap : ls.length ≤ cap) (hm : cap ≤ maxLen) (c p : Int) (h : LinkFault ls per c p) :
    Calls Tryd.prog 33 #[.slice a ls.length cap, .int .i64 per] w fun e w' => ∃ ty v, e = .returned (.tuple #[.int .i64 0, .iface ty v]) ∧ ErrIs w' (.iface ty v) c p ∧ Below w.heap.size w w' := by
  have hbW : Below w.heap.size w ((w.alloc (.cells #[.slice a ls.length cap] 35)).alloc (.cells #[.int .i64 per] 3)) := ((Below.refl _ _).alloc (Nat.le_refl _) _).alloc (by simp) _
  have hC := link_bad a cap ls per _ ad (he.below hbW) (hl.below hbW) hcap hm c p h
  clear he hl hcap hm h
  go_enter Tryd.func33, Tryd.ntmps33
  go_wp2_with fail
  generalize (w.alloc (.cells #[.slice a ls.length cap] 35)).alloc (.cells #[.int .i64 per] 3) = W at *
  have HBW : Hid (Below w.heap.size w W) := hbW
  refine hC.mono ?_
  clear hC hbW
  rintro e w1 ⟨ty, v, rfl, hE, hb⟩
  have HB : Hid (ErrIs w1 (.iface ty v) c p ∧ Below W.heap.size W w1) := ⟨hE, hb⟩
  clear hb hE
  go_wp2_with fail
  go_ret2
  exact ⟨ty, v, rfl, HB.out.1, HBW.out.trans (HB.out.2.mono HBW.out.size)⟩

set_option maxRecDepth 100000 in
set_option maxHeartbeats 400000 in
theorem busy_any (a : Option Addr) (cap : Nat) (ls : List (Int × Int)) (per : Int) (w : World) (ad : Nat → Addr) (he : Errs9 w ad) (hl : Lies w a ls) (hcap : ls.length ≤ cap) (hm : cap ≤ maxLen) (h : LinkOk ls per) :
    Calls Tryd.prog 33 #[.slice a ls.length cap, .int .i64 per] w fun e w' => Below w.heap.size w w' ∧ ((∃ n, BusyIs per ls n ∧ e = .returned (.tuple #[.int .i64 (per * n), .nilIface])) ∨ (BusyNot per ls ∧ e = .returned (.tuple #[.int .i64 0, .iface 98 (.pointer (some (ad 3)))]))) := by
  have hbW : Below w.heap.size w ((w.alloc (.cells #[.slice a ls.length cap] 35)).alloc (.cells #[.int .i64 per] 3)) := ((Below.refl _ _).alloc (Nat.le_refl _) _).alloc (by simp) _
  have c1 : ((w.alloc (.cells #[.slice a ls.length cap] 35)).alloc (.cells #[.int .i64 per] 3)).cell? ⟨w.heap.size, 0, none⟩ = some (.slice a ls.length cap) := by simp
  have c2 : ((w.alloc (.cells #[.slice a ls.length cap] 35)).alloc (.cells #[.int .i64 per] 3)).cell? ⟨w.heap.size + 1, 0, none⟩ = some (.int .i64 per) := by simp
  have HL0 := hl.below hbW
  have HE0 := he.below hbW
  have HK : Hid (LinkOk ls per) := h
  have Hc : Hid (ls.length ≤ cap ∧ cap ≤ maxLen) := ⟨hcap, hm⟩
  obtain ⟨hk, p1, p2⟩ := h
  obtain ⟨q1, q2, q3, q4⟩ := quo_bd p1 p2
  have hp0 : (per == 0) = false := by simp; omega
  go_enter Tryd.func33, Tryd.ntmps33
  go_wp2_with fail
  generalize (w.alloc (.cells #[.slice a ls.length cap] 35)).alloc (.cells #[.int .i64 per] 3) = W at *
  have HBW : Hid (Below w.heap.size w W) := hbW
  have HL : Hid (Lies W a ls) := HL0
  have HE : Hid (Errs9 W ad) := HE0
  have H1 : Hid (W.cell? ⟨w.heap.size, 0, none⟩ = some (.slice a ls.length cap)) := c1
  have H2 : Hid (W.cell? ⟨w.heap.size + 1, 0, none⟩ = some (.int .i64 per)) := c2
  clear hbW HL0 HE0 c1 c2 hl he hk hcap hm
  refine (link_ok a cap ls per _ HL.out HK.out).mono ?_
  rintro e w1 ⟨rfl, hb1⟩
  have HB1 : Hid (Below W.heap.size W w1) := hb1
  have d1 := cell_later hb1 H1.out
  have d2 := cell_later hb1 H2.out
  clear hb1
  go_wp2_with fail
  have HQ : Hid (per * (1099511627776 / per) ≤ 1099511627776) := q3
  refine (first_busy 1 (1099511627776 / per + 1) (.pointer (some ⟨w.heap.size, 0, none⟩)) (.pointer (some ⟨w.heap.size + 1, 0, none⟩)) (busyB per ls) W w1 HB1.out (by decide) (by omega) (by omega)
    (fun n W' h1 h2 hb => busy_call a cap ls per n W' w.heap.size (w.heap.size + 1) (cell_later hb H1.out) (cell_later hb H2.out) (HL.out.below hb) HK.out.1 Hc.out.1 Hc.out.2 (Int.mul_nonneg (by omega) (by omega))
      (Int.le_trans (Int.mul_le_mul_of_nonneg_left (show n ≤ 1099511627776 / per by omega) (show 0 ≤ per by omega)) HQ.out))).mono ?_
  rintro e w2 ⟨r, rfl, r1, r2, r3, r4, hb2⟩
  have HB2 : Hid (Below W.heap.size W w2) := hb2
  have e2 := cell_later hb2 H2.out
  have g3 := (HE.out.below hb2).c3
  clear hb2 d1 d2
  rcases busy_found HK.out.1 p1 p2 r1 r2 r3 r4 with ⟨hr, hB⟩ | ⟨hr, hB⟩
  · have HX : Hid (BusyIs per ls r) := hB
    have m1 := hB.most
    have m0 : 0 ≤ per * r := Int.mul_nonneg (by omega) (by omega)
    clear r3 r4 hB
    go_wp2_with fail
    go_ret2
    exact ⟨HBW.out.trans (HB2.out.mono HBW.out.size), .inl ⟨r, HX.out, rfl⟩⟩
  · have HX : Hid (BusyNot per ls) := hB
    clear r3 r4 hB
    go_wp2_with fail
    go_quiet (fail)
    go_wp2_with fail
    go_ret2
    exact ⟨below_drewN (HBW.out.trans (HB2.out.mono HBW.out.size)) _, .inr ⟨HX.out, rfl⟩⟩
end Go.Proofs.YtcldgpbimaoliaaDoor
