/- The reference's leastRate, DelayOf and BusyOf. -/
import Derived.Test.YtcldgpbimaoliaaDoorBusy
import Derived.Test.YtcldgpbimaoliaaDoorCurveAt
import Derived.Test.YtcldgpbimaoliaaDoorPlainBounds
namespace Go.Proofs.YtcldgpbimaoliaaDoor
open Go.RowKit

theorem leastR_snoc (p q : Int × Int) (r : List (Int × Int)) : leastR ((p :: r) ++ [q]) = min (leastR (p :: r)) q.2 := leastFold_snoc r p.2 q

set_option maxHeartbeats 1000000 in
theorem refLeast_ok (a : Option Addr) (cap : Nat) (ls : List (Int × Int)) (w : World) (hl : Lies w a ls) (h : okCurve ls) :
    Calls Tryd.prog 68 #[.slice a ls.length cap] w fun e w' => e = .returned (.int .i64 (leastR ls)) ∧ Below w.heap.size w w' := by
  obtain ⟨h1, h6, hok⟩ := h
  obtain ⟨b, off, rfl, hlt, hc⟩ := hl.some h1
  clear hl hok
  obtain ⟨p0, r0, hls⟩ : ∃ p r, ls = p :: r := by
    cases ls with
    | nil => simp at h1
    | cons p r => exact ⟨p, r, rfl⟩
  have HC : Hid (∀ i x y, ls[i]? = some (x, y) → w.cell? ⟨b, off + i * 2, none⟩ = some (.int .i64 x) ∧ w.cell? ⟨b, off + i * 2 + 1, none⟩ = some (.int .i64 y)) := hc
  have c0 : w.cell? ⟨b, off + 1, none⟩ = some (.int .i64 p0.2) := by
    have := (hc 0 p0.1 p0.2 (by rw [hls]; rfl)).2
    simpa using this
  have HP : Hid (ls = p0 :: r0) := hls
  clear hc hls
  generalize hn : ls.length = n at *
  have Hn := (show Hid (ls.length = n) from hn)
  clear hn
  go_enter Tryd.func68, Tryd.ntmps68
  go_wp2
  go_loop [3, 4] (fun m i => ∃ k : Nat, k ≤ n ∧ i = .int .i64 k ∧ m = .int .i64 (leastFold p0.2 (ls.take k))) (fun _ i => n - (intOf i).toNat)
  case atStart => exact ⟨0, Nat.zero_le _, rfl, rfl⟩
  case round =>
    obtain ⟨k, hk, rfl, rfl⟩ := hrel
    by_cases hkn : k < n
    · obtain ⟨⟨x, y⟩, hp, -⟩ := get_some ls k (by rw [Hn.out]; exact hkn)
      have hc2 := (HC.out k x y hp).2
      have hts : ls.take (k + 1) = ls.take k ++ [(x, y)] := by rw [List.take_add_one, hp]; rfl
      have HS : Hid (leastFold p0.2 (ls.take (k + 1)) = min (leastFold p0.2 (ls.take k)) y) := by show _ = _; rw [hts]; exact leastFold_snoc _ _ _
      obtain ⟨M, hM⟩ : ∃ M, leastFold p0.2 (ls.take k) = M := ⟨_, rfl⟩
      rw [hM]
      have HM : Hid (leastFold p0.2 (ls.take k) = M) := hM
      clear hM hts hp
      by_cases hlt2 : y < M
      · go_wp2
        go_round
        case rel => exact ⟨k + 1, by omega, by go_num, congrArg (Value.int .i64) (by rw [HS.out, HM.out]; omega)⟩
        case measure => simp [intOf]; omega
      · go_wp2
        go_round
        case rel => exact ⟨k + 1, by omega, by go_num, congrArg (Value.int .i64) (by rw [HS.out, HM.out]; omega)⟩
        case measure => simp [intOf]; omega
    · go_wp2
      go_ret
      refine ⟨congrArg (fun z => Ending.returned (.int .i64 z)) ?_, Below.refl _ _⟩
      rw [List.take_of_length_le (by rw [Hn.out]; omega), HP.out]
      show leastFold (min p0.2 p0.2) r0 = leastFold p0.2 r0
      rw [Int.min_self]

/-- The most of per times At less t, over the ticks below k. -/
def BestIs (per : Int) (ls : List (Int × Int)) (k best : Int) : Prop :=
  (k = 0 ∧ best = 0) ∨ (0 < k ∧ (∀ s, 0 ≤ s → s < k → per * curveAt s ls - s ≤ best) ∧ ∃ s, 0 ≤ s ∧ s < k ∧ best = per * curveAt s ls - s)

theorem best_zero (per : Int) (ls : List (Int × Int)) : BestIs per ls 1 (per * curveAt 0 ls) := by
  refine .inr ⟨by decide, fun s s0 s1 => ?_, 0, by decide, by decide, by omega⟩
  have e : s = 0 := by omega
  subst e
  omega
theorem at_small {per t : Int} {ls : List (Int × Int)} (h : okCurve ls) (p1 : 1 ≤ per) (p2 : per ≤ 1000) (t0 : 0 ≤ t) (t1 : t ≤ 130000) : 0 ≤ per * curveAt t ls ∧ per * curveAt t ls ≤ 13020000000 := by
  obtain ⟨p, hp, e⟩ := curveAt_is t ls h.1
  have hb := curveAt_bd t ls h t0 (by omega)
  have hok := okLine_true (h.2.2 p hp)
  have a1 := Int.mul_le_mul_of_nonneg_left t1 hok.2.2.1
  have a2 : curveAt t ls ≤ 13020000 := by rw [e]; unfold lineAt; omega
  have a3 := Int.mul_le_mul_of_nonneg_right p2 (show 0 ≤ curveAt t ls by omega)
  exact ⟨Int.mul_nonneg (by omega) (by omega), by omega⟩

set_option maxHeartbeats 1000000 in
theorem delayOf_none (a : Option Addr) (cap : Nat) (ls : List (Int × Int)) (per : Int) (w : World) (hl : Lies w a ls) (h : LinkOk ls per) (hn : 1000 < leastR ls * per) :
    Calls Tryd.prog 34 #[.slice a ls.length cap, .int .i64 per, .int .i64 130000] w fun e w' => e = .returned (.tuple #[.int .i64 0, .bool false]) ∧ Below w.heap.size w w' := by
  have HL : Hid (Lies w a ls) := hl
  have HK : Hid (LinkOk ls per) := h
  obtain ⟨r1, r2⟩ := rate_bd h
  clear hl h
  go_enter Tryd.func34, Tryd.ntmps34
  go_wp2_with fail
  refine (refLeast_ok a cap ls _ HL.out HK.out.1).mono ?_
  rintro e w1 ⟨rfl, hb⟩
  have HB : Hid (Below w.heap.size w w1) := hb
  clear hb
  go_wp2_with fail
  go_ret2
  exact ⟨rfl, HB.out⟩

set_option maxHeartbeats 1000000 in
theorem delayOf_ok (a : Option Addr) (cap : Nat) (ls : List (Int × Int)) (per : Int) (w : World) (hl : Lies w a ls) (h : LinkOk ls per) (hn : leastR ls * per ≤ 1000) :
    Calls Tryd.prog 34 #[.slice a ls.length cap, .int .i64 per, .int .i64 130000] w fun e w' => ∃ best, e = .returned (.tuple #[.int .i64 best, .bool true]) ∧ BestIs per ls 130001 best ∧ Below w.heap.size w w' := by
  have HL : Hid (Lies w a ls) := hl
  have HK : Hid (LinkOk ls per) := h
  obtain ⟨r1, r2⟩ := rate_bd h
  obtain ⟨_, p1, p2⟩ := h
  clear hl
  go_enter Tryd.func34, Tryd.ntmps34
  go_wp2_with fail
  refine (refLeast_ok a cap ls _ HL.out HK.out.1).mono ?_
  rintro e w1 ⟨rfl, hb⟩
  have HB1 : Hid (Below w.heap.size w w1) := hb
  clear hb
  go_wp2_with fail
  clear r1 r2 hn
  go_loopw [8, 9] (fun m i wr => ∃ k best : Int, 0 ≤ k ∧ k ≤ 130001 ∧ i = .int .i64 k ∧ m = .int .i64 best ∧ BestIs per ls k best ∧ Below w.heap.size w wr) (fun _ i _ => (130001 - intOf i).toNat)
  case atStart => exact ⟨0, 0, by decide, by decide, rfl, rfl, .inl ⟨rfl, rfl⟩, HB1.out⟩
  case round =>
    obtain ⟨k, best, k0, k1, rfl, rfl, hbest, hbr⟩ := hrel
    have HBR : Hid (Below w.heap.size w wr) := hbr
    have HX : Hid (BestIs per ls k best) := hbest
    clear hbr hbest
    by_cases hk : k ≤ 130000
    · obtain ⟨n0, n1⟩ := at_small HK.out.1 p1 p2 k0 hk
      by_cases hk0 : k = 0
      · subst hk0
        go_wp2_with fail
        refine (atOf_ok a cap ls 0 _ (HL.out.below HBR.out) HK.out.1 (by decide) (by decide)).mono ?_
        rintro e w2 ⟨rfl, hb2⟩
        have HB2 : Hid (Below w.heap.size w w2) := HBR.out.trans (hb2.mono HBR.out.size)
        have HY : Hid (BestIs per ls 1 (per * curveAt 0 ls)) := best_zero per ls
        clear hb2
        generalize curveAt 0 ls = M at *
        go_wp2_with fail
        go_roundw
        case rel => exact ⟨1, per * M, by decide, by decide, rfl, by go_num, HY.out, HB2.out⟩
        case measure => simp [intOf]
      · have hne : (k == 0) = false := by simpa using hk0
        have HN : Hid (∀ s, 0 ≤ s → s < k → per * curveAt s ls - s ≤ best) := by
          rcases HX.out with ⟨h, _⟩ | ⟨_, h, _⟩
          · exact absurd h hk0
          · exact h
        have HN2 : Hid (∃ s, 0 ≤ s ∧ s < k ∧ best = per * curveAt s ls - s) := by
          rcases HX.out with ⟨h, _⟩ | ⟨_, _, h⟩
          · exact absurd h hk0
          · exact h
        have hbb : -130000 ≤ best ∧ best ≤ 13020000000 := by
          obtain ⟨s, s0, s1, e⟩ := HN2.out
          have := at_small HK.out.1 p1 p2 s0 (by omega)
          omega
        by_cases hgt : best < per * curveAt k ls - k
        · have HY : Hid (BestIs per ls (k + 1) (per * curveAt k ls - k)) := .inr ⟨by omega, fun s s0 s1 => by
              rcases Int.lt_or_le s k with h | h
              · have := HN.out s s0 h; omega
              · have e : s = k := by omega
                subst e; omega, k, k0, by omega, rfl⟩
          go_wp2_with fail
          refine (atOf_ok a cap ls k _ (HL.out.below HBR.out) HK.out.1 k0 (by omega)).mono ?_
          rintro e w2 ⟨rfl, hb2⟩
          have HB2 : Hid (Below w.heap.size w w2) := HBR.out.trans (hb2.mono HBR.out.size)
          clear hb2
          generalize curveAt k ls = M at *
          go_wp2_with fail
          go_roundw
          case rel => exact ⟨k + 1, per * M - k, by omega, by omega, rfl, rfl, HY.out, HB2.out⟩
          case measure => simp [intOf]; omega
        · have HY : Hid (BestIs per ls (k + 1) best) := .inr ⟨by omega, fun s s0 s1 => by
              rcases Int.lt_or_le s k with h | h
              · exact HN.out s s0 h
              · have e : s = k := by omega
                subst e; omega, by
              obtain ⟨s, s0, s1, e⟩ := HN2.out
              exact ⟨s, s0, by omega, e⟩⟩
          go_wp2_with fail
          refine (atOf_ok a cap ls k _ (HL.out.below HBR.out) HK.out.1 k0 (by omega)).mono ?_
          rintro e w2 ⟨rfl, hb2⟩
          have HB2 : Hid (Below w.heap.size w w2) := HBR.out.trans (hb2.mono HBR.out.size)
          clear hb2
          generalize curveAt k ls = M at *
          go_wp2_with fail
          go_roundw
          case rel => exact ⟨k + 1, best, by omega, by omega, rfl, rfl, HY.out, HB2.out⟩
          case measure => simp [intOf]; omega
    · have e : k = 130001 := by omega
      subst e
      go_wp2_with fail
      go_ret2
      exact ⟨best, rfl, HX.out, HBR.out⟩

set_option maxHeartbeats 1000000 in
theorem busyOf_none (a : Option Addr) (cap : Nat) (ls : List (Int × Int)) (per : Int) (w : World) (hl : Lies w a ls) (h : LinkOk ls per) (hn : 1000 ≤ leastR ls * per) :
    Calls Tryd.prog 35 #[.slice a ls.length cap, .int .i64 per] w fun e w' => e = .returned (.tuple #[.int .i64 0, .bool false]) ∧ Below w.heap.size w w' := by
  have HL : Hid (Lies w a ls) := hl
  have HK : Hid (LinkOk ls per) := h
  obtain ⟨r1, r2⟩ := rate_bd h
  clear hl h
  go_enter Tryd.func35, Tryd.ntmps35
  go_wp2_with fail
  refine (refLeast_ok a cap ls _ HL.out HK.out.1).mono ?_
  rintro e w1 ⟨rfl, hb⟩
  have HB : Hid (Below w.heap.size w w1) := hb
  clear hb
  go_wp2_with fail
  go_ret2
  exact ⟨rfl, HB.out⟩

set_option maxHeartbeats 1000000 in
theorem busyOf_ok (a : Option Addr) (cap : Nat) (ls : List (Int × Int)) (per n : Int) (w : World) (hl : Lies w a ls) (h : LinkOk ls per) (hn : leastR ls * per < 1000) (hB : BusyIs per ls n) :
    Calls Tryd.prog 35 #[.slice a ls.length cap, .int .i64 per] w fun e w' => e = .returned (.tuple #[.int .i64 (per * n), .bool true]) ∧ Below w.heap.size w w' := by
  have HL : Hid (Lies w a ls) := hl
  have HK : Hid (LinkOk ls per) := h
  have HX : Hid (BusyIs per ls n) := hB
  obtain ⟨r1, r2⟩ := rate_bd h
  obtain ⟨_, p1, p2⟩ := h
  have b1 : 1 ≤ per * n := by
    have := Int.mul_le_mul_of_nonneg_left hB.one (show 0 ≤ per by omega)
    omega
  have b2 := hB.most
  have hend : ∀ x, x ≤ per * n → per * curveAt x ls ≤ per * n := fun x hx => by
    have q : curveAt (per * n) ls ≤ n := of_decide_eq_true HX.out.is_
    have m := curve_mono ls HK.out.1 x (per * n) hx
    exact Int.mul_le_mul_of_nonneg_left (by omega) (by omega)
  have hless : ∀ x, 1 ≤ x → x < per * n → x < per * curveAt x ls := fun x h1 h2 => busy_least HK.out.1 p1 h1 HX.out.least h2 (by omega)
  obtain ⟨B, hBe⟩ : ∃ B, per * n = B := ⟨_, rfl⟩
  rw [hBe] at b1 b2 hend hless
  rw [hBe]
  have HN : Hid (∀ x, x ≤ B → per * curveAt x ls ≤ B) := hend
  have HM : Hid (∀ x, 1 ≤ x → x < B → x < per * curveAt x ls) := hless
  clear hl hB hend hless hBe
  go_enter Tryd.func35, Tryd.ntmps35
  go_wp2_with fail
  refine (refLeast_ok a cap ls _ HL.out HK.out.1).mono ?_
  rintro e w1 ⟨rfl, hb⟩
  have HB1 : Hid (Below w.heap.size w w1) := hb
  clear hb
  go_wp2_with fail
  clear r1 r2 hn
  go_loopw [6] (fun i wr => ∃ x : Int, i = .int .i64 x ∧ 1 ≤ x ∧ x ≤ B ∧ Below w.heap.size w wr) (fun i _ => (B - intOf i).toNat)
  case atStart => exact ⟨1, rfl, by decide, b1, HB1.out⟩
  case round =>
    obtain ⟨x, rfl, x1, x2, hbr⟩ := hrel
    have HBR : Hid (Below w.heap.size w wr) := hbr
    clear hbr
    have c1 := HN.out x x2
    have c0 : 0 ≤ per * curveAt x ls := Int.mul_nonneg (by omega) (by have := (curveAt_bd x ls HK.out.1 (by omega) (by omega)).1; omega)
    have HC : Hid (x < B → x < per * curveAt x ls) := HM.out x x1
    go_wp2_with fail
    refine (atOf_ok a cap ls x _ (HL.out.below HBR.out) HK.out.1 (by omega) (by omega)).mono ?_
    rintro e w2 ⟨rfl, hb2⟩
    have HB2 : Hid (Below w.heap.size w w2) := HBR.out.trans (hb2.mono HBR.out.size)
    clear hb2
    generalize curveAt x ls = M at *
    by_cases hle : per * M ≤ x
    · have e : x = B := by
        rcases Int.lt_or_le x B with h | h
        · have := HC.out h; omega
        · omega
      subst e
      go_wp2_with fail
      go_ret2
      exact ⟨rfl, HB2.out⟩
    · go_wp2_with fail
      go_roundw
      case rel => exact ⟨per * M, rfl, by omega, c1, HB2.out⟩
      case measure => simp [intOf]; omega
end Go.Proofs.YtcldgpbimaoliaaDoor
