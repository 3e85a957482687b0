/- Walks: the longest delay, Delay with its errors. -/
import Derived.Test.YtcldgpbimaoliaaDoorDelay5
import Derived.Test.YtcldgpbimaoliaaDoorAt2
namespace Go.Proofs.YtcldgpbimaoliaaDoor
open Go.RowKit

/-- What a delay is: no tick's bytes take longer; and some byte's do. -/
structure DelayIs (per : Int) (ls : List (Int × Int)) (d : Int) : Prop where
  upper : ∀ t, 0 ≤ t → per * curveAt t ls - t ≤ d
  at_ : ∃ k, d = waitOf per ls k ∧ (miss (lastC k ls).1 k = 0 ∨ 0 < (lastC k ls).2) ∧ 1 ≤ k ∧ k ≤ 20019999 ∧ (turns per ls k = false ∨ turns per ls (k - 1) = false)

theorem turns_not {per k : Int} {ls : List (Int × Int)} (h : okCurve ls) (hk : turns per ls k = false) : miss (lastC k ls).1 k = 0 ∨ 0 < (lastC k ls).2 := by
  have hk' : ¬ (0 < miss (lastC k ls).1 k ∧ (lastC k ls).2 * per ≤ 1000) := of_decide_eq_false hk
  have hok := okLine_true (h.2.2 _ (lastC_mem k ls h.1))
  have mn := miss_nonneg (lastC k ls).1 k
  by_cases hz : miss (lastC k ls).1 k = 0
  · exact .inl hz
  · rcases Int.lt_or_le 0 (lastC k ls).2 with h | h
    · exact .inr h
    · have e : (lastC k ls).2 = 0 := by omega
      exact absurd ⟨by omega, by rw [e, Int.zero_mul]; omega⟩ hk'
theorem delay_one {per T : Int} {ls : List (Int × Int)} (h : okCurve ls) (hper : 1 ≤ per) (hT1 : 2 ≤ T) (hT2 : T ≤ 20019999) (hp : turns per ls T = true) (hq : turns per ls (T - 1) = false) (hz : ¬ 0 < (lastC T ls).2) : DelayIs per ls (waitOf per ls (T - 1)) := by
  refine ⟨fun t ht => ?_, T - 1, rfl, turns_not h hq, by omega, by omega, .inl hq⟩
  rcases Int.lt_or_le (curveAt t ls) T with hlt | hge
  · exact (wait_ahead h hper ht hq (by omega) (Int.le_refl _)).2
  · exact absurd (wait_behind h hp hge (Int.le_refl _)).1 hz
theorem delay_two {per T : Int} {ls : List (Int × Int)} (h : okCurve ls) (hper : 1 ≤ per) (hT1 : 2 ≤ T) (hT2 : T ≤ 20019999) (hp : turns per ls T = true) (hq : turns per ls (T - 1) = false) (hz : 0 < (lastC T ls).2) : DelayIs per ls (max (waitOf per ls (T - 1)) (waitOf per ls T)) := by
  refine ⟨fun t ht => ?_, ?_⟩
  · rcases Int.lt_or_le (curveAt t ls) T with hlt | hge
    · have := (wait_ahead h hper ht hq (n := curveAt t ls) (by omega) (Int.le_refl _)).2
      show per * curveAt t ls - t ≤ max (waitOf per ls (T - 1)) (waitOf per ls T)
      unfold waitOf
      omega
    · have := (wait_behind h hp hge (Int.le_refl _) (t := t)).2
      unfold waitOf
      omega
  · by_cases hm : waitOf per ls (T - 1) ≤ waitOf per ls T
    · exact ⟨T, by omega, .inr hz, by omega, by omega, .inr hq⟩
    · exact ⟨T - 1, by omega, turns_not h hq, by omega, by omega, .inl hq⟩
theorem wait_bd {per n : Int} {ls : List (Int × Int)} (h : okCurve ls) (p1 : 1 ≤ per) (p2 : per ≤ 1000) (n0 : 0 ≤ n) (n1 : n ≤ 20020000) (hk : miss (lastC n ls).1 n = 0 ∨ 0 < (lastC n ls).2) : -20020100000 ≤ waitOf per ls n ∧ waitOf per ls n ≤ 20020000000 := by
  obtain ⟨b1, b2⟩ := per_bd p1 p2 n0 n1
  have hok := okLine_true (h.2.2 _ (lastC_mem n ls h.1))
  have := comes_bd (x := (lastC n ls).1) (y := (lastC n ls).2) hok.1 hok.2.2.1 hok.2.2.2 n0 n1 hk
  have e : ((lastC n ls).1, (lastC n ls).2) = lastC n ls := rfl
  rw [e] at this
  unfold waitOf
  omega

theorem Tryd.fieldRate (x y : Value) (w : World) : (Instr.field 54 (.agg #[x, y]) 1).run Tryd.prog w = .ok y w := by kernel_rfl

set_option maxRecDepth 100000 in
set_option maxHeartbeats 1000000 in
theorem longest_ok (a : Option Addr) (cap : Nat) (ls : List (Int × Int)) (per : Int) (w : World) (hl : Lies w a ls) (h : okCurve ls) (hcap : ls.length ≤ cap) (hm : cap ≤ maxLen) (p1 : 1 ≤ per) (p2 : per ≤ 1000) (hs : leastR ls * per ≤ 1000) :
    Calls Tryd.prog 65 #[.slice a ls.length cap, .int .i64 per] w fun e w' => ∃ d, e = .returned (.int .i64 d) ∧ DelayIs per ls d ∧ Below w.heap.size w w' := by
  have HK : Hid (okCurve ls) := h
  have Hc : Hid (ls.length ≤ cap ∧ cap ≤ maxLen) := ⟨hcap, hm⟩
  have hbW : Below w.heap.size w ((w.alloc (.cells #[.slice a ls.length cap] 35)).alloc (.cells #[.int .i64 per] 3)) := ((Below.refl _ _).alloc (Nat.le_refl _) _).alloc (by simp) _
  have c1 : ((w.alloc (.cells #[.slice a ls.length cap] 35)).alloc (.cells #[.int .i64 per] 3)).cell? ⟨w.heap.size, 0, none⟩ = some (.slice a ls.length cap) := by simp
  have c2 : ((w.alloc (.cells #[.slice a ls.length cap] 35)).alloc (.cells #[.int .i64 per] 3)).cell? ⟨w.heap.size + 1, 0, none⟩ = some (.int .i64 per) := by simp
  have HF : Hid (turns per ls 20019999 = true) := turns_far h p1 hs
  have HO : Hid (turns per ls 1 = false) := turns_one h
  have HL0 := hl.below hbW
  have fl := Tryd.fieldRate
  go_enter Tryd.func65, Tryd.ntmps65
  go_wp2_with fail
  generalize (w.alloc (.cells #[.slice a ls.length cap] 35)).alloc (.cells #[.int .i64 per] 3) = W at *
  have HBW : Hid (Below w.heap.size w W) := hbW
  have HL : Hid (Lies W a ls) := HL0
  have H1 : Hid (W.cell? ⟨w.heap.size, 0, none⟩ = some (.slice a ls.length cap)) := c1
  have H2 : Hid (W.cell? ⟨w.heap.size + 1, 0, none⟩ = some (.int .i64 per)) := c2
  clear hbW HL0 c1 c2 hl h hcap hm hs
  refine (first_turn 1 20020000 (.pointer (some ⟨w.heap.size, 0, none⟩)) (.pointer (some ⟨w.heap.size + 1, 0, none⟩)) (turns per ls) W W (Below.refl _ _) (by decide) (by decide) (by decide)
    (fun n W' h1 h2 hb => turn_call a cap ls per n W' w.heap.size (w.heap.size + 1) (cell_later hb H1.out) (cell_later hb H2.out) (HL.out.below hb) HK.out Hc.out.1 Hc.out.2 p1 p2 (by omega) (by omega))).mono ?_
  rintro e w1 ⟨T, rfl, t1, t2, t3, t4, hb1⟩
  have hT1 : 2 ≤ T := by
    rcases Int.lt_or_le T 2 with h | h
    · have e1 : T = 1 := by omega
      subst e1
      rcases t3 with t3 | t3
      · omega
      · rw [HO.out] at t3; cases t3
    · exact h
  have t4' : turns per ls (T - 1) = false := by
    rcases t4 with t4 | t4
    · omega
    · exact t4
  have hT2 : T ≤ 20019999 := by
    rcases Int.lt_or_le 20019999 T with h | h
    · have e1 : T = 20020000 := by omega
      subst e1
      rw [show (20020000 : Int) - 1 = 20019999 from rfl, HF.out] at t4'
      cases t4'
    · exact h
  have t3' : turns per ls T = true := by
    rcases t3 with t3 | t3
    · omega
    · exact t3
  have HP : Hid (turns per ls T = true) := t3'
  have HQ : Hid (turns per ls (T - 1) = false) := t4'
  have HB1 : Hid (Below W.heap.size W w1) := hb1
  have hk1 := turns_not HK.out t4'
  have hw1 := wait_bd (n := T - 1) HK.out p1 p2 (by omega) (by omega) hk1
  have HK1 : Hid (miss (lastC (T - 1) ls).1 (T - 1) = 0 ∨ 0 < (lastC (T - 1) ls).2) := hk1
  have d1 := cell_later hb1 H1.out
  have d2 := cell_later hb1 H2.out
  clear t3 t4 t3' t4' hk1 hb1
  go_wp2_with fail
  refine (wait_ok a cap ls per (T - 1) _ (HL.out.below HB1.out) HK.out Hc.out.1 Hc.out.2 p1 p2 (by omega) (by omega) HK1.out).mono ?_
  rintro e w2 ⟨rfl, hb2⟩
  have HB2 : Hid (Below W.heap.size W w2) := HB1.out.trans (hb2.mono HB1.out.size)
  have e1 := cell_later HB2.out H1.out
  have e2 := cell_later HB2.out H2.out
  clear hb2 d1 d2
  go_wp2_with fail
  refine (last_ok a cap ls T _ (HL.out.below HB2.out) HK.out Hc.out.1 Hc.out.2 (by omega) (by omega)).mono ?_
  rintro e w3 ⟨rfl, hb3⟩
  have HB3 : Hid (Below W.heap.size W w3) := HB2.out.trans (hb3.mono HB2.out.size)
  have f1 := cell_later HB3.out H1.out
  have f2 := cell_later HB3.out H2.out
  clear hb3 e1 e2
  by_cases hr : 0 < (lastC T ls).2
  · have hw2 := wait_bd (n := T) HK.out p1 p2 (by omega) (by omega) (.inr hr)
    have HR : Hid (0 < (lastC T ls).2) := hr
    go_wp2_with fail
    refine (wait_ok a cap ls per T _ (HL.out.below HB3.out) HK.out Hc.out.1 Hc.out.2 p1 p2 (by omega) (by omega) (.inr HR.out)).mono ?_
    rintro e w4 ⟨rfl, hb4⟩
    have HB4 : Hid (Below W.heap.size W w4) := HB3.out.trans (hb4.mono HB3.out.size)
    clear hb4 f1 f2
    have HX : Hid (DelayIs per ls (max (waitOf per ls (T - 1)) (waitOf per ls T))) := delay_two HK.out p1 hT1 hT2 HP.out HQ.out HR.out
    go_wp2_with fail
    all_goals
      go_ret
      refine ⟨_, congrArg (fun z => Ending.returned (.int .i64 z)) ?_, HX.out, HBW.out.trans (HB4.out.mono HBW.out.size)⟩
      first | exact max_if _ _ | omega
  · have HX : Hid (DelayIs per ls (waitOf per ls (T - 1))) := delay_one HK.out p1 hT1 hT2 HP.out HQ.out hr
    go_wp2_with fail
    go_ret
    exact ⟨_, rfl, HX.out, HBW.out.trans (HB3.out.mono HBW.out.size)⟩
end Go.Proofs.YtcldgpbimaoliaaDoor
