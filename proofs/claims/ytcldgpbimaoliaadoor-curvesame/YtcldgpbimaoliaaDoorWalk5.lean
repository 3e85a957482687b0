/- Walks: package curve's At; the reference's LineError; the law's closed fact. -/
import Derived.Test.YtcldgpbimaoliaaDoorWalk4
namespace Go.Proofs.YtcldgpbimaoliaaDoor
open Go.RowKit


set_option maxHeartbeats 400000 in
theorem at_ok (a : Option Addr) (cap : Nat) (ls : List (Int × Int)) (t : Int) (w : World) (hl : Lies w a ls) (h : okCurve ls) (hcap : ls.length ≤ cap) (hm : cap ≤ maxLen) (t0 : 0 ≤ t) (t1 : t ≤ 1099511627776) :
    Calls Tryd.prog 20 #[.slice a ls.length cap, .int .i64 t] w fun e w' => e = .returned (.tuple #[.int .i64 (curveAt t ls), .nilIface]) ∧ Below w.heap.size w w' := by
  have HL : Hid (Lies w a ls) := hl
  have HO : Hid (okCurve ls) := h
  have Hc : Hid (ls.length ≤ cap ∧ cap ≤ maxLen) := ⟨hcap, hm⟩
  clear hl h hcap hm
  go_enter Tryd.func20, Tryd.ntmps20
  go_wp2_with fail
  refine (check_ok a cap ls _ HL.out HO.out).mono ?_
  rintro e w1 ⟨rfl, hb⟩
  have HB : Hid (Below w.heap.size w w1) := hb
  clear hb
  go_wp2_with fail
  refine (bytesAt_ok a cap ls t _ (HL.out.below HB.out) HO.out Hc.out.1 Hc.out.2 t0 t1).mono ?_
  rintro e w2 ⟨rfl, hb2⟩
  go_wp2_with fail
  go_ret2
  exact ⟨rfl, HB.out.trans (hb2.mono HB.out.size)⟩

/-- At tells Check's error. -/
theorem at_err {R : TypeId → Value → World → Prop} (a : Option Addr) (n cap : Nat) (t : Int) (w : World)
    (hc : Calls Tryd.prog 24 #[.slice a n cap] w fun e w' => ∃ ty p, e = .returned (.iface ty p) ∧ R ty p w') :
    Calls Tryd.prog 20 #[.slice a n cap, .int .i64 t] w fun e w' => ∃ ty p, e = .returned (.tuple #[.int .i64 0, .iface ty p]) ∧ R ty p w' := by
  have HC : Hid (Calls Tryd.prog 24 #[.slice a n cap] w fun e w' => ∃ ty p, e = .returned (.iface ty p) ∧ R ty p w') := hc
  clear hc
  go_enter Tryd.func20, Tryd.ntmps20
  go_wp2_with fail
  refine HC.out.mono ?_
  rintro e w1 ⟨ty, p, rfl, hR⟩
  have HR : Hid (R ty p w1) := hR
  clear hR
  go_wp2_with fail
  go_ret2
  exact ⟨ty, p, rfl, HR.out⟩

set_option maxHeartbeats 400000 in
theorem at_time (a : Option Addr) (cap : Nat) (ls : List (Int × Int)) (t : Int) (w : World) (aB : Addr) (hB : w.cell? ⟨1, 0, none⟩ = some (.iface 98 (.pointer (some aB)))) (hl : Lies w a ls) (h : okCurve ls) (ht : t < 0 ∨ 1099511627776 < t) :
    Calls Tryd.prog 20 #[.slice a ls.length cap, .int .i64 t] w fun e w' => e = .returned (.tuple #[.int .i64 0, .iface 98 (.pointer (some aB))]) ∧ Below w.heap.size w w' := by
  have HL : Hid (Lies w a ls) := hl
  have HO : Hid (okCurve ls) := h
  have hlt := cell_lt hB
  clear hl h
  rcases ht with ht | ht
  · go_enter Tryd.func20, Tryd.ntmps20
    go_wp2_with fail
    refine (check_ok a cap ls _ HL.out HO.out).mono ?_
    rintro e w1 ⟨rfl, hb⟩
    have HB : Hid (Below w.heap.size w w1) := hb
    have hB1 : w1.cell? ⟨1, 0, none⟩ = some (.iface 98 (.pointer (some aB))) := by rw [hb.cell (p := ⟨1, 0, none⟩) hlt]; exact hB
    clear hb hB
    go_wp2_with fail
    go_quiet (fail)
    go_wp2_with fail
    go_ret2
    exact ⟨rfl, below_drewN HB.out _⟩
  · have ht' : ¬ t < 0 := by omega
    go_enter Tryd.func20, Tryd.ntmps20
    go_wp2_with fail
    refine (check_ok a cap ls _ HL.out HO.out).mono ?_
    rintro e w1 ⟨rfl, hb⟩
    have HB : Hid (Below w.heap.size w w1) := hb
    have hB1 : w1.cell? ⟨1, 0, none⟩ = some (.iface 98 (.pointer (some aB))) := by rw [hb.cell (p := ⟨1, 0, none⟩) hlt]; exact hB
    clear hb hB
    go_wp2_with fail
    go_quiet (fail)
    go_wp2_with fail
    go_ret2
    exact ⟨rfl, below_drewN HB.out _⟩

/-- Which line is the first that is none. -/
theorem firstBad (ls : List (Int × Int)) : okAll ls ∨ ∃ j, j < ls.length ∧ (∀ i x y, i < j → ls[i]? = some (x, y) → okLine x y = true) ∧ ∀ x y, ls[j]? = some (x, y) → okLine x y = false := by
  induction ls with
  | nil => exact .inl fun p hp => by cases hp
  | cons q r ih =>
    cases hq : okLine q.1 q.2 with
    | false => exact .inr ⟨0, by simp, fun i x y hi => by omega, fun x y h => by simp at h; subst h; exact hq⟩
    | true =>
      rcases ih with h | ⟨j, hj, h1, h2⟩
      · refine .inl fun p hp => ?_
        rcases List.mem_cons.1 hp with rfl | hp
        · exact hq
        · exact h p hp
      · refine .inr ⟨j + 1, by simpa using hj, fun i x y hi he => ?_, fun x y he => h2 x y (by simpa using he)⟩
        cases i with
        | zero => simp at he; subst he; exact hq
        | succ i => exact h1 i x y (by omega) (by simpa using he)

/-- The variables of package api that hold two errors. -/
structure Errs2 (w : World) (aB aS : Addr) : Prop where
  bound : w.cell? ⟨1, 0, none⟩ = some (.iface 98 (.pointer (some aB)))
  shape : w.cell? ⟨2, 0, none⟩ = some (.iface 98 (.pointer (some aS)))
theorem Errs2.below {w w' : World} {aB aS : Addr} (h : Errs2 w aB aS) (hb : Below w.heap.size w w') : Errs2 w' aB aS :=
  ⟨cell_later hb h.bound, cell_later hb h.shape⟩

/-- Check, whatever the lines: an error or none. -/
theorem check_any (a : Option Addr) (cap : Nat) (ls : List (Int × Int)) (w : World) (aB aS : Addr) (he : Errs2 w aB aS) (hl : Lies w a ls) (hcap : ls.length ≤ cap) (hm : cap ≤ maxLen) :
    (okCurve ls ∧ Calls Tryd.prog 24 #[.slice a ls.length cap] w fun e w' => e = .returned .nilIface ∧ Below w.heap.size w w') ∨
    (¬ okCurve ls ∧ Calls Tryd.prog 24 #[.slice a ls.length cap] w fun e w' => ∃ ty p, e = .returned (.iface ty p) ∧ Below w.heap.size w w') := by
  by_cases hs : ls.length < 1 ∨ 6 < ls.length
  · refine .inr ⟨fun h => by have := h.1; have := h.2.1; omega, (check_shape a ls.length cap w _ he.shape (Nat.le_trans hcap hm) hs).mono ?_⟩
    rintro e w' ⟨rfl, rfl⟩
    exact ⟨_, _, rfl, Below.refl _ _⟩
  · rcases firstBad ls with h | ⟨j, hj, h1, h2⟩
    · have hk : okCurve ls := ⟨by omega, by omega, h⟩
      exact .inl ⟨hk, check_ok a cap ls w hl hk⟩
    · refine .inr ⟨fun h => ?_, (check_bad a cap ls w aB he.bound hl (by omega) (by omega) j hj h1 h2).mono ?_⟩
      · have := h.2.2 _ (List.getElem_mem hj)
        rw [h2 _ _ (by rw [List.getElem?_eq_getElem hj])] at this
        cases this
      · rintro e w' ⟨hb, B, rfl, -⟩
        exact ⟨_, _, rfl, hb⟩

/-- At, whatever the lines and the tick: an error or none. -/
theorem at_any (a : Option Addr) (cap : Nat) (ls : List (Int × Int)) (t : Int) (w : World) (aB aS : Addr) (he : Errs2 w aB aS) (hl : Lies w a ls) (hcap : ls.length ≤ cap) (hm : cap ≤ maxLen) :
    (okCurve ls ∧ 0 ≤ t ∧ t ≤ 1099511627776 ∧ Calls Tryd.prog 20 #[.slice a ls.length cap, .int .i64 t] w fun e w' => e = .returned (.tuple #[.int .i64 (curveAt t ls), .nilIface]) ∧ Below w.heap.size w w') ∨
    (¬ (okCurve ls ∧ 0 ≤ t ∧ t ≤ 1099511627776) ∧ Calls Tryd.prog 20 #[.slice a ls.length cap, .int .i64 t] w fun e w' => ∃ ty p, e = .returned (.tuple #[.int .i64 0, .iface ty p]) ∧ Below w.heap.size w w') := by
  rcases check_any a cap ls w aB aS he hl hcap hm with ⟨hk, -⟩ | ⟨hk, hc⟩
  · by_cases ht : 0 ≤ t ∧ t ≤ 1099511627776
    · exact .inl ⟨hk, ht.1, ht.2, at_ok a cap ls t w hl hk hcap hm ht.1 ht.2⟩
    · refine .inr ⟨fun h => ht h.2, (at_time a cap ls t w aB he.bound hl hk (by omega)).mono ?_⟩
      rintro e w' ⟨rfl, hb⟩
      exact ⟨_, _, rfl, hb⟩
  · exact .inr ⟨fun h => hk h.1, at_err (R := fun _ _ w' => Below w.heap.size w w') a ls.length cap t w hc⟩

set_option maxHeartbeats 400000 in
theorem lineError_yes (x y : Int) (w : World) (h : okLine x y = true) :
    Calls Tryd.prog 36 #[.agg #[.int .i64 x, .int .i64 y]] w fun e w' => e = .returned (.int .i64 0) ∧ w' = w.alloc (.cells #[.int .i64 x, .int .i64 y] 54) := by
  obtain ⟨h1, h2, h3, h4⟩ := okLine_true h
  clear h
  go_enter Tryd.func36, Tryd.ntmps36
  go_wp2
  go_ret
  exact ⟨rfl, rfl⟩
set_option maxHeartbeats 400000 in
theorem lineError_no (x y : Int) (w : World) (h : okLine x y = false) :
    Calls Tryd.prog 36 #[.agg #[.int .i64 x, .int .i64 y]] w fun e w' => e = .returned (.int .i64 2) ∧ w' = w.alloc (.cells #[.int .i64 x, .int .i64 y] 54) := by
  have h' : ¬ (1 ≤ x ∧ x ≤ 20000 ∧ 0 ≤ y ∧ y ≤ 100000) := of_decide_eq_false h
  clear h
  by_cases h1 : 1 ≤ x
  · by_cases h2 : x ≤ 20000
    · by_cases h3 : 0 ≤ y
      · have h4 : ¬ y ≤ 100000 := fun h4 => h' ⟨h1, h2, h3, h4⟩
        clear h'
        go_enter Tryd.func36, Tryd.ntmps36
        go_wp2
        go_ret
        exact ⟨rfl, rfl⟩
      · clear h'
        go_enter Tryd.func36, Tryd.ntmps36
        go_wp2
        go_ret
        exact ⟨rfl, rfl⟩
    · clear h'
      go_enter Tryd.func36, Tryd.ntmps36
      go_wp2
      go_ret
      exact ⟨rfl, rfl⟩
  · clear h'
    go_enter Tryd.func36, Tryd.ntmps36
    go_wp2
    go_ret
    exact ⟨rfl, rfl⟩
end Go.Proofs.YtcldgpbimaoliaaDoor
