/- Walks: package bucket's Check of packets. -/
import Derived.Test.YtcldgpbimaoliaaDoorPkts1
import Derived.Test.YtcldgpbimaoliaaDoorTicks
namespace Go.Proofs.YtcldgpbimaoliaaDoor
open Go.RowKit

theorem okPk_false {p : Pk} (h : okPk p = false) : ¬ (0 ≤ p.flow ∧ p.flow < 8 ∧ 1 ≤ p.size ∧ p.size ≤ 1500 ∧ 0 ≤ p.tick ∧ p.tick ≤ 1099511627776) := of_decide_eq_false h

set_option maxHeartbeats 400000 in
theorem isPacket_core (x y z : Int) (s t : Bool) (w : World) (HS : Hid (∀ w', Calls Tryd.prog 92 #[.int .i64 y] w' fun e w'' => e = .returned (.bool s) ∧ w'' = w')) (HT : Hid (∀ w', Calls Tryd.prog 93 #[.int .i64 z] w' fun e w'' => e = .returned (.bool t) ∧ w'' = w')) :
    Calls Tryd.prog 73 #[.agg #[.int .i64 x, .int .i64 y, .int .i64 z]] w fun e w' => e = .returned (.bool (decide (0 ≤ x) && decide (x < 8) && s && t)) ∧ w' = w.alloc (.cells #[.int .i64 x, .int .i64 y, .int .i64 z] 76) := by
  by_cases h1 : 0 ≤ x
  · by_cases h2 : x < 8
    · rw [show (decide (0 ≤ x) && decide (x < 8) && s && t) = (s && t) by simp [h1, h2]]
      cases s with
      | false =>
        go_enter Tryd.func73, Tryd.ntmps73
        go_wp2_with (first
          | (go_at_call 92; refine (HS.out _).mono ?_; rintro e w1 ⟨rfl, rfl⟩)
          | (go_at_call 93; refine (HT.out _).mono ?_; rintro e w1 ⟨rfl, rfl⟩))
        go_ret
        exact ⟨rfl, rfl⟩
      | true =>
        cases t with
        | false =>
          go_enter Tryd.func73, Tryd.ntmps73
          go_wp2_with (first
            | (go_at_call 92; refine (HS.out _).mono ?_; rintro e w1 ⟨rfl, rfl⟩)
            | (go_at_call 93; refine (HT.out _).mono ?_; rintro e w1 ⟨rfl, rfl⟩))
          go_ret
          exact ⟨rfl, rfl⟩
        | true =>
          go_enter Tryd.func73, Tryd.ntmps73
          go_wp2_with (first
            | (go_at_call 92; refine (HS.out _).mono ?_; rintro e w1 ⟨rfl, rfl⟩)
            | (go_at_call 93; refine (HT.out _).mono ?_; rintro e w1 ⟨rfl, rfl⟩))
          go_ret
          exact ⟨rfl, rfl⟩
    · rw [show (decide (0 ≤ x) && decide (x < 8) && s && t) = false by simp [h2]]
      go_enter Tryd.func73, Tryd.ntmps73
      go_wp2
      go_ret
      exact ⟨rfl, rfl⟩
  · rw [show (decide (0 ≤ x) && decide (x < 8) && s && t) = false by simp [h1]]
    go_enter Tryd.func73, Tryd.ntmps73
    go_wp2
    go_ret
    exact ⟨rfl, rfl⟩
theorem isPacket_any (p : Pk) (w : World) :
    Calls Tryd.prog 73 #[.agg #[.int .i64 p.flow, .int .i64 p.size, .int .i64 p.tick]] w fun e w' => e = .returned (.bool (okPk p)) ∧ w' = w.alloc (.cells #[.int .i64 p.flow, .int .i64 p.size, .int .i64 p.tick] 76) := by
  have h := isPacket_core p.flow p.size p.tick _ _ w (fun w' => isSize_any p.size w') (fun w' => isTick_any p.tick w')
  rw [show (decide (0 ≤ p.flow) && decide (p.flow < 8) && decide (1 ≤ p.size ∧ p.size ≤ 1500) && decide (0 ≤ p.tick ∧ p.tick ≤ 1099511627776)) = okPk p by
    unfold okPk
    simp only [Bool.decide_and, Bool.and_assoc]] at h
  exact h

/-- Right up to number j. -/
def goodTo (ps : List Pk) (j : Nat) : Prop := ∀ (i : Nat) q, i < j → ps[i]? = some q → okPk q = true ∧ ahead ps i ≤ q.tick
theorem ahead_succ {ps : List Pk} {k : Nat} {p : Pk} (h : ps[k]? = some p) : ahead ps (k + 1) = p.tick := by simp only [ahead]; rw [h]

set_option maxHeartbeats 400000 in
theorem pcheck_long (a : Option Addr) (n cap : Nat) (w : World) (ad : Nat → Addr) (he : ErrsBO w ad) (hm : n ≤ maxLen) (h : 300 < n) :
    Calls Tryd.prog 43 #[.slice a n cap] w fun e w' => e = .returned (.iface 98 (.pointer (some (ad 1)))) ∧ w' = w := by
  unfold maxLen at hm
  have e1 := he.c1
  go_enter Tryd.func43, Tryd.ntmps43
  go_wp2
  go_ret
  exact ⟨rfl, rfl⟩

set_option maxHeartbeats 400000 in
theorem pcheck_ok (a : Option Addr) (cap : Nat) (ps : List Pk) (w : World) (hl : LiesP w a ps) (h : OkPks ps) :
    Calls Tryd.prog 43 #[.slice a ps.length cap] w fun e w' => e = .returned .nilIface ∧ Below w.heap.size w w' := by
  by_cases h0 : ps = []
  · subst h0
    show Calls Tryd.prog 43 #[.slice a 0 cap] w _
    clear hl
    go_enter Tryd.func43, Tryd.ntmps43
    go_wp2
    refine wp_loop_rounds 1 ?_
    rw [rounds_succ]
    go_wp2
    go_ret
    exact ⟨rfl, Below.refl _ _⟩
  · obtain ⟨b, off, rfl, hlt, hc⟩ := hl.place (by cases ps with | nil => exact absurd rfl h0 | cons p r => simp)
    have HC : Hid (∀ (i : Nat) p, ps[i]? = some p → w.cell? ⟨b, off + i * 3, none⟩ = some (.int .i64 p.flow) ∧ w.cell? ⟨b, off + i * 3 + 1, none⟩ = some (.int .i64 p.size) ∧ w.cell? ⟨b, off + i * 3 + 2, none⟩ = some (.int .i64 p.tick)) := hc
    have HO : Hid (OkPks ps) := h
    have hn300 : ps.length ≤ 300 := h.few
    clear hl h hc h0
    generalize hn : ps.length = n at *
    have Hn := (show Hid (ps.length = n) from hn)
    clear hn
    go_enter Tryd.func43, Tryd.ntmps43
    go_wp2
    go_loopw [3, 12] (fun l i wr => ∃ k : Nat, k ≤ n ∧ i = .int .i64 k ∧ l = .int .i64 (ahead ps k) ∧ Below w.heap.size w wr) (fun _ i _ => n - (intOf i).toNat)
    case atStart => exact ⟨0, Nat.zero_le _, rfl, rfl, Below.refl _ _⟩
    case round =>
      obtain ⟨k, hk, rfl, rfl, hb⟩ := hrel
      have HB : Hid (Below w.heap.size w wr) := hb
      by_cases hkn : k < n
      · obtain ⟨p, hp, -⟩ := get_some ps k (by rw [Hn.out]; exact hkn)
        obtain ⟨d1, d2, d3⟩ := HC.out k p hp
        have hc1 : wr.cell? ⟨b, off + k * 3, none⟩ = some (.int .i64 p.flow) := by rw [hb.cell (p := ⟨b, off + k * 3, none⟩) hlt]; exact d1
        have hc2 : wr.cell? ⟨b, off + k * 3 + 1, none⟩ = some (.int .i64 p.size) := by rw [hb.cell (p := ⟨b, off + k * 3 + 1, none⟩) hlt]; exact d2
        have hc3 : wr.cell? ⟨b, off + k * 3 + 2, none⟩ = some (.int .i64 p.tick) := by rw [hb.cell (p := ⟨b, off + k * 3 + 2, none⟩) hlt]; exact d3
        obtain ⟨o1, o2⟩ := HO.out.each k p hp
        have HA : Hid (ahead ps (k + 1) = p.tick) := ahead_succ hp
        have HP : Hid (∀ w', Calls Tryd.prog 73 #[.agg #[.int .i64 p.flow, .int .i64 p.size, .int .i64 p.tick]] w' fun e w'' => e = .returned (.bool true) ∧ w'' = w'.alloc (.cells #[.int .i64 p.flow, .int .i64 p.size, .int .i64 p.tick] 76)) := fun w' => by
          have := isPacket_any p w'
          rwa [o1] at this
        clear d1 d2 d3 hp o1 hb
        have o2' : ¬ p.tick < ahead ps k := by omega
        generalize ahead ps k = L at *
        generalize p.flow = x at *
        generalize p.size = y at *
        generalize p.tick = z at *
        go_wp2_with (go_at_call 73; refine (HP.out _).mono ?_; rintro e w' ⟨rfl, rfl⟩)
        have hs := HB.out.size
        go_roundw
        case rel => exact ⟨k + 1, by omega, by go_num, by rw [HA.out], (HB.out.alloc hs _).alloc (by simp; omega) _⟩
        case measure => simp [intOf]; omega
      · go_wp2
        go_ret
        exact ⟨rfl, HB.out⟩
end Go.Proofs.YtcldgpbimaoliaaDoor
