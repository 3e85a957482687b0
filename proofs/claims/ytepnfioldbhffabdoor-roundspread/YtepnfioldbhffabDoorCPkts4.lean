/- Walks: the reference's PacketsFault. -/
import Derived.Test.YtepnfioldbhffabDoorCAllPkts
namespace Go.Proofs.YtepnfioldbhffabDoor
open Go.RowKit

set_option maxHeartbeats 400000 in
theorem pfault_long (a : Option Addr) (n cap : Nat) (w : World) (hm : n ≤ maxLen) (h : 300 < n) :
    Calls Tryd.prog 30 #[.slice a n cap] w fun e w' => e = .returned (.agg #[.int .i64 2, .int .i64 (-1)]) ∧ Below w.heap.size w w' := by
  unfold maxLen at hm
  have hb0 : Below w.heap.size w (w.alloc (.cells #[.int .i64 0, .int .i64 0] 39)) := (Below.refl _ _).alloc (Nat.le_refl _) _
  go_enter Tryd.func30, Tryd.ntmps30
  go_wp2_with fail
  refine (bare_any 2 _).mono ?_
  rintro e w1 ⟨rfl, hb⟩
  obtain ⟨hc, hc', hf, hf'⟩ := (two_new w _ _ _).later hb
  have HB : Hid (Below w.heap.size w w1) := hb0.trans (hb.mono hb0.size)
  clear hb hb0
  go_wp2_with fail
  exact bodyPost_ret (v := .agg #[.int .i64 2, .int .i64 (-1)]) (by simp [results, Tryd.results30, go_sem, hc, hc']) rfl ⟨rfl, (HB.out.setCell (Nat.le_refl _) _).setCell (Nat.le_refl _) _⟩

/-- The first of the six tests that a packet that is none falls at. -/
theorem pk_six {x y z : Int} (h : okPk ⟨x, y, z⟩ = false) : x < 0 ∨ (¬ x < 0 ∧ 8 ≤ x) ∨ (¬ x < 0 ∧ ¬ 8 ≤ x ∧ y < 1) ∨ (¬ x < 0 ∧ ¬ 8 ≤ x ∧ ¬ y < 1 ∧ 1500 < y) ∨ (¬ x < 0 ∧ ¬ 8 ≤ x ∧ ¬ y < 1 ∧ ¬ 1500 < y ∧ z < 0) ∨ (¬ x < 0 ∧ ¬ 8 ≤ x ∧ ¬ y < 1 ∧ ¬ 1500 < y ∧ ¬ z < 0 ∧ 1099511627776 < z) := by
  have := okPk_false h
  simp only at this
  omega

set_option maxHeartbeats 1000000 in
theorem pfault_all (a : Option Addr) (cap : Nat) (ps : List Pk) (w : World) (hl : LiesP w a ps) (h300 : ps.length ≤ 300) (j : Nat) (hj : j ≤ ps.length) (hg : goodTo ps j) (c p : Int)
    (hend : (j = ps.length ∧ c = 0 ∧ p = -1) ∨ (∃ q k, ps[j]? = some q ∧ PkBad ps j q k ∧ c = k + 1 ∧ p = j)) :
    Calls Tryd.prog 30 #[.slice a ps.length cap] w fun e w' => e = .returned (.agg #[.int .i64 c, .int .i64 p]) ∧ Below w.heap.size w w' := by
  have hb0 : Below w.heap.size w (w.alloc (.cells #[.int .i64 0, .int .i64 0] 39)) := (Below.refl _ _).alloc (Nat.le_refl _) _
  obtain ⟨b, off, hlt, hc, ha⟩ : ∃ b off, (ps = [] ∨ b < w.heap.size) ∧ (∀ (i : Nat) p, ps[i]? = some p → w.cell? ⟨b, off + i * 3, none⟩ = some (.int .i64 p.flow) ∧ w.cell? ⟨b, off + i * 3 + 1, none⟩ = some (.int .i64 p.size) ∧ w.cell? ⟨b, off + i * 3 + 2, none⟩ = some (.int .i64 p.tick)) ∧ (ps = [] ∨ a = some ⟨b, off, none⟩) := by
    rcases hl with rfl | ⟨b, off, e, hlt, hc⟩
    · exact ⟨0, 0, .inl rfl, fun i p h => by simp at h, .inl rfl⟩
    · exact ⟨b, off, .inr hlt, hc, .inr e⟩
  have HC : Hid (∀ (i : Nat) p, ps[i]? = some p → w.cell? ⟨b, off + i * 3, none⟩ = some (.int .i64 p.flow) ∧ w.cell? ⟨b, off + i * 3 + 1, none⟩ = some (.int .i64 p.size) ∧ w.cell? ⟨b, off + i * 3 + 2, none⟩ = some (.int .i64 p.tick)) := hc
  have HA : Hid (ps = [] ∨ a = some ⟨b, off, none⟩) := ha
  have HLT : Hid (ps = [] ∨ b < w.heap.size) := hlt
  have HG : Hid (goodTo ps j) := hg
  have HEnd := (show Hid ((j = ps.length ∧ c = 0 ∧ p = -1) ∨ (∃ q k, ps[j]? = some q ∧ PkBad ps j q k ∧ c = k + 1 ∧ p = j)) from hend)
  clear hl hg hc ha hend hlt
  generalize hn : ps.length = n at *
  have Hn := (show Hid (ps.length = n) from hn)
  clear hn
  go_enter Tryd.func30, Tryd.ntmps30
  go_wp2_with fail
  go_loopw [3] (fun i wr => ∃ q : Nat, q ≤ j ∧ i = .int .i64 q ∧ Below w.heap.size w wr ∧ Two w wr (.int .i64 0) (.int .i64 0)) (fun i _ => n - (intOf i).toNat)
  case atStart => exact ⟨0, Nat.zero_le _, rfl, hb0, two_new w _ _ _⟩
  case round =>
    obtain ⟨q, hq, rfl, hb, h2⟩ := hrel
    have HB : Hid (Below w.heap.size w wr) := hb
    have H2 : Hid (Two w wr (.int .i64 0) (.int .i64 0)) := h2
    have hs := hb.size
    by_cases hqn : q < n
    · have hne : ps ≠ [] := fun e => by have := Hn.out; rw [e] at this; simp at this; omega
      obtain rfl := HA.out.resolve_left hne
      have hlt := HLT.out.resolve_left hne
      obtain ⟨⟨x, y, z⟩, hp, -⟩ := get_some ps q (by rw [Hn.out]; exact hqn)
      obtain ⟨d1, d2, d3⟩ := HC.out q _ hp
      have hc1 : wr.cell? ⟨b, off + q * 3, none⟩ = some (.int .i64 x) := by rw [hb.cell (p := ⟨b, off + q * 3, none⟩) hlt]; exact d1
      have hc2 : wr.cell? ⟨b, off + q * 3 + 1, none⟩ = some (.int .i64 y) := by rw [hb.cell (p := ⟨b, off + q * 3 + 1, none⟩) hlt]; exact d2
      have hc3 : wr.cell? ⟨b, off + q * 3 + 2, none⟩ = some (.int .i64 z) := by rw [hb.cell (p := ⟨b, off + q * 3 + 2, none⟩) hlt]; exact d3
      have HP : Hid (ps[q]? = some ⟨x, y, z⟩) := hp
      clear d1 d2 d3 hp hne
      by_cases hok : okPk ⟨x, y, z⟩ = true
      · have o := okPk_true hok
        simp only at o
        obtain ⟨o1, o2, o3, o4, o5, o6⟩ := o
        have HOk : Hid (okPk ⟨x, y, z⟩ = true) := hok
        have HPrev : Hid (q = 0 ∨ ∃ x' y' z', ps[q - 1]? = some ⟨x', y', z'⟩ ∧ ahead ps q = z' ∧ 1 ≤ q) := by
          rcases Nat.eq_zero_or_pos q with h | h
          · exact .inl h
          · obtain ⟨⟨x', y', z'⟩, hp', -⟩ := get_some ps (q - 1) (by rw [Hn.out]; omega)
            have := ahead_succ hp'
            rw [show q - 1 + 1 = q by omega] at this
            exact .inr ⟨x', y', z', hp', this, h⟩
        clear hok
        rcases HPrev.out with rfl | ⟨x', y', z', hp', hah, hq1⟩
        · have hj0 : 0 < j ∨ j = 0 := by omega
          have HNot : Hid (0 < j) := by
            rcases hj0 with h | rfl
            · exact h
            · rcases HEnd.out with ⟨h, -⟩ | ⟨r, k, hr, hbad, -, -⟩
              · omega
              · obtain rfl : r = ⟨x, y, z⟩ := Option.some.inj (hr.symm.trans HP.out)
                rcases hbad with ⟨h, -⟩ | ⟨-, h, -⟩
                · rw [HOk.out] at h; cases h
                · simp [ahead] at h; omega
          clear hb h2 hb0 hj0 HPrev
          have e1 : wr.cell? ⟨b, off, none⟩ = some (.int .i64 x) := by simpa using hc1
          have e2 : wr.cell? ⟨b, off + 1, none⟩ = some (.int .i64 y) := by simpa using hc2
          have e3 : wr.cell? ⟨b, off + 2, none⟩ = some (.int .i64 z) := by simpa using hc3
          clear hc1 hc2 hc3
          go_wp2_with fail
          go_quiet (fail)
          go_wp2_with fail
          have hj1 := HNot.out
          go_roundw
          case rel => exact ⟨1, by omega, rfl, below_drewN (HB.out.alloc hs _) _, H2.out.later (below_drewN ((Below.refl _ _).alloc (Nat.le_refl _) _) _)⟩
          case measure => simp [intOf]; omega
        · have d3 := (HC.out (q - 1) _ hp').2.2
          have hc4 : wr.cell? ⟨b, off + (q - 1) * 3 + 2, none⟩ = some (.int .i64 z') := by rw [hb.cell (p := ⟨b, off + (q - 1) * 3 + 2, none⟩) hlt]; exact d3
          have hc5 : (wr.alloc (.cells #[.int .i64 x, .int .i64 y, .int .i64 z] 27)).cell? ⟨b, off + (q - 1) * 3 + 2, none⟩ = some (.int .i64 z') := cell_later ((Below.refl _ _).alloc (Nat.le_refl _) _) hc4
          have hqp : 0 < q := by omega
          have hqd : decide ((0 : Int) < (q : Int)) = true := decide_eq_true (by omega)
          clear d3 hp' HPrev
          by_cases hz : z < z'
          · have hzd : decide (z < z') = true := decide_eq_true hz
            have HQ : Hid (q = j ∧ c = 5 ∧ p = q) := by
              by_cases hqj : q < j
              · have := (HG.out q _ hqj HP.out).2
                rw [hah] at this
                simp only at this
                omega
              · obtain rfl : q = j := by omega
                rcases HEnd.out with ⟨h, -⟩ | ⟨r, k, hr, hbad, rfl, rfl⟩
                · omega
                · obtain rfl : r = ⟨x, y, z⟩ := Option.some.inj (hr.symm.trans HP.out)
                  rcases hbad with ⟨h, -⟩ | ⟨-, h, rfl⟩
                  · rw [HOk.out] at h; cases h
                  · exact ⟨rfl, rfl, rfl⟩
            obtain ⟨rfl, rfl, rfl⟩ := HQ.out
            clear hb hb0 hah HQ hq
            have hbA : Below wr.heap.size wr (wr.alloc (.cells #[.int .i64 x, .int .i64 y, .int .i64 z] 27)) := (Below.refl _ _).alloc (Nat.le_refl _) _
            have HBA : Hid (Below w.heap.size w (wr.alloc (.cells #[.int .i64 x, .int .i64 y, .int .i64 z] 27))) := HB.out.trans (hbA.mono hs)
            obtain ⟨k0, k1, f0, f1⟩ := h2.later hbA
            clear hbA h2
            go_wp2_with fail
            go_quiet (fail)
            go_wp2_with fail
            exact bodyPost_ret (v := .agg #[.int .i64 5, .int .i64 q]) (by simp [results, Tryd.results30, go_sem, k0, k1]) rfl ⟨rfl, ((below_drewN HBA.out _).setCell (Nat.le_refl _) _).setCell (Nat.le_refl _) _⟩
          · have HNot : Hid (q < j) := by
              by_cases hqj : q < j
              · exact hqj
              · obtain rfl : q = j := by omega
                rcases HEnd.out with ⟨h, -⟩ | ⟨r, k, hr, hbad, -, -⟩
                · omega
                · obtain rfl : r = ⟨x, y, z⟩ := Option.some.inj (hr.symm.trans HP.out)
                  rcases hbad with ⟨h, -⟩ | ⟨-, h, -⟩
                  · rw [HOk.out] at h; cases h
                  · rw [hah] at h; exact absurd h hz
            have hzd : decide (z < z') = false := decide_eq_false hz
            clear hb h2 hb0 hah
            go_wp2_with fail
            go_quiet (fail)
            go_wp2_with fail
            have hj1 := HNot.out
            go_roundw
            case rel => exact ⟨q + 1, by omega, by go_num, below_drewN (HB.out.alloc hs _) _, H2.out.later (below_drewN ((Below.refl _ _).alloc (Nat.le_refl _) _) _)⟩
            case measure => simp [intOf]; omega
      · have hok' : okPk ⟨x, y, z⟩ = false := by simpa using hok
        have HQ : Hid (q = j ∧ c = 2 ∧ p = q) := by
          by_cases hqj : q < j
          · exact absurd (HG.out q _ hqj HP.out).1 hok
          · obtain rfl : q = j := by omega
            rcases HEnd.out with ⟨h, -⟩ | ⟨r, k, hr, hbad, rfl, rfl⟩
            · omega
            · obtain rfl : r = ⟨x, y, z⟩ := Option.some.inj (hr.symm.trans HP.out)
              rcases hbad with ⟨-, rfl⟩ | ⟨h, -, -⟩
              · exact ⟨rfl, rfl, rfl⟩
              · exact absurd h hok
        obtain ⟨rfl, rfl, rfl⟩ := HQ.out
        have H6 := (show Hid _ from pk_six hok')
        clear hb hb0 HQ hq hok hok'
        have hbA : Below wr.heap.size wr (wr.alloc (.cells #[.int .i64 x, .int .i64 y, .int .i64 z] 27)) := (Below.refl _ _).alloc (Nat.le_refl _) _
        have HBA : Hid (Below w.heap.size w (wr.alloc (.cells #[.int .i64 x, .int .i64 y, .int .i64 z] 27))) := HB.out.trans (hbA.mono hs)
        obtain ⟨k0, k1, f0, f1⟩ := h2.later hbA
        clear hbA h2
        rcases H6.out with h1 | ⟨h1, h2⟩ | ⟨h1, h2, h3⟩ | ⟨h1, h2, h3, h4⟩ | ⟨h1, h2, h3, h4, h5⟩ | ⟨h1, h2, h3, h4, h5, h6⟩
        all_goals
          clear H6
          go_wp2_with fail
          exact bodyPost_ret (v := .agg #[.int .i64 2, .int .i64 q]) (by simp [results, Tryd.results30, go_sem, k0, k1]) rfl ⟨rfl, (HBA.out.setCell (Nat.le_refl _) _).setCell (Nat.le_refl _) _⟩
    · have HQ : Hid (c = 0 ∧ p = -1) := by
        rcases HEnd.out with ⟨-, h1, h2⟩ | ⟨r, k, hr, -, -, -⟩
        · exact ⟨h1, h2⟩
        · have : j < ps.length := by
            rcases Nat.lt_or_ge j ps.length with h | h
            · exact h
            · simp [List.getElem?_eq_none h] at hr
          rw [Hn.out] at this; omega
      obtain ⟨rfl, rfl⟩ := HQ.out
      clear hb h2 hb0
      go_wp2_with fail
      refine (fine_any _).mono ?_
      rintro e w1 ⟨rfl, hb⟩
      obtain ⟨hc, hc', hf, hf'⟩ := H2.out.later hb
      have HB1 : Hid (Below w.heap.size w w1) := HB.out.trans (hb.mono HB.out.size)
      clear hb
      go_wp2_with fail
      exact bodyPost_ret (v := .agg #[.int .i64 0, .int .i64 (-1)]) (by simp [results, Tryd.results30, go_sem, hc, hc']) rfl ⟨rfl, (HB1.out.setCell (Nat.le_refl _) _).setCell (Nat.le_refl _) _⟩
end Go.Proofs.YtepnfioldbhffabDoor
