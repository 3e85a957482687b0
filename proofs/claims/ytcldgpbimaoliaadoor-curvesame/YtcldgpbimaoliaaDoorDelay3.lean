/- Walks: the last line to have n bytes; the least rate. -/
import Derived.Test.YtcldgpbimaoliaaDoorDelay2
namespace Go.Proofs.YtcldgpbimaoliaaDoor
open Go.RowKit

theorem lastOf_snoc (n : Int) (r : List (Int × Int)) : ∀ (x y : Int × Int), lastOf n x (r ++ [y]) = if laterB y (lastOf n x r) n = true then y else lastOf n x r := by
  induction r with
  | nil => intro x y; rfl
  | cons z r ih => intro x y; exact ih _ y

/-- The tail of a slice of lines: where it lies. -/
theorem lies_tail {w : World} {b off : Nat} {x0 y0 : Int} {r : List (Int × Int)} (hc : ∀ i x y, ((x0, y0) :: r)[i]? = some (x, y) → w.cell? ⟨b, off + i * 2, none⟩ = some (.int .i64 x) ∧ w.cell? ⟨b, off + i * 2 + 1, none⟩ = some (.int .i64 y)) :
    (w.cell? ⟨b, off, none⟩ = some (.int .i64 x0) ∧ w.cell? ⟨b, off + 1, none⟩ = some (.int .i64 y0)) ∧ ∀ i x y, r[i]? = some (x, y) → w.cell? ⟨b, off + 2 + i * 2, none⟩ = some (.int .i64 x) ∧ w.cell? ⟨b, off + 2 + i * 2 + 1, none⟩ = some (.int .i64 y) := by
  have ha := hc 0 x0 y0 rfl
  refine ⟨⟨by simpa using ha.1, by simpa using ha.2⟩, fun i x y hi => ?_⟩
  have := hc (i + 1) x y (by simpa using hi)
  rw [show off + (i + 1) * 2 = off + 2 + i * 2 by omega] at this
  exact this

set_option maxHeartbeats 400000 in
theorem leastRate_ok (a : Option Addr) (cap : Nat) (ls : List (Int × Int)) (w : World) (hl : Lies w a ls) (h : okCurve ls) (hcap : ls.length ≤ cap) (hm : cap ≤ maxLen) :
    Calls Tryd.prog 64 #[.slice a ls.length cap] w fun e w' => e = .returned (.int .i64 (leastR ls)) ∧ Below w.heap.size w w' := by
  obtain ⟨h1, h6, hok⟩ := h
  obtain ⟨b, off, rfl, hlt, hc⟩ := hl.some h1
  clear hl
  unfold maxLen at hm
  obtain ⟨x0, y0, r, rfl⟩ : ∃ x y r, ls = (x, y) :: r := by
    cases ls with
    | nil => simp at h1
    | cons p r => exact ⟨p.1, p.2, r, rfl⟩
  obtain ⟨n, hn⟩ : ∃ n, r.length = n := ⟨_, rfl⟩
  have Hn := (show Hid (r.length = n) from hn)
  have h6' : n ≤ 5 := by simp at h6; omega
  have hcap' : n + 1 ≤ cap := by simp at hcap; omega
  rw [show ((x0, y0) :: r).length = n + 1 by simp [hn]]
  clear h1 h6 hcap hn
  obtain ⟨⟨hx0, hy0⟩, hr⟩ := lies_tail hc
  have HR : Hid (∀ i x y, r[i]? = some (x, y) → w.cell? ⟨b, off + 2 + i * 2, none⟩ = some (.int .i64 x) ∧ w.cell? ⟨b, off + 2 + i * 2 + 1, none⟩ = some (.int .i64 y)) := hr
  have HL : Hid (leastR ((x0, y0) :: r) = leastFold y0 r) := rfl
  clear hok hc hr
  by_cases hc1 : cap = 1
  · subst hc1
    obtain rfl : n = 0 := by omega
    have hr0 : r = [] := List.length_eq_zero_iff.1 Hn.out
    subst hr0
    clear HR Hn
    go_enter Tryd.func64, Tryd.ntmps64
    go_wp2
    refine wp_loop_rounds 1 ?_
    rw [rounds_succ]
    go_wp2
    go_ret
    exact ⟨rfl, Below.refl _ _⟩
  · have hc2 : 1 < cap := by omega
    clear hc1
    go_enter Tryd.func64, Tryd.ntmps64
    go_wp2
    go_loopw [3, 13] (fun m i wr => ∃ k : Nat, k ≤ n ∧ i = .int .i64 k ∧ m = .int .i64 (leastFold y0 (r.take k)) ∧ Below w.heap.size w wr) (fun _ i _ => n - (intOf i).toNat)
    case atStart => exact ⟨0, Nat.zero_le _, rfl, rfl, Below.refl _ _⟩
    case round =>
      obtain ⟨k, hk, rfl, rfl, hb⟩ := hrel
      have hs := hb.size
      by_cases hkn : k < n
      · obtain ⟨⟨x, y⟩, hp, -⟩ := get_some r k (by rw [Hn.out]; exact hkn)
        have hc1 : wr.cell? ⟨b, off + 2 + k * 2, none⟩ = some (.int .i64 x) := by rw [hb.cell (p := ⟨b, off + 2 + k * 2, none⟩) hlt]; exact (HR.out k x y hp).1
        have hc2 : wr.cell? ⟨b, off + 2 + k * 2 + 1, none⟩ = some (.int .i64 y) := by rw [hb.cell (p := ⟨b, off + 2 + k * 2 + 1, none⟩) hlt]; exact (HR.out k x y hp).2
        have hts : r.take (k + 1) = r.take k ++ [(x, y)] := by rw [List.take_add_one, hp]; rfl
        have HS : Hid (leastFold y0 (r.take (k + 1)) = min (leastFold y0 (r.take k)) y) := by show _ = _; rw [hts]; exact leastFold_snoc _ _ _
        obtain ⟨M, hM⟩ : ∃ M, leastFold y0 (r.take k) = M := ⟨_, rfl⟩
        rw [hM]
        have HM : Hid (leastFold y0 (r.take k) = M) := hM
        clear hM hts hp
        go_wp2
        all_goals
          go_roundw
          case rel =>
            refine ⟨k + 1, by omega, by go_num, ?_, hb.alloc hs _⟩
            rw [HS.out, HM.out]
            first | exact congrArg (Value.int .i64) (min_if _ _) | exact congrArg (Value.int .i64) (by omega)
          case measure => simp [intOf]; omega
      · go_wp2
        go_ret
        refine ⟨congrArg (fun z => Ending.returned (.int .i64 z)) ?_, hb⟩
        rw [List.take_of_length_le (by rw [Hn.out]; omega)]
        exact HL.out.symm
end Go.Proofs.YtcldgpbimaoliaaDoor
