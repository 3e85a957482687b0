/- Walks: package curve's bytesAt. -/
import Derived.Test.YtcldgpbimaoliaaDoorWalk2
namespace Go.Proofs.YtcldgpbimaoliaaDoor
open Go.RowKit

set_option maxHeartbeats 400000 in
theorem bytesAt_ok (a : Option Addr) (cap : Nat) (ls : List (Int × Int)) (t : Int) (w : World) (hl : Lies w a ls) (h : okCurve ls) (hcap : ls.length ≤ cap) (hm : cap ≤ maxLen) (t0 : 0 ≤ t) (t1 : t ≤ 1099511627776) :
    Calls Tryd.prog 57 #[.slice a ls.length cap, .int .i64 t] w fun e w' => e = .returned (.int .i64 (curveAt t ls)) ∧ Below w.heap.size w w' := by
  obtain ⟨h1, h6, hok⟩ := h
  obtain ⟨b, off, rfl, hlt, hc⟩ := hl.some h1
  clear hl
  unfold maxLen at hm
  obtain ⟨x0, y0, r, rfl⟩ : ∃ x y r, ls = (x, y) :: r := by
    cases ls with
    | nil => simp at h1
    | cons p r => exact ⟨p.1, p.2, r, rfl⟩
  obtain ⟨n, hn⟩ : ∃ n, r.length = n := ⟨_, rfl⟩
  have Hn := (show Hid (r.length = n) from hn)
  have h6' : n ≤ 5 := by simp at h6; omega
  have hcap' : n + 1 ≤ cap := by simp at hcap; omega
  rw [show ((x0, y0) :: r).length = n + 1 by simp [hn]]
  clear h1 h6 hcap hn
  have ha := (hc 0 x0 y0 rfl)
  have hx0 : w.cell? ⟨b, off, none⟩ = some (.int .i64 x0) := by simpa using ha.1
  have hy0 : w.cell? ⟨b, off + 1, none⟩ = some (.int .i64 y0) := by simpa using ha.2
  clear ha
  have hr : ∀ i x y, r[i]? = some (x, y) → w.cell? ⟨b, off + 2 + i * 2, none⟩ = some (.int .i64 x) ∧ w.cell? ⟨b, off + 2 + i * 2 + 1, none⟩ = some (.int .i64 y) := by
    intro i x y hi
    have := hc (i + 1) x y (by simpa using hi)
    rw [show off + (i + 1) * 2 = off + 2 + i * 2 by omega] at this
    exact this
  have hok0 := hok _ (List.mem_cons_self ..)
  have hokr : okAll r := fun p hp => hok p (List.mem_cons_of_mem _ hp)
  have hb0 := lineAt_bd hok0 t0 t1
  have o0 := okLine_true hok0
  simp only [] at o0
  obtain ⟨o1, o2, o3, o4⟩ := o0
  obtain ⟨m1, m2⟩ := mul_bd o3 o4 t0 t1
  have HL : Hid (x0 + y0 * t / 1000 = lineAt t x0 y0) := rfl
  have HC : Hid (curveAt t ((x0, y0) :: r) = leastAt t (lineAt t x0 y0) r) := rfl
  clear hok hok0 hc
  by_cases hc1 : cap = 1
  · subst hc1
    obtain rfl : n = 0 := by omega
    have hr0 : r = [] := List.length_eq_zero_iff.1 Hn.out
    subst hr0
    clear hr Hn hokr
    go_enter Tryd.func57, Tryd.ntmps57
    go_wp2
    go_quiet (fail)
    go_wp2
    refine wp_loop_rounds 1 ?_
    rw [rounds_succ]
    go_wp2
    go_ret
    exact ⟨rfl, below_drewN (Below.refl _ _) _⟩
  · have hc2 : 1 < cap := by omega
    clear hc1
    go_enter Tryd.func57, Tryd.ntmps57
    go_wp2
    go_quiet (fail)
    go_wp2
    go_loopw [5, 23] (fun m i wr => ∃ k : Nat, k ≤ n ∧ i = .int .i64 k ∧ m = .int .i64 (leastAt t (lineAt t x0 y0) (r.take k)) ∧ Below w.heap.size w wr) (fun _ i _ => n - (intOf i).toNat)
    case atStart => exact ⟨0, Nat.zero_le _, rfl, rfl, below_drewN (Below.refl _ _) _⟩
    case round =>
      obtain ⟨k, hk, rfl, rfl, hb⟩ := hrel
      have hs := hb.size
      by_cases hkn : k < n
      · obtain ⟨⟨x, y⟩, hp, hm'⟩ := get_some r k (by rw [Hn.out]; exact hkn)
        have hc1 : wr.cell? ⟨b, off + 2 + k * 2, none⟩ = some (.int .i64 x) := by rw [hb.cell (p := ⟨b, off + 2 + k * 2, none⟩) hlt]; exact (hr k x y hp).1
        have hc2 : wr.cell? ⟨b, off + 2 + k * 2 + 1, none⟩ = some (.int .i64 y) := by rw [hb.cell (p := ⟨b, off + 2 + k * 2 + 1, none⟩) hlt]; exact (hr k x y hp).2
        have hts : r.take (k + 1) = r.take k ++ [(x, y)] := by rw [List.take_add_one, hp]; rfl
        have hsn := leastAt_snoc t (r.take k) (lineAt t x0 y0) (x, y)
        have HS : Hid (leastAt t (lineAt t x0 y0) (r.take (k + 1)) = min (leastAt t (lineAt t x0 y0) (r.take k)) (x + y * t / 1000)) := by rw [hts]; exact hsn
        have hbd := leastAt_bd t t0 t1 (r.take k) (lineAt t x0 y0) (by omega) (by omega) (fun p hp => hokr p (List.mem_of_mem_take hp))
        obtain ⟨p1, p2, p3, p4⟩ := okLine_true (hokr _ hm')
        simp only [] at p1 p2 p3 p4
        obtain ⟨q1, q2⟩ := mul_bd p3 p4 t0 t1
        obtain ⟨M, hM⟩ : ∃ M, leastAt t (lineAt t x0 y0) (r.take k) = M := ⟨_, rfl⟩
        rw [hM] at hbd ⊢
        have HM : Hid (leastAt t (lineAt t x0 y0) (r.take k) = M) := hM
        clear hM hts hsn hp hm' hr hokr
        obtain ⟨b1, b2, b3⟩ := hbd
        go_wp2
        go_roundw
        case rel =>
          refine ⟨k + 1, by omega, by go_num, ?_, ?_⟩
          · rw [HS.out, HM.out]
            exact congrArg (Value.int .i64) (min_if _ _)
          · exact hb.alloc hs _
        case measure => simp [intOf]; omega
      · go_wp2
        go_ret
        refine ⟨congrArg (fun z => Ending.returned (.int .i64 z)) ?_, hb⟩
        rw [List.take_of_length_le (by rw [Hn.out]; omega)]
        exact HC.out.symm
end Go.Proofs.YtcldgpbimaoliaaDoor
