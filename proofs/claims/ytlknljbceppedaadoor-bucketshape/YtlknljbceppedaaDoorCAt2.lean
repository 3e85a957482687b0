/- Check and At with their errors' numbers; the reference's AtOf. -/
import Derived.Test.YtlknljbceppedaaDoorCAt1
namespace Go.Proofs.YtlknljbceppedaaDoor
open Go.RowKit

theorem Errs9.two {w : World} {ad : Nat → Addr} (h : Errs9 w ad) : Errs2 w (ad 1) (ad 2) := ⟨h.c1, h.c2⟩

theorem check_is (a : Option Addr) (cap : Nat) (ls : List (Int × Int)) (w : World) (ad : Nat → Addr) (he : Errs9 w ad) (hl : Lies w a ls) (hcap : ls.length ≤ cap) (hm : cap ≤ maxLen) (c p : Int) (h : FaultIs ls c p) :
    Calls Tryd.prog 24 #[.slice a ls.length cap] w fun e w' => ∃ E, e = .returned E ∧ ErrIs w' E c p ∧ Below w.heap.size w w' := by
  rcases h with ⟨h, rfl, rfl⟩ | ⟨h1, h6, j, hj, h2, h3, rfl, rfl⟩ | ⟨h, rfl, rfl⟩
  · refine (check_shape a ls.length cap w _ he.c2 (Nat.le_trans hcap hm) h).mono ?_
    rintro e w' ⟨rfl, rfl⟩
    exact ⟨_, rfl, errIs_sent he 2 (by decide), Below.refl _ _⟩
  · refine (check_bad a cap ls w (ad 1) he.c1 hl h1 h6 j hj h2 h3).mono ?_
    rintro e w' ⟨hb, B, rfl, hB1, hB2, hc0, hc1⟩
    exact ⟨_, rfl, ⟨codeIs_fault (he.below hb) 1 (by decide) j B hc0 hc1, fun h => by omega, fun _ => ⟨_, _, rfl⟩⟩, hb⟩
  · refine (check_ok a cap ls w hl h).mono ?_
    rintro e w' ⟨rfl, hb⟩
    exact ⟨_, rfl, errIs_nil _, hb⟩

theorem at_fault (a : Option Addr) (cap : Nat) (ls : List (Int × Int)) (t : Int) (w : World) (ad : Nat → Addr) (he : Errs9 w ad) (hl : Lies w a ls) (hcap : ls.length ≤ cap) (hm : cap ≤ maxLen) (c p : Int) (h : FaultIs ls c p) (hc : c ≠ 0) :
    Calls Tryd.prog 20 #[.slice a ls.length cap, .int .i64 t] w fun e w' => ∃ ty v, e = .returned (.tuple #[.int .i64 0, .iface ty v]) ∧ ErrIs w' (.iface ty v) c p ∧ Below w.heap.size w w' := by
  refine at_err (R := fun ty v w' => ErrIs w' (.iface ty v) c p ∧ Below w.heap.size w w') a ls.length cap t w ((check_is a cap ls w ad he hl hcap hm c p h).mono ?_)
  rintro e w' ⟨E, rfl, hE, hb⟩
  obtain ⟨ty, v, rfl⟩ := hE.some_ hc
  exact ⟨ty, v, rfl, hE, hb⟩

theorem leastAt_step (t m x y : Int) : (if lineAt t x y < m then lineAt t x y else m) = min m (lineAt t x y) := min_if _ _

set_option maxHeartbeats 1000000 in
theorem atOf_ok (a : Option Addr) (cap : Nat) (ls : List (Int × Int)) (t : Int) (w : World) (hl : Lies w a ls) (h : okCurve ls) (t0 : 0 ≤ t) (t1 : t ≤ 1099511627776) :
    Calls Tryd.prog 26 #[.slice a ls.length cap, .int .i64 t] w fun e w' => e = .returned (.int .i64 (curveAt t ls)) ∧ Below w.heap.size w w' := by
  obtain ⟨h1, h6, hok⟩ := h
  obtain ⟨b, off, rfl, hlt, hc⟩ := hl.some h1
  clear hl
  have HC : Hid (∀ i x y, ls[i]? = some (x, y) → w.cell? ⟨b, off + i * 2, none⟩ = some (.int .i64 x) ∧ w.cell? ⟨b, off + i * 2 + 1, none⟩ = some (.int .i64 y)) := hc
  have HO : Hid (okAll ls) := hok
  clear hc hok
  generalize hn : ls.length = n at *
  have Hn := (show Hid (ls.length = n) from hn)
  clear hn
  go_enter Tryd.func26, Tryd.ntmps26
  go_wp2
  go_loopw [5, 6] (fun m i wr => ∃ k : Nat, k ≤ n ∧ i = .int .i64 k ∧ m = .int .i64 (curveAt t (ls.take k)) ∧ ∃ q, wr = w.drewN q) (fun _ i _ => n - (intOf i).toNat)
  case atStart => exact ⟨0, Nat.zero_le _, rfl, rfl, 0, rfl⟩
  case round =>
    obtain ⟨k, hk, rfl, rfl, q, rfl⟩ := hrel
    by_cases hkn : k < n
    · obtain ⟨⟨x, y⟩, hp, hm⟩ := get_some ls k (by rw [Hn.out]; exact hkn)
      have hc1 := (HC.out k x y hp).1
      have hc2 := (HC.out k x y hp).2
      obtain ⟨p1, p2, p3, p4⟩ := okLine_true (HO.out _ hm)
      simp only [] at p1 p2 p3 p4
      obtain ⟨q1, q2⟩ := mul_bd p3 p4 t0 t1
      have hts : ls.take (k + 1) = ls.take k ++ [(x, y)] := by rw [List.take_add_one, hp]; rfl
      by_cases hk0 : k = 0
      · subst hk0
        have HS : Hid (curveAt t (ls.take (0 + 1)) = x + y * t / 1000) := by show _ = _; rw [hts]; rfl
        have hd1 : w.cell? ⟨b, off, none⟩ = some (.int .i64 x) := by simpa using hc1
        have hd2 : w.cell? ⟨b, off + 1, none⟩ = some (.int .i64 y) := by simpa using hc2
        clear hts hp hm hc1 hc2
        go_wp2
        go_quiet (fail)
        go_wp2
        go_roundw
        case rel => exact ⟨0 + 1, by omega, by go_num, by rw [HS.out], _, rfl⟩
        case measure => simp [intOf]; omega
      · have hne : ((k : Int) == 0) = false := by simp; omega
        obtain ⟨z, r, hz⟩ : ∃ z r, ls.take k = z :: r := by
          cases hh : ls.take k with
          | nil => have h := congrArg List.length hh; rw [List.length_take, List.length_nil] at h; have := Hn.out; omega
          | cons z r => exact ⟨z, r, rfl⟩
        have HS : Hid (curveAt t (ls.take (k + 1)) = min (curveAt t (ls.take k)) (x + y * t / 1000)) := by show _ = _; rw [hts, hz]; exact leastAt_snoc t r _ (x, y)
        have hbd := curveAt_bd t (ls.take k) ⟨by rw [hz]; simp, by rw [List.length_take]; omega, fun p hp => HO.out p (List.mem_of_mem_take hp)⟩ t0 t1
        obtain ⟨M, hM⟩ : ∃ M, curveAt t (ls.take k) = M := ⟨_, rfl⟩
        rw [hM] at hbd ⊢
        have HM : Hid (curveAt t (ls.take k) = M) := hM
        clear hM hts hp hm hz
        obtain ⟨b1, b2⟩ := hbd
        by_cases hlt2 : x + y * t / 1000 < M
        · go_wp2
          go_quiet (fail)
          go_wp2
          go_roundw
          case rel => exact ⟨k + 1, by omega, by go_num, by rw [HS.out, HM.out, Int.min_eq_right (by omega)], _, rfl⟩
          case measure => simp [intOf]; omega
        · go_wp2
          go_quiet (fail)
          go_wp2
          go_roundw
          case rel => exact ⟨k + 1, by omega, by go_num, by rw [HS.out, HM.out, Int.min_eq_left (by omega)], _, rfl⟩
          case measure => simp [intOf]; omega
    · go_wp2
      go_ret
      refine ⟨congrArg (fun z => Ending.returned (.int .i64 z)) ?_, below_drewN (Below.refl _ _) _⟩
      rw [List.take_of_length_le (by rw [Hn.out]; omega)]
end Go.Proofs.YtlknljbceppedaaDoor
