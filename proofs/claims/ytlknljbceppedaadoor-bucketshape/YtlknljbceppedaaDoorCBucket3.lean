/- Walks: a bucket's Take, When, Has. -/
import Derived.Test.YtlknljbceppedaaDoorCBucket2
namespace Go.Proofs.YtlknljbceppedaaDoor
open Go.RowKit

theorem sentOf_err (ad : Nat → Addr) {k : Nat} (h : k ≠ 0) : ∃ v, sentOf ad k = .iface 98 v := by
  cases k with
  | zero => exact absurd rfl h
  | succ k => exact ⟨_, rfl⟩

set_option maxHeartbeats 400000 in
theorem take_err (g : Nat) (l t n : Int) (w : World) (ad : Nat → Addr) (he : Errs4 w ad) (c3 : w.cell? ⟨g, 3, none⟩ = some (.int .i64 l)) (hn : askErr l t n ≠ 0) :
    Calls Tryd.prog 48 #[.pointer (some ⟨g, 0, none⟩), .int .i64 t, .int .i64 n] w fun e w' => e = .returned (.tuple #[.bool false, sentOf ad (askErr l t n)]) ∧ w' = w := by
  obtain ⟨v, hv⟩ := sentOf_err ad hn
  have HC : Hid (Calls Tryd.prog 76 #[.pointer (some ⟨g, 0, none⟩), .int .i64 t, .int .i64 n] w fun e w' => e = .returned (sentOf ad (askErr l t n)) ∧ w' = w) := checkTake_any g l t n w ad he c3
  rw [hv] at HC ⊢
  clear hv hn he c3
  go_enter Tryd.func48, Tryd.ntmps48
  go_wp2_with (go_at_call 76; refine HC.out.mono ?_; rintro e w1 ⟨rfl, rfl⟩)
  go_ret2
  exact ⟨rfl, rfl⟩

theorem BkAt.setHas {w : World} {g : Nat} {b : Bk} (h : BkAt w g b) (x : Int) : BkAt (w.setCell ⟨g, 2, none⟩ (.int .i64 x)) g ⟨b.most, b.rate, x, b.last⟩ :=
  ⟨by rw [World.cell?_setCell_other _ _ _ _ (by simp)]; exact h.c0, by rw [World.cell?_setCell_other _ _ _ _ (by simp)]; exact h.c1, World.cell?_setCell_same _ _ _ h.c2, by rw [World.cell?_setCell_other _ _ _ _ (by simp)]; exact h.c3,
   by rw [World.frozen?_setCell]; exact h.f2, by rw [World.frozen?_setCell]; exact h.f3⟩
theorem BkAt.setLast {w : World} {g : Nat} {b : Bk} (h : BkAt w g b) (x : Int) : BkAt (w.setCell ⟨g, 3, none⟩ (.int .i64 x)) g ⟨b.most, b.rate, b.has, x⟩ :=
  ⟨by rw [World.cell?_setCell_other _ _ _ _ (by simp)]; exact h.c0, by rw [World.cell?_setCell_other _ _ _ _ (by simp)]; exact h.c1, by rw [World.cell?_setCell_other _ _ _ _ (by simp)]; exact h.c2, World.cell?_setCell_same _ _ _ h.c3,
   by rw [World.frozen?_setCell]; exact h.f2, by rw [World.frozen?_setCell]; exact h.f3⟩

set_option maxHeartbeats 400000 in
theorem take_ok (g : Nat) (b : Bk) (t n : Int) (w : World) (ad : Nat → Addr) (he : Errs4 w ad) (hb : BkAt w g b) (hk : b.Ok) (ha : askErr b.last t n = 0) :
    Calls Tryd.prog 48 #[.pointer (some ⟨g, 0, none⟩), .int .i64 t, .int .i64 n] w fun e w' => e = .returned (.tuple #[.bool (decide (n * 1000 ≤ b.lev t)), .nilIface]) ∧ BkAt w' g (b.take t n) ∧ But (fun k => k = g) w w' := by
  obtain ⟨n0, n1, t0, t1, ht⟩ := askErr_ok.1 ha
  have HC : Hid (Calls Tryd.prog 76 #[.pointer (some ⟨g, 0, none⟩), .int .i64 t, .int .i64 n] w fun e w' => e = .returned .nilIface ∧ w' = w) := by
    have := checkTake_any g b.last t n w ad he hb.c3
    rw [ha] at this
    exact this
  have HH : Hid (Calls Tryd.prog 77 #[.pointer (some ⟨g, 0, none⟩), .int .i64 t] w fun e w' => e = .returned (.int .i64 (b.lev t)) ∧ Below w.heap.size w w') := hasAt_ok g b t w hb hk ht t1
  have hlb := hk.lev_bd ht
  have hm1 := hk.m1
  have HB : Hid (BkAt w g b) := hb
  by_cases hc : n * 1000 ≤ b.lev t
  · have HT : Hid (b.take t n = ⟨b.most, b.rate, b.lev t - n * 1000, t⟩) := by show _ = _; unfold Bk.take; rw [if_pos hc]
    rw [show decide (n * 1000 ≤ b.lev t) = true by simpa using hc]
    generalize hv : b.lev t = v at *
    have hc' : ¬ v < n * 1000 := by omega
    clear hb hk ha he hv ht hc
    go_enter Tryd.func48, Tryd.ntmps48
    go_wp2_with fail
    refine HC.out.mono ?_
    rintro e w1 ⟨rfl, rfl⟩
    go_wp2_with fail
    refine HH.out.mono ?_
    rintro e w2 ⟨rfl, hb2⟩
    have HB2 : Hid (Below w1.heap.size w1 w2) := hb2
    have hk2 := HB.out.below hb2
    have HK2 : Hid (BkAt w2 g b) := hk2
    obtain ⟨c0, c1, c2, c3, f2, f3⟩ := hk2
    clear hb2
    go_wp2_with fail
    go_ret2
    refine ⟨rfl, ?_, ?_⟩
    · rw [HT.out]
      exact ((HK2.out.setHas v).setLast t).setHas _
    · exact But.setCell (S := fun k => k = g) (But.setCell (S := fun k => k = g) (But.setCell (S := fun k => k = g) (.ofBelow HB2.out) rfl _) rfl _) rfl _
  · have HT : Hid (b.take t n = ⟨b.most, b.rate, b.lev t, t⟩) := by show _ = _; unfold Bk.take; rw [if_neg hc]
    rw [show decide (n * 1000 ≤ b.lev t) = false by simpa using hc]
    generalize hv : b.lev t = v at *
    have hc' : v < n * 1000 := by omega
    clear hb hk ha he hv ht hc
    go_enter Tryd.func48, Tryd.ntmps48
    go_wp2_with fail
    refine HC.out.mono ?_
    rintro e w1 ⟨rfl, rfl⟩
    go_wp2_with fail
    refine HH.out.mono ?_
    rintro e w2 ⟨rfl, hb2⟩
    have HB2 : Hid (Below w1.heap.size w1 w2) := hb2
    have hk2 := HB.out.below hb2
    have HK2 : Hid (BkAt w2 g b) := hk2
    obtain ⟨c0, c1, c2, c3, f2, f3⟩ := hk2
    clear hb2
    go_wp2_with fail
    go_ret2
    refine ⟨rfl, ?_, ?_⟩
    · rw [HT.out]
      exact (HK2.out.setHas v).setLast t
    · exact But.setCell (S := fun k => k = g) (But.setCell (S := fun k => k = g) (.ofBelow HB2.out) rfl _) rfl _
end Go.Proofs.YtlknljbceppedaaDoor
