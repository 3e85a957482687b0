/- Walks: the reference's bucket: Take, When. -/
import Derived.Test.YtlknljbceppedaaDoorCRef1
namespace Go.Proofs.YtlknljbceppedaaDoor
open Go.RowKit

theorem RbAt.setLast {w : World} {g : Nat} {m : Rb} (h : RbAt w g m) (x : Int) : RbAt (w.setCell ⟨g, 4, none⟩ (.int .i64 x)) g ⟨m.burst, m.rate, m.has, m.tick, x⟩ :=
  ⟨by rw [World.cell?_setCell_other _ _ _ _ (by simp)]; exact h.c0, by rw [World.cell?_setCell_other _ _ _ _ (by simp)]; exact h.c1, by rw [World.cell?_setCell_other _ _ _ _ (by simp)]; exact h.c2, by rw [World.cell?_setCell_other _ _ _ _ (by simp)]; exact h.c3, World.cell?_setCell_same _ _ _ h.c4,
   by rw [World.frozen?_setCell]; exact h.f2, by rw [World.frozen?_setCell]; exact h.f3, by rw [World.frozen?_setCell]; exact h.f4⟩
theorem RbAt.setHas {w : World} {g : Nat} {m : Rb} (h : RbAt w g m) (x : Int) : RbAt (w.setCell ⟨g, 2, none⟩ (.int .i64 x)) g ⟨m.burst, m.rate, x, m.tick, m.last⟩ :=
  ⟨by rw [World.cell?_setCell_other _ _ _ _ (by simp)]; exact h.c0, by rw [World.cell?_setCell_other _ _ _ _ (by simp)]; exact h.c1, World.cell?_setCell_same _ _ _ h.c2, by rw [World.cell?_setCell_other _ _ _ _ (by simp)]; exact h.c3, by rw [World.cell?_setCell_other _ _ _ _ (by simp)]; exact h.c4,
   by rw [World.frozen?_setCell]; exact h.f2, by rw [World.frozen?_setCell]; exact h.f3, by rw [World.frozen?_setCell]; exact h.f4⟩
theorem RbAt.setTick {w : World} {g : Nat} {m : Rb} (h : RbAt w g m) (x : Int) : RbAt (w.setCell ⟨g, 3, none⟩ (.int .i64 x)) g ⟨m.burst, m.rate, m.has, x, m.last⟩ :=
  ⟨by rw [World.cell?_setCell_other _ _ _ _ (by simp)]; exact h.c0, by rw [World.cell?_setCell_other _ _ _ _ (by simp)]; exact h.c1, by rw [World.cell?_setCell_other _ _ _ _ (by simp)]; exact h.c2, World.cell?_setCell_same _ _ _ h.c3, by rw [World.cell?_setCell_other _ _ _ _ (by simp)]; exact h.c4,
   by rw [World.frozen?_setCell]; exact h.f2, by rw [World.frozen?_setCell]; exact h.f3, by rw [World.frozen?_setCell]; exact h.f4⟩

set_option maxHeartbeats 1000000 in
theorem rtake_ok (g : Nat) (b : Bk) (m : Rb) (t n : Int) (w : World) (hm : RbAt w g m) (hk : b.Ok) (hr : RelB b m) (ha : askErr b.last t n = 0) :
    Calls Tryd.prog 52 #[.pointer (some ⟨g, 0, none⟩), .int .i64 t, .int .i64 n] w fun e w' => e = .returned (.bool (decide (n * 1000 ≤ b.lev t))) ∧ RbAt w' g (m.take t n) ∧ But (fun k => k = g) w w' := by
  obtain ⟨n0, n1, t0, t1, ht⟩ := askErr_ok.1 ha
  have hv := hr.hasAt hk ht
  have hlb := hk.lev_bd ht
  have hm1 := hk.m1
  have HM : Hid (RbAt w g m) := hm
  have HM1 : Hid (RbAt (w.setCell ⟨g, 4, none⟩ (.int .i64 t)) g ⟨m.burst, m.rate, m.has, m.tick, t⟩) := hm.setLast t
  have HH : Hid (Calls Tryd.prog 54 #[.pointer (some ⟨g, 0, none⟩), .int .i64 t] (w.setCell ⟨g, 4, none⟩ (.int .i64 t)) fun e w' => e = .returned (.int .i64 (b.lev t)) ∧ Below (w.setCell ⟨g, 4, none⟩ (.int .i64 t)).heap.size (w.setCell ⟨g, 4, none⟩ (.int .i64 t)) w') := by
    have e1 := hr.most; have e2 := hr.rate; have e3 := hr.last; have e4 := hr.t1
    have m0 := hk.m0; have m1 := hk.m1; have r0 := hk.r0; have r1 := hk.r1
    have h1 := HM1.out
    exact rhasAt_core g m.burst m.rate m.has m.tick t _ h1.c0 h1.c1 h1.c2 h1.c3 (by omega) (by omega) (by omega) (by omega) hr.h0 hr.h1 hr.t0 (by omega) t1 _ (by rw [← hv]; rfl)
  by_cases hc : n * 1000 ≤ b.lev t
  · have HT : Hid (m.take t n = ⟨m.burst, m.rate, b.lev t - 1000 * n, t, t⟩) := by show _ = _; unfold Rb.take; rw [hv, if_neg (by omega)]
    rw [show decide (n * 1000 ≤ b.lev t) = true by simpa using hc]
    generalize b.lev t = v at *
    have hc' : ¬ v < 1000 * n := by omega
    obtain ⟨c0, c1, c2, c3, c4, f2, f3, f4⟩ := hm
    clear hk ha hr hv ht hc
    go_enter Tryd.func52, Tryd.ntmps52
    go_wp2_with fail
    refine HH.out.mono ?_
    rintro e w2 ⟨rfl, hb2⟩
    have HB2 : Hid (But (fun k => k = g) w w2) := (But.setCell (S := fun k => k = g) (But.refl _ _) rfl _).trans (.ofBelow hb2)
    have hk2 := HM1.out.below hb2
    have HK2 : Hid (RbAt w2 g ⟨m.burst, m.rate, m.has, m.tick, t⟩) := hk2
    clear c0 c1 c2 c3 c4 f2 f3 f4
    obtain ⟨c0, c1, c2, c3, c4, f2, f3, f4⟩ := hk2
    clear hb2
    go_wp2_with fail
    go_ret
    refine ⟨rfl, ?_, ?_⟩
    · rw [HT.out]
      exact (HK2.out.setHas _).setTick t
    · exact But.setCell (S := fun k => k = g) (But.setCell (S := fun k => k = g) HB2.out rfl _) rfl _
  · have HT : Hid (m.take t n = ⟨m.burst, m.rate, m.has, m.tick, t⟩) := by show _ = _; unfold Rb.take; rw [hv, if_pos (by omega)]
    rw [show decide (n * 1000 ≤ b.lev t) = false by simpa using hc]
    generalize b.lev t = v at *
    have hc' : v < 1000 * n := by omega
    obtain ⟨c0, c1, c2, c3, c4, f2, f3, f4⟩ := hm
    clear hk ha hr hv ht hc
    go_enter Tryd.func52, Tryd.ntmps52
    go_wp2_with fail
    refine HH.out.mono ?_
    rintro e w2 ⟨rfl, hb2⟩
    have HB2 : Hid (But (fun k => k = g) w w2) := (But.setCell (S := fun k => k = g) (But.refl _ _) rfl _).trans (.ofBelow hb2)
    have HK2 : Hid (RbAt w2 g ⟨m.burst, m.rate, m.has, m.tick, t⟩) := HM1.out.below hb2
    clear hb2 c0 c1 c2 c3 c4 f2 f3 f4
    go_wp2_with fail
    go_ret
    refine ⟨rfl, ?_, HB2.out⟩
    rw [HT.out]
    exact HK2.out

set_option maxRecDepth 100000 in
set_option maxHeartbeats 1000000 in
theorem rwhen_core (g : Nat) (B r v t n R : Int) (w : World) (c0 : w.cell? ⟨g, 0, none⟩ = some (.int .i64 B)) (c1 : w.cell? ⟨g, 1, none⟩ = some (.int .i64 r)) (B0 : 1 ≤ B) (B1 : B ≤ 20000) (r0 : 0 ≤ r) (r1 : r ≤ 100000) (v0 : 0 ≤ v) (v1 : v ≤ 1000 * B) (t0 : 0 ≤ t) (t1 : t ≤ 1099511627776) (n0 : 1 ≤ n) (n1 : n ≤ 1500)
    (HH : Hid (Calls Tryd.prog 54 #[.pointer (some ⟨g, 0, none⟩), .int .i64 t] w fun e w' => e = .returned (.int .i64 v) ∧ Below w.heap.size w w'))
    (hR : R = if B < n then -1 else if 1000 * n - v ≤ 0 then t else if r = 0 then -1
      else if 1099511627776 < t + (if (1000 * n - v) / r * r < 1000 * n - v then (1000 * n - v) / r + 1 else (1000 * n - v) / r) then -1
      else t + (if (1000 * n - v) / r * r < 1000 * n - v then (1000 * n - v) / r + 1 else (1000 * n - v) / r)) :
    Calls Tryd.prog 53 #[.pointer (some ⟨g, 0, none⟩), .int .i64 t, .int .i64 n] w fun e w' => e = .returned (.int .i64 R) ∧ Below w.heap.size w w' := by
  by_cases h1 : B < n
  · rw [if_pos h1] at hR
    subst hR
    go_enter Tryd.func53, Tryd.ntmps53
    go_wp2
    go_ret
    exact ⟨rfl, Below.refl _ _⟩
  rw [if_neg h1] at hR
  by_cases h2 : 1000 * n - v ≤ 0
  · rw [if_pos h2] at hR
    subst hR
    go_enter Tryd.func53, Tryd.ntmps53
    go_wp2_with fail
    refine HH.out.mono ?_
    rintro e w2 ⟨rfl, hb2⟩
    go_wp2_with fail
    go_ret
    exact ⟨rfl, hb2⟩
  rw [if_neg h2] at hR
  by_cases h3 : r = 0
  · rw [if_pos h3] at hR
    subst hR
    go_enter Tryd.func53, Tryd.ntmps53
    go_wp2_with fail
    refine HH.out.mono ?_
    rintro e w2 ⟨rfl, hb2⟩
    have d1 := cell_later hb2 c1
    have HB2 : Hid (Below w.heap.size w w2) := hb2
    subst h3
    clear hb2
    go_wp2_with fail
    go_ret
    exact ⟨rfl, HB2.out⟩
  rw [if_neg h3] at hR
  have h3b : (r == 0) = false := by simpa using h3
  have hr1 : 1 ≤ r := by omega
  have hq := Int.ediv_le_self r (show 0 ≤ 1000 * n - v by omega)
  have hq0 : 0 ≤ (1000 * n - v) / r := Int.ediv_nonneg (by omega) (by omega)
  have d1' := Int.mul_ediv_add_emod (1000 * n - v) r
  have d2' := Int.emod_nonneg (1000 * n - v) (show r ≠ 0 by omega)
  have hz : (1000 * n - v) / r * r = r * ((1000 * n - v) / r) := Int.mul_comm _ _
  have hz0 : 0 ≤ (1000 * n - v) / r * r := Int.mul_nonneg hq0 r0
  have hz1 : (1000 * n - v) / r * r ≤ 1000 * n - v := by omega
  have HQ : Hid (1000 * n - v ≤ 30000000) := by show _ ≤ _; omega
  clear d1' d2' hz
  by_cases h4 : (1000 * n - v) / r * r < 1000 * n - v
  · rw [if_pos h4] at hR
    by_cases h5 : 1099511627776 < t + ((1000 * n - v) / r + 1)
    · rw [if_pos h5] at hR
      subst hR
      go_enter Tryd.func53, Tryd.ntmps53
      go_wp2_with fail
      refine HH.out.mono ?_
      rintro e w2 ⟨rfl, hb2⟩
      have d1 := cell_later hb2 c1
      have HB2 : Hid (Below w.heap.size w w2) := hb2
      clear hb2
      go_wp2_with fail
      go_ret
      exact ⟨rfl, HB2.out⟩
    · rw [if_neg h5] at hR
      subst hR
      go_enter Tryd.func53, Tryd.ntmps53
      go_wp2_with fail
      refine HH.out.mono ?_
      rintro e w2 ⟨rfl, hb2⟩
      have d1 := cell_later hb2 c1
      have HB2 : Hid (Below w.heap.size w w2) := hb2
      clear hb2
      go_wp2_with fail
      go_ret
      exact ⟨rfl, HB2.out⟩
  · rw [if_neg h4] at hR
    by_cases h5 : 1099511627776 < t + (1000 * n - v) / r
    · rw [if_pos h5] at hR
      subst hR
      go_enter Tryd.func53, Tryd.ntmps53
      go_wp2_with fail
      refine HH.out.mono ?_
      rintro e w2 ⟨rfl, hb2⟩
      have d1 := cell_later hb2 c1
      have HB2 : Hid (Below w.heap.size w w2) := hb2
      clear hb2
      go_wp2_with fail
      go_ret
      exact ⟨rfl, HB2.out⟩
    · rw [if_neg h5] at hR
      subst hR
      go_enter Tryd.func53, Tryd.ntmps53
      go_wp2_with fail
      refine HH.out.mono ?_
      rintro e w2 ⟨rfl, hb2⟩
      have d1 := cell_later hb2 c1
      have HB2 : Hid (Below w.heap.size w w2) := hb2
      clear hb2
      go_wp2_with fail
      go_ret
      exact ⟨rfl, HB2.out⟩

/-- The tick that the reference's When tells: -1 where there is none. -/
def tickOr (o : Option Int) : Int := match o with | some T => T | none => -1
theorem rwhen_ok (g : Nat) (b : Bk) (m : Rb) (t n : Int) (w : World) (hm : RbAt w g m) (hk : b.Ok) (hr : RelB b m) (ha : askErr b.last t n = 0) :
    Calls Tryd.prog 53 #[.pointer (some ⟨g, 0, none⟩), .int .i64 t, .int .i64 n] w fun e w' => e = .returned (.int .i64 (tickOr (b.when t n))) ∧ Below w.heap.size w w' := by
  obtain ⟨n0, n1, t0, t1, ht⟩ := askErr_ok.1 ha
  have e1 := hr.most; have e2 := hr.rate
  have m0 := hk.m0; have m1 := hk.m1; have r0 := hk.r0; have r1 := hk.r1
  have hv := hr.hasAt hk ht
  have hlb := hk.lev_bd ht
  have hw : tickOr (b.when t n) = m.when t n := by rw [hr.when hk ht]; rfl
  rw [hw]
  exact rwhen_core g m.burst m.rate (m.hasAt t) t n _ w hm.c0 hm.c1 (by omega) (by omega) (by omega) (by omega) (by omega) (by omega) t0 t1 n0 n1 (rhasAt_ok g b m t w hm hk hr ht t1) rfl
end Go.Proofs.YtlknljbceppedaaDoor
