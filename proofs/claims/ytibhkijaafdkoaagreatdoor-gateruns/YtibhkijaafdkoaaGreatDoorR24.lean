/- Own facts, put together: no statement of its own. -/
import Derived.Test.YtibhkijaafdkoaaGreatDoorR04
import Derived.Test.YtibhkijaafdkoaaGreatDoorR16
import Derived.Deep.AppendLies
import Derived.Deep.RegionHeldLaw
import Derived.Deep.Cut
import Derived.Test.YtibhkijaafdkoaaGreatDoorR07
import Derived.Test.YtibhkijaafdkoaaGreatDoorR02
import Derived.Test.YtibhkijaafdkoaaGreatDoorR17
namespace Go.Proofs.YtibhkijaafdkoaaGreatDoor
structure Rb where
 burst : Int
 rate : Int
 has : Int
 tick : Int
 last : Int
def Rb.hasAt (m : Rb) (t : Int) : Int := if m.rate = 0 ∨ m.has = 1000 * m.burst then m.has else if (1000 * m.burst - m.has) / m.rate < t - m.tick then 1000 * m.burst else m.has + (t - m.tick) * m.rate
def Rb.take (m : Rb) (t n : Int) : Rb := if m.hasAt t < 1000 * n then ⟨m.burst, m.rate, m.has, m.tick, t⟩ else ⟨m.burst, m.rate, m.hasAt t - 1000 * n, t, t⟩
def Rb.when (m : Rb) (t n : Int) : Int :=
 if m.burst < n then -1
 else if 1000 * n - m.hasAt t ≤ 0 then t
 else if m.rate = 0 then -1
 else if 1099511627776 < t + (if (1000 * n - m.hasAt t) / m.rate * m.rate < 1000 * n - m.hasAt t then (1000 * n - m.hasAt t) / m.rate + 1 else (1000 * n - m.hasAt t) / m.rate) then -1
 else t + (if (1000 * n - m.hasAt t) / m.rate * m.rate < 1000 * n - m.hasAt t then (1000 * n - m.hasAt t) / m.rate + 1 else (1000 * n - m.hasAt t) / m.rate)
def rbOf (p : Int × Int) : Rb := ⟨p.1, p.2, 1000 * p.1, 0, 0⟩
structure RelB (b : Bk) (m : Rb) : Prop where
 most : b.most = 1000 * m.burst
 rate : b.rate = m.rate
 last : m.last = b.last
 t0 : 0 ≤ m.tick
 t1 : m.tick ≤ m.last
 h0 : 0 ≤ m.has
 h1 : m.has ≤ 1000 * m.burst
 has : b.has = min b.most (m.has + m.rate * (m.last - m.tick))
theorem relB_new (p : Int × Int) (h : okLine p.1 p.2 = true) : RelB (bkOf p) (rbOf p) := by
 obtain ⟨a, b, c, d⟩ := okLine_true h
 constructor <;> simp [bkOf, rbOf] <;> omega
theorem RelB.hasAt {b : Bk} {m : Rb} (h : RelB b m) (hb : b.Ok) {t : Int} (ht : b.last ≤ t) : m.hasAt t = b.lev t := by
 have e1 := h.most; have e2 := h.rate; have e3 := h.last; have e4 := h.has; have t1 := h.t1; have h1 := h.h1
 have r0 := hb.r0
 have s1 := mul_split m.rate t m.last m.tick
 have s2 := Int.mul_nonneg (show 0 ≤ m.rate by omega) (show 0 ≤ t - m.last by omega)
 have s3 := Int.mul_nonneg (show 0 ≤ m.rate by omega) (show 0 ≤ m.last - m.tick by omega)
 have hl : b.lev t = min b.most (m.has + m.rate * (t - m.tick)) := by
  unfold Bk.lev; rw [e2, ← e3]; omega
 rw [hl]
 unfold Rb.hasAt
 split
 ·
  rename_i hz
  rcases hz with hz | hz
  · rw [hz]; omega
  · omega
 ·
  rename_i hz
  have hr : 0 < m.rate := by omega
  have d1 := Int.mul_ediv_add_emod (1000 * m.burst - m.has) m.rate
  have d2 := Int.emod_nonneg (1000 * m.burst - m.has) (show m.rate ≠ 0 by omega)
  have d3 := Int.emod_lt_of_pos (1000 * m.burst - m.has) hr
  generalize (1000 * m.burst - m.has) / m.rate = k at *
  split
  ·
   rename_i hk
   have := Int.mul_le_mul_of_nonneg_left (show k + 1 ≤ t - m.tick by omega) (show 0 ≤ m.rate by omega)
   rw [Int.mul_add] at this
   omega
  ·
   rename_i hk
   have := Int.mul_le_mul_of_nonneg_left (show t - m.tick ≤ k by omega) (show 0 ≤ m.rate by omega)
   rw [Int.mul_comm (t - m.tick) m.rate]
   omega
theorem RelB.take {b : Bk} {m : Rb} (h : RelB b m) (hb : b.Ok) {t n : Int} (ht : b.last ≤ t) (hn : 1 ≤ n) : RelB (b.take t n) (m.take t n) := by
 have e := h.hasAt hb ht
 have e1 := h.most; have e2 := h.rate; have e3 := h.last; have t1 := h.t1; have l0 := hb.l0; have bd := hb.lev_bd ht
 have e4 := h.has
 unfold Rb.take Bk.take
 rw [e]
 by_cases hc : n * 1000 ≤ b.lev t
 ·
  rw [if_pos hc, if_neg (by omega)]
  exact ⟨e1, e2, rfl, by simp; omega, Int.le_refl _, by simp; omega, by simp; omega, by simp; omega⟩
 ·
  rw [if_neg hc, if_pos (by omega)]
  refine ⟨e1, e2, rfl, h.t0, by simp; omega, h.h0, h.h1, ?_⟩
  show b.lev t = min b.most (m.has + m.rate * (t - m.tick))
  have r0 := hb.r0
  have s1 := mul_split m.rate t m.last m.tick
  have s2 := Int.mul_nonneg (show 0 ≤ m.rate by omega) (show 0 ≤ t - m.last by omega)
  unfold Bk.lev; rw [e2, ← e3]; omega
theorem div_two {r x : Int} (hr : 0 < r) : (if x / r * r < x then x / r + 1 else x / r) = (x + r - 1) / r := by
 have hd := div_up (r := r) (x := x) hr
 have d1 := Int.mul_ediv_add_emod x r
 have d2 := Int.emod_nonneg x (show r ≠ 0 by omega)
 have d3 := Int.emod_lt_of_pos x hr
 rw [Int.mul_comm (x / r) r]
 generalize x / r = k at *
 generalize (x + r - 1) / r = u at *
 have up : ∀ a c : Int, a < c → r * a + r ≤ r * c := fun a c h => by
  have := Int.mul_le_mul_of_nonneg_left (show a + 1 ≤ c by omega) (show 0 ≤ r by omega)
  rwa [Int.mul_add, Int.mul_one] at this
 split
 ·
  by_cases h1 : u < k + 1
  ·
   have := up u (k + 1) h1
   rw [Int.mul_add, Int.mul_one] at this
   omega
  ·
   by_cases h2 : k + 1 < u
   ·
    have := up (k + 1) u h2
    rw [Int.mul_add, Int.mul_one] at this
    omega
   · omega
 ·
  by_cases h1 : u < k
  ·
   have := up u k h1
   omega
  ·
   by_cases h2 : k < u
   ·
    have := up k u h2
    omega
   · omega
theorem RelB.when {b : Bk} {m : Rb} (h : RelB b m) (hb : b.Ok) {t n : Int} (ht : b.last ≤ t) : m.when t n = match b.when t n with | some T => T | none => -1 := by
 have e := h.hasAt hb ht
 have bd := hb.lev_bd ht
 have e1 := h.most; have e2 := h.rate
 unfold Rb.when Bk.when
 rw [e]
 by_cases h1 : n * 1000 ≤ b.lev t
 · rw [if_neg (by omega), if_pos (by omega), if_pos h1]
 ·
  rw [if_neg h1]
  by_cases h2 : m.burst < n
  · rw [if_pos h2, if_pos (.inl (by omega))]
  ·
   rw [if_neg h2, if_neg (by omega)]
   by_cases h3 : m.rate = 0
   · rw [if_pos h3, if_pos (.inr (by omega))]
   ·
    rw [if_neg h3, div_two (by have := hb.r0; omega), if_neg (show ¬ (b.most < n * 1000 ∨ b.rate = 0) by omega), ← e2, Int.mul_comm n 1000]
    by_cases h4 : 1099511627776 - t < (1000 * n - b.lev t + b.rate - 1) / b.rate
    · rw [if_pos h4, if_pos (by omega)]
    · rw [if_neg h4, if_neg (by omega)]
end Go.Proofs.YtibhkijaafdkoaaGreatDoor

namespace Go.Proofs.YtibhkijaafdkoaaGreatDoor
open Go.RowKit
structure RbAt (w : World) (g : Nat) (m : Rb) : Prop where
 c0 : w.cell? ⟨g, 0, none⟩ = some (.int .i64 m.burst)
 c1 : w.cell? ⟨g, 1, none⟩ = some (.int .i64 m.rate)
 c2 : w.cell? ⟨g, 2, none⟩ = some (.int .i64 m.has)
 c3 : w.cell? ⟨g, 3, none⟩ = some (.int .i64 m.tick)
 c4 : w.cell? ⟨g, 4, none⟩ = some (.int .i64 m.last)
 f2 : w.frozen? ⟨g, 2, none⟩ = false
 f3 : w.frozen? ⟨g, 3, none⟩ = false
 f4 : w.frozen? ⟨g, 4, none⟩ = false
theorem RbAt.lt {w : World} {g : Nat} {m : Rb} (h : RbAt w g m) : g < w.heap.size := cell_lt h.c0
theorem RbAt.but {S : Nat → Prop} {w w' : World} {g : Nat} {m : Rb} (h : RbAt w g m) (hb : But S w w') (hs : ¬ S g) : RbAt w' g m :=
 have l := h.lt
 ⟨by rw [hb.cell (p := ⟨g, 0, none⟩) l hs]; exact h.c0, by rw [hb.cell (p := ⟨g, 1, none⟩) l hs]; exact h.c1, by rw [hb.cell (p := ⟨g, 2, none⟩) l hs]; exact h.c2, by rw [hb.cell (p := ⟨g, 3, none⟩) l hs]; exact h.c3, by rw [hb.cell (p := ⟨g, 4, none⟩) l hs]; exact h.c4,
  by rw [hb.frozen (p := ⟨g, 2, none⟩) l hs]; exact h.f2, by rw [hb.frozen (p := ⟨g, 3, none⟩) l hs]; exact h.f3, by rw [hb.frozen (p := ⟨g, 4, none⟩) l hs]; exact h.f4⟩
theorem RbAt.below {w w' : World} {g : Nat} {m : Rb} (h : RbAt w g m) (hb : Below w.heap.size w w') : RbAt w' g m := h.but (S := fun _ => False) (.ofBelow hb) id
set_option maxRecDepth 100000 in
set_option maxHeartbeats 1000000 in
theorem rhasAt_core (g : Nat) (B r h k t : Int) (w : World) (c0 : w.cell? ⟨g, 0, none⟩ = some (.int .i64 B)) (c1 : w.cell? ⟨g, 1, none⟩ = some (.int .i64 r)) (c2 : w.cell? ⟨g, 2, none⟩ = some (.int .i64 h)) (c3 : w.cell? ⟨g, 3, none⟩ = some (.int .i64 k))
  (B0 : 1 ≤ B) (B1 : B ≤ 20000) (r0 : 0 ≤ r) (r1 : r ≤ 100000) (h0 : 0 ≤ h) (h1 : h ≤ 1000 * B) (k0 : 0 ≤ k) (k1 : k ≤ t) (t1 : t ≤ 1099511627776) (v : Int)
  (hv : v = if r = 0 ∨ h = 1000 * B then h else if (1000 * B - h) / r < t - k then 1000 * B else h + (t - k) * r) :
  Calls Tryz.prog 141 #[.pointer (some ⟨g, 0, none⟩), .int .i64 t] w fun e w' => e = .returned (.int .i64 v) ∧ Below w.heap.size w w' := by
 by_cases hr : r = 0
 ·
  rw [if_pos (.inl hr)] at hv
  subst hr hv
  go_enter Tryz.func141, Tryz.ntmps141
  go_wp2
  go_ret
  exact ⟨rfl, Below.refl _ _⟩
 ·
  have hrb : (r == 0) = false := by simpa using hr
  by_cases hh : h = 1000 * B
  ·
   rw [if_pos (.inr hh)] at hv
   subst hh hv
   go_enter Tryz.func141, Tryz.ntmps141
   go_wp2
   go_ret
   exact ⟨rfl, Below.refl _ _⟩
  ·
   have hhb : (h == 1000 * B) = false := by simpa using hh
   rw [if_neg (by simp [hr, hh])] at hv
   have hr1 : 1 ≤ r := by omega
   by_cases hq : (1000 * B - h) / r < t - k
   ·
    rw [if_pos hq] at hv
    subst hv
    go_enter Tryz.func141, Tryz.ntmps141
    go_wp2
    go_ret
    exact ⟨rfl, Below.refl _ _⟩
   ·
    rw [if_neg hq] at hv
    obtain ⟨m0, m1⟩ := mul_bd r0 r1 (show 0 ≤ t - k by omega) (show t - k ≤ 1099511627776 by omega)
    rw [Int.mul_comm] at m0 m1
    subst hv
    go_enter Tryz.func141, Tryz.ntmps141
    go_wp2
    go_quiet (fail)
    go_wp2
    go_ret
    exact ⟨rfl, below_drewN (Below.refl _ _) _⟩
theorem rhasAt_ok (g : Nat) (b : Bk) (m : Rb) (t : Int) (w : World) (hm : RbAt w g m) (hk : b.Ok) (hr : RelB b m) (ht : b.last ≤ t) (t1 : t ≤ 1099511627776) :
  Calls Tryz.prog 141 #[.pointer (some ⟨g, 0, none⟩), .int .i64 t] w fun e w' => e = .returned (.int .i64 (m.hasAt t)) ∧ Below w.heap.size w w' := by
 have e1 := hr.most; have e2 := hr.rate; have e3 := hr.last; have e4 := hr.t1
 have m0 := hk.m0; have m1 := hk.m1; have r0 := hk.r0; have r1 := hk.r1
 exact rhasAt_core g m.burst m.rate m.has m.tick t w hm.c0 hm.c1 hm.c2 hm.c3 (by omega) (by omega) (by omega) (by omega) hr.h0 hr.h1 hr.t0 (by omega) t1 _ rfl
end Go.Proofs.YtibhkijaafdkoaaGreatDoor

namespace Go.Proofs.YtibhkijaafdkoaaGreatDoor
open Go.RowKit
theorem RbAt.setLast {w : World} {g : Nat} {m : Rb} (h : RbAt w g m) (x : Int) : RbAt (w.setCell ⟨g, 4, none⟩ (.int .i64 x)) g ⟨m.burst, m.rate, m.has, m.tick, x⟩ :=
 ⟨by rw [World.cell?_setCell_other _ _ _ _ (by simp)]; exact h.c0, by rw [World.cell?_setCell_other _ _ _ _ (by simp)]; exact h.c1, by rw [World.cell?_setCell_other _ _ _ _ (by simp)]; exact h.c2, by rw [World.cell?_setCell_other _ _ _ _ (by simp)]; exact h.c3, World.cell?_setCell_same _ _ _ h.c4,
  by rw [World.frozen?_setCell]; exact h.f2, by rw [World.frozen?_setCell]; exact h.f3, by rw [World.frozen?_setCell]; exact h.f4⟩
theorem RbAt.setHas {w : World} {g : Nat} {m : Rb} (h : RbAt w g m) (x : Int) : RbAt (w.setCell ⟨g, 2, none⟩ (.int .i64 x)) g ⟨m.burst, m.rate, x, m.tick, m.last⟩ :=
 ⟨by rw [World.cell?_setCell_other _ _ _ _ (by simp)]; exact h.c0, by rw [World.cell?_setCell_other _ _ _ _ (by simp)]; exact h.c1, World.cell?_setCell_same _ _ _ h.c2, by rw [World.cell?_setCell_other _ _ _ _ (by simp)]; exact h.c3, by rw [World.cell?_setCell_other _ _ _ _ (by simp)]; exact h.c4,
  by rw [World.frozen?_setCell]; exact h.f2, by rw [World.frozen?_setCell]; exact h.f3, by rw [World.frozen?_setCell]; exact h.f4⟩
theorem RbAt.setTick {w : World} {g : Nat} {m : Rb} (h : RbAt w g m) (x : Int) : RbAt (w.setCell ⟨g, 3, none⟩ (.int .i64 x)) g ⟨m.burst, m.rate, m.has, x, m.last⟩ :=
 ⟨by rw [World.cell?_setCell_other _ _ _ _ (by simp)]; exact h.c0, by rw [World.cell?_setCell_other _ _ _ _ (by simp)]; exact h.c1, by rw [World.cell?_setCell_other _ _ _ _ (by simp)]; exact h.c2, World.cell?_setCell_same _ _ _ h.c3, by rw [World.cell?_setCell_other _ _ _ _ (by simp)]; exact h.c4,
  by rw [World.frozen?_setCell]; exact h.f2, by rw [World.frozen?_setCell]; exact h.f3, by rw [World.frozen?_setCell]; exact h.f4⟩
set_option maxHeartbeats 1000000 in
theorem rtake_ok (g : Nat) (b : Bk) (m : Rb) (t n : Int) (w : World) (hm : RbAt w g m) (hk : b.Ok) (hr : RelB b m) (ha : askErr b.last t n = 0) :
  Calls Tryz.prog 105 #[.pointer (some ⟨g, 0, none⟩), .int .i64 t, .int .i64 n] w fun e w' => e = .returned (.bool (decide (n * 1000 ≤ b.lev t))) ∧ RbAt w' g (m.take t n) ∧ But (fun k => k = g) w w' := by
 obtain ⟨n0, n1, t0, t1, ht⟩ := askErr_ok.1 ha
 have hv := hr.hasAt hk ht
 have hlb := hk.lev_bd ht
 have hm1 := hk.m1
 have HM : Hid (RbAt w g m) := hm
 have HM1 : Hid (RbAt (w.setCell ⟨g, 4, none⟩ (.int .i64 t)) g ⟨m.burst, m.rate, m.has, m.tick, t⟩) := hm.setLast t
 have HH : Hid (Calls Tryz.prog 141 #[.pointer (some ⟨g, 0, none⟩), .int .i64 t] (w.setCell ⟨g, 4, none⟩ (.int .i64 t)) fun e w' => e = .returned (.int .i64 (b.lev t)) ∧ Below (w.setCell ⟨g, 4, none⟩ (.int .i64 t)).heap.size (w.setCell ⟨g, 4, none⟩ (.int .i64 t)) w') := by
  have e1 := hr.most; have e2 := hr.rate; have e3 := hr.last; have e4 := hr.t1
  have m0 := hk.m0; have m1 := hk.m1; have r0 := hk.r0; have r1 := hk.r1
  have h1 := HM1.out
  exact rhasAt_core g m.burst m.rate m.has m.tick t _ h1.c0 h1.c1 h1.c2 h1.c3 (by omega) (by omega) (by omega) (by omega) hr.h0 hr.h1 hr.t0 (by omega) t1 _ (by rw [← hv]; rfl)
 by_cases hc : n * 1000 ≤ b.lev t
 ·
  have HT : Hid (m.take t n = ⟨m.burst, m.rate, b.lev t - 1000 * n, t, t⟩) := by show _ = _; unfold Rb.take; rw [hv, if_neg (by omega)]
  rw [show decide (n * 1000 ≤ b.lev t) = true by simpa using hc]
  generalize b.lev t = v at *
  have hc' : ¬ v < 1000 * n := by omega
  obtain ⟨c0, c1, c2, c3, c4, f2, f3, f4⟩ := hm
  clear hk ha hr hv ht hc
  go_enter Tryz.func105, Tryz.ntmps105
  go_wp2_with fail
  refine HH.out.mono ?_
  rintro e w2 ⟨rfl, hb2⟩
  have HB2 : Hid (But (fun k => k = g) w w2) := (But.setCell (S := fun k => k = g) (But.refl _ _) rfl _).trans (.ofBelow hb2)
  have hk2 := HM1.out.below hb2
  have HK2 : Hid (RbAt w2 g ⟨m.burst, m.rate, m.has, m.tick, t⟩) := hk2
  clear c0 c1 c2 c3 c4 f2 f3 f4
  obtain ⟨c0, c1, c2, c3, c4, f2, f3, f4⟩ := hk2
  clear hb2
  go_wp2_with fail
  go_ret
  refine ⟨rfl, ?_, ?_⟩
  ·
   rw [HT.out]
   exact (HK2.out.setHas _).setTick t
  · exact But.setCell (S := fun k => k = g) (But.setCell (S := fun k => k = g) HB2.out rfl _) rfl _
 ·
  have HT : Hid (m.take t n = ⟨m.burst, m.rate, m.has, m.tick, t⟩) := by show _ = _; unfold Rb.take; rw [hv, if_pos (by omega)]
  rw [show decide (n * 1000 ≤ b.lev t) = false by simpa using hc]
  generalize b.lev t = v at *
  have hc' : v < 1000 * n := by omega
  obtain ⟨c0, c1, c2, c3, c4, f2, f3, f4⟩ := hm
  clear hk ha hr hv ht hc
  go_enter Tryz.func105, Tryz.ntmps105
  go_wp2_with fail
  refine HH.out.mono ?_
  rintro e w2 ⟨rfl, hb2⟩
  have HB2 : Hid (But (fun k => k = g) w w2) := (But.setCell (S := fun k => k = g) (But.refl _ _) rfl _).trans (.ofBelow hb2)
  have HK2 : Hid (RbAt w2 g ⟨m.burst, m.rate, m.has, m.tick, t⟩) := HM1.out.below hb2
  clear hb2 c0 c1 c2 c3 c4 f2 f3 f4
  go_wp2_with fail
  go_ret
  refine ⟨rfl, ?_, HB2.out⟩
  rw [HT.out]
  exact HK2.out
set_option maxRecDepth 100000 in
set_option maxHeartbeats 1000000 in
theorem rwhen_core (g : Nat) (B r v t n R : Int) (w : World) (c0 : w.cell? ⟨g, 0, none⟩ = some (.int .i64 B)) (c1 : w.cell? ⟨g, 1, none⟩ = some (.int .i64 r)) (B0 : 1 ≤ B) (B1 : B ≤ 20000) (r0 : 0 ≤ r) (r1 : r ≤ 100000) (v0 : 0 ≤ v) (v1 : v ≤ 1000 * B) (t0 : 0 ≤ t) (t1 : t ≤ 1099511627776) (n0 : 1 ≤ n) (n1 : n ≤ 1500)
  (HH : Hid (Calls Tryz.prog 141 #[.pointer (some ⟨g, 0, none⟩), .int .i64 t] w fun e w' => e = .returned (.int .i64 v) ∧ Below w.heap.size w w'))
  (hR : R = if B < n then -1 else if 1000 * n - v ≤ 0 then t else if r = 0 then -1
   else if 1099511627776 < t + (if (1000 * n - v) / r * r < 1000 * n - v then (1000 * n - v) / r + 1 else (1000 * n - v) / r) then -1
   else t + (if (1000 * n - v) / r * r < 1000 * n - v then (1000 * n - v) / r + 1 else (1000 * n - v) / r)) :
  Calls Tryz.prog 104 #[.pointer (some ⟨g, 0, none⟩), .int .i64 t, .int .i64 n] w fun e w' => e = .returned (.int .i64 R) ∧ Below w.heap.size w w' := by
 by_cases h1 : B < n
 ·
  rw [if_pos h1] at hR
  subst hR
  go_enter Tryz.func104, Tryz.ntmps104
  go_wp2
  go_ret
  exact ⟨rfl, Below.refl _ _⟩
 rw [if_neg h1] at hR
 by_cases h2 : 1000 * n - v ≤ 0
 ·
  rw [if_pos h2] at hR
  subst hR
  go_enter Tryz.func104, Tryz.ntmps104
  go_wp2_with fail
  refine HH.out.mono ?_
  rintro e w2 ⟨rfl, hb2⟩
  go_wp2_with fail
  go_ret
  exact ⟨rfl, hb2⟩
 rw [if_neg h2] at hR
 by_cases h3 : r = 0
 ·
  rw [if_pos h3] at hR
  subst hR
  go_enter Tryz.func104, Tryz.ntmps104
  go_wp2_with fail
  refine HH.out.mono ?_
  rintro e w2 ⟨rfl, hb2⟩
  have d1 := cell_later hb2 c1
  have HB2 : Hid (Below w.heap.size w w2) := hb2
  subst h3
  clear hb2
  go_wp2_with fail
  go_ret
  exact ⟨rfl, HB2.out⟩
 rw [if_neg h3] at hR
 have h3b : (r == 0) = false := by simpa using h3
 have hr1 : 1 ≤ r := by omega
 have hq := Int.ediv_le_self r (show 0 ≤ 1000 * n - v by omega)
 have hq0 : 0 ≤ (1000 * n - v) / r := Int.ediv_nonneg (by omega) (by omega)
 have d1' := Int.mul_ediv_add_emod (1000 * n - v) r
 have d2' := Int.emod_nonneg (1000 * n - v) (show r ≠ 0 by omega)
 have hz : (1000 * n - v) / r * r = r * ((1000 * n - v) / r) := Int.mul_comm _ _
 have hz0 : 0 ≤ (1000 * n - v) / r * r := Int.mul_nonneg hq0 r0
 have hz1 : (1000 * n - v) / r * r ≤ 1000 * n - v := by omega
 have HQ : Hid (1000 * n - v ≤ 30000000) := by show _ ≤ _; omega
 clear d1' d2' hz
 by_cases h4 : (1000 * n - v) / r * r < 1000 * n - v
 ·
  rw [if_pos h4] at hR
  by_cases h5 : 1099511627776 < t + ((1000 * n - v) / r + 1)
  ·
   rw [if_pos h5] at hR
   subst hR
   go_enter Tryz.func104, Tryz.ntmps104
   go_wp2_with fail
   refine HH.out.mono ?_
   rintro e w2 ⟨rfl, hb2⟩
   have d1 := cell_later hb2 c1
   have HB2 : Hid (Below w.heap.size w w2) := hb2
   clear hb2
   go_wp2_with fail
   go_ret
   exact ⟨rfl, HB2.out⟩
  ·
   rw [if_neg h5] at hR
   subst hR
   go_enter Tryz.func104, Tryz.ntmps104
   go_wp2_with fail
   refine HH.out.mono ?_
   rintro e w2 ⟨rfl, hb2⟩
   have d1 := cell_later hb2 c1
   have HB2 : Hid (Below w.heap.size w w2) := hb2
   clear hb2
   go_wp2_with fail
   go_ret
   exact ⟨rfl, HB2.out⟩
 ·
  rw [if_neg h4] at hR
  by_cases h5 : 1099511627776 < t + (1000 * n - v) / r
  ·
   rw [if_pos h5] at hR
   subst hR
   go_enter Tryz.func104, Tryz.ntmps104
   go_wp2_with fail
   refine HH.out.mono ?_
   rintro e w2 ⟨rfl, hb2⟩
   have d1 := cell_later hb2 c1
   have HB2 : Hid (Below w.heap.size w w2) := hb2
   clear hb2
   go_wp2_with fail
   go_ret
   exact ⟨rfl, HB2.out⟩
  ·
   rw [if_neg h5] at hR
   subst hR
   go_enter Tryz.func104, Tryz.ntmps104
   go_wp2_with fail
   refine HH.out.mono ?_
   rintro e w2 ⟨rfl, hb2⟩
   have d1 := cell_later hb2 c1
   have HB2 : Hid (Below w.heap.size w w2) := hb2
   clear hb2
   go_wp2_with fail
   go_ret
   exact ⟨rfl, HB2.out⟩
def tickOr (o : Option Int) : Int := match o with | some T => T | none => -1
theorem rwhen_ok (g : Nat) (b : Bk) (m : Rb) (t n : Int) (w : World) (hm : RbAt w g m) (hk : b.Ok) (hr : RelB b m) (ha : askErr b.last t n = 0) :
  Calls Tryz.prog 104 #[.pointer (some ⟨g, 0, none⟩), .int .i64 t, .int .i64 n] w fun e w' => e = .returned (.int .i64 (tickOr (b.when t n))) ∧ Below w.heap.size w w' := by
 obtain ⟨n0, n1, t0, t1, ht⟩ := askErr_ok.1 ha
 have e1 := hr.most; have e2 := hr.rate
 have m0 := hk.m0; have m1 := hk.m1; have r0 := hk.r0; have r1 := hk.r1
 have hv := hr.hasAt hk ht
 have hlb := hk.lev_bd ht
 have hw : tickOr (b.when t n) = m.when t n := by rw [hr.when hk ht]; rfl
 rw [hw]
 exact rwhen_core g m.burst m.rate (m.hasAt t) t n _ w hm.c0 hm.c1 (by omega) (by omega) (by omega) (by omega) (by omega) (by omega) t0 t1 n0 n1 (rhasAt_ok g b m t w hm hk hr ht t1) rfl
end Go.Proofs.YtibhkijaafdkoaaGreatDoor

namespace Go.Proofs.YtibhkijaafdkoaaGreatDoor
open Go.RowKit
theorem news3 {w : World} {g : Nat} {x y z : Int} (h0 : w.cell? ⟨g, 0, none⟩ = some (.int .i64 x)) (h1 : w.cell? ⟨g, 1, none⟩ = some (.int .i64 y)) (h2 : w.cell? ⟨g, 2, none⟩ = some (.int .i64 z)) :
  ∀ j u, [Value.int .i64 x, .int .i64 y, .int .i64 z][j]? = some u → w.cell? ((⟨g, 0, none⟩ : Addr).add j) = some u := by
 intro j u h
 match j, h with
 | 0, h => simp at h; subst h; simpa [Addr.add] using h0
 | 1, h => simp at h; subst h; simpa [Addr.add] using h1
 | 2, h => simp at h; subst h; simpa [Addr.add] using h2
 | j + 3, h => simp at h
theorem ints_three (x y z : Int) : ∀ u ∈ [Value.int .i64 x, .int .i64 y, .int .i64 z], u.oneCell' = true := by
 intro u hu
 simp at hu
 rcases hu with rfl | rfl | rfl <;> rfl
theorem OwnP.snoc {w : World} {B : Nat} {v : Value} {q : List Pk} {x y z : Int} (h : w.ownsRow B 52 3 v (q.length + 1) (cellsP q ++ [.int .i64 x, .int .i64 y, .int .i64 z])) : OwnP w B v (q ++ [⟨x, y, z⟩]) := by
 unfold OwnP
 rw [cellsP_append, List.length_append]
 exact h
theorem ownsRow_but {S : Nat → Prop} {w w' : World} {base : Nat} {e : TypeId} {size : Nat} {v : Value} {n : Nat} {xs : List Value} (h : w.ownsRow base e size v n xs) (hb : But S w w') (hs : ∀ k, v.ownBlock = some k → ¬ S k) : w'.ownsRow base e size v n xs := by
 have hlt := World.ownsRow.lt h
 obtain ⟨h1, h2 | ⟨g, cap, cur, rfl, hB, hg, r⟩⟩ := h
 · exact ⟨h1, .inl h2⟩
 · exact ⟨h1, .inr ⟨g, cap, cur, rfl, hB, by rw [hb.block g (hlt g rfl).2 (hs g rfl)]; exact hg, r⟩⟩
end Go.Proofs.YtibhkijaafdkoaaGreatDoor

namespace Go.Proofs.YtibhkijaafdkoaaGreatDoor
open Go.RowKit
def ptrs (hs : List Nat) : List Value := hs.map fun h => .pointer (some ⟨h, 0, none⟩)
structure RsAt (w wr : World) (v : Value) (hs : List Nat) (ms : List Rb) : Prop where
 len : hs.length = ms.length
 own : wr.ownsRow w.heap.size 167 1 v hs.length (ptrs hs)
 rb : ∀ (i : Nat) h m, hs[i]? = some h → ms[i]? = some m → RbAt wr h m
 new : ∀ h, h ∈ hs → w.heap.size ≤ h ∧ v.ownBlock ≠ some h
 one : ∀ (i j : Nat) h, hs[i]? = some h → hs[j]? = some h → i = j
theorem RsAt.but {S : Nat → Prop} {w wr w' : World} {v : Value} {hs : List Nat} {ms : List Rb} (h : RsAt w wr v hs ms) (hb : But S wr w') (hv : ∀ k, v.ownBlock = some k → ¬ S k) (hh : ∀ q, q ∈ hs → ¬ S q) : RsAt w w' v hs ms :=
 ⟨h.len, ownsRow_but h.own hb hv, fun i q m hi hm => (h.rb i q m hi hm).but hb (hh q (List.mem_of_getElem? hi)), h.new, h.one⟩
theorem RsAt.below {w wr w' : World} {v : Value} {hs : List Nat} {ms : List Rb} (h : RsAt w wr v hs ms) (hb : Below wr.heap.size wr w') : RsAt w w' v hs ms :=
 h.but (S := fun _ => False) (.ofBelow hb) (fun _ _ => id) (fun _ _ => id)
theorem RsAt.lt {w wr : World} {v : Value} {hs : List Nat} {ms : List Rb} (h : RsAt w wr v hs ms) : ∀ q, q ∈ hs → q < wr.heap.size := fun q hq => by
 obtain ⟨i, hi⟩ := List.mem_iff_getElem?.1 hq
 have hil : i < ms.length := by
  rw [← h.len]
  rcases Nat.lt_or_ge i hs.length with h' | h'
  · exact h'
  · simp [List.getElem?_eq_none h'] at hi
 exact (h.rb i q _ hi (List.getElem?_eq_getElem hil)).lt
theorem RsAt.ptr {w wr : World} {G cap : Nat} {hs : List Nat} {ms : List Rb} (h : RsAt w wr (.slice (some ⟨G, 0, none⟩) hs.length cap) hs ms) (i q : Nat) (hi : hs[i]? = some q) : wr.cell? ⟨G, i, none⟩ = some (.pointer (some ⟨q, 0, none⟩)) := by
 have hil : i < hs.length := by
  rcases Nat.lt_or_ge i hs.length with h' | h'
  · exact h'
  · simp [List.getElem?_eq_none h'] at hi
 rw [h.own.cellAt i (by omega)]
 simp [ptrs, hi]
theorem rsAt_none (w wr : World) : RsAt w wr (.slice none 0 0) [] [] :=
 ⟨rfl, World.ownsRow_nil _ _ _ _, (fun i h m hi => by simp at hi), (fun h hh => by cases hh), (fun i j h hi => by simp at hi)⟩
theorem Tryz.infoPRBk : (Tryz.prog.info? 167).map (fun i => (i.zero, i.size, i.bytes)) = some (some (.pointer none), 1, 8) := by kernel_rfl
theorem grown_but {w w' : World} {v : Value} (hg : w.grownBy w' v.ownBlock) : But (fun j => v.ownBlock = some j) w w' := ⟨hg.os, hg.tape, hg.output, hg.size, fun j hj hs => hg.block j hj (fun e => hs e.symm)⟩
theorem rbAt_new (u : World) (x y : Int) : RbAt (u.alloc (.cells #[.int .i64 x, .int .i64 y, .int .i64 (1000 * x), .int .i64 0, .int .i64 0] 169)) u.heap.size (rbOf (x, y)) := by constructor <;> simp [rbOf]
theorem RsAt.more {w wr w' : World} {v : Value} {hs : List Nat} {ms : List Rb} (h : RsAt w wr v hs ms) (x y : Int) (g cap : Nat) (hsz : w.heap.size ≤ wr.heap.size)
  (hown : w'.ownsRow w.heap.size 167 1 (.slice (some ⟨g, 0, none⟩) (hs.length + 1) cap) (hs.length + 1) (ptrs hs ++ [.pointer (some ⟨wr.heap.size, 0, none⟩)]))
  (hg : World.grownBy ((wr.drew.alloc (.cells #[.int .i64 x, .int .i64 y, .int .i64 (1000 * x), .int .i64 0, .int .i64 0] 169)).alloc (.cells #[.pointer (some ⟨wr.heap.size, 0, none⟩)] 167)) w' v.ownBlock)
  (hat : v.ownBlock = some g ∨ g = wr.heap.size + 2) :
  RsAt w w' (.slice (some ⟨g, 0, none⟩) (hs.length + 1) cap) (hs ++ [wr.heap.size]) (ms ++ [rbOf (x, y)]) := by
 have hbt := grown_but hg
 have hal : Below wr.heap.size wr ((wr.drew.alloc (.cells #[.int .i64 x, .int .i64 y, .int .i64 (1000 * x), .int .i64 0, .int .i64 0] 169)).alloc (.cells #[.pointer (some ⟨wr.heap.size, 0, none⟩)] 167)) :=
  (((Below.refl _ _).drew).alloc (Nat.le_refl _) _).alloc (by simp) _
 have hA := h.below hal
 have hvlt : ∀ k, v.ownBlock = some k → k < wr.heap.size := fun k hk => (World.ownsRow.lt h.own k hk).2
 refine ⟨by simp [h.len], by simpa [ptrs] using hown, fun i q m hq hm => ?_, fun q hq => ?_, fun i j q hi hj => ?_⟩
 ·
  rcases get_snoc hq with ⟨h1, h2⟩ | ⟨h1, h2⟩
  ·
   rcases get_snoc hm with ⟨h3, h4⟩ | ⟨h3, h4⟩
   · exact (hA.rb i q m h2 h4).but hbt (fun e => (h.new q (List.mem_of_getElem? h2)).2 e)
   · rw [h.len] at h1; omega
  ·
   rcases get_snoc hm with ⟨h3, h4⟩ | ⟨h3, h4⟩
   · rw [h.len] at h1; omega
   ·
    rw [h2, h4]
    have hnew : RbAt ((wr.drew.alloc (.cells #[.int .i64 x, .int .i64 y, .int .i64 (1000 * x), .int .i64 0, .int .i64 0] 169)).alloc (.cells #[.pointer (some ⟨wr.heap.size, 0, none⟩)] 167)) wr.heap.size (rbOf (x, y)) := by
     have h0 := rbAt_new wr.drew x y
     exact h0.below ((Below.refl _ _).alloc (Nat.le_refl _) _)
    exact hnew.but hbt (fun e => by have := hvlt _ e; omega)
 ·
  rcases List.mem_append.1 hq with h1 | h1
  ·
   refine ⟨(h.new q h1).1, fun e => ?_⟩
   have e' : g = q := Option.some.inj e
   rcases hat with h2 | h2
   · exact (h.new q h1).2 (by rw [h2, e'])
   · have := h.lt q h1; omega
  ·
   simp at h1
   subst h1
   refine ⟨hsz, fun e => ?_⟩
   have e' : g = wr.heap.size := Option.some.inj e
   rcases hat with h2 | h2
   · have := hvlt g h2; omega
   · omega
 ·
  rcases get_snoc hi with ⟨h1, h2⟩ | ⟨h1, h2⟩ <;> rcases get_snoc hj with ⟨h3, h4⟩ | ⟨h3, h4⟩
  · exact h.one i j q h2 h4
  · have := h.lt q (List.mem_of_getElem? h2); omega
  · have := h.lt q (List.mem_of_getElem? h4); omega
  · omega
theorem passT_more {bs : List Bk} {b : Bk} {t n u T : Int} (hok : ∀ c, c ∈ bs → c.Ok) (hb : b.Ok) (t1 : t ≤ 1099511627776) (h1 : passT bs t n = some u) (h2 : b.when t n = some T) : passT (bs ++ [b]) t n = some (if u < T then T else u) := by
 obtain ⟨a1, a2, a3, a4⟩ := passT_some bs t u hok t1 h1
 obtain ⟨c1, c2, c3, c4⟩ := b.when_some hb t1 h2
 have hok' : ∀ c, c ∈ bs ++ [b] → c.Ok := fun c hc => by
  rcases List.mem_append.1 hc with h | h
  · exact hok c h
  · simp at h; rw [h]; exact hb
 have hM : (if u < T then T else u) = max u T := max_if u T
 rw [hM]
 refine passT_is hok' (by omega) (by omega) (fun c hc => ?_) (fun s h3 h4 h5 => ?_)
 ·
  rcases List.mem_append.1 hc with h | h
  ·
   have := a3 c h
   have := Bk.lev_mono (hok c h).r0 (show u ≤ max u T by omega)
   omega
  ·
   simp at h; rw [h]
   have := Bk.lev_mono hb.r0 (show T ≤ max u T by omega)
   omega
 ·
  by_cases hs : s < u
  · exact a4 s h3 hs (fun c hc => h5 c (List.mem_append_left _ hc))
  ·
   have := c4 s h3 (by omega)
   have := h5 b (by simp)
   omega
theorem passT_lacks {bs : List Bk} {b : Bk} {t n : Int} (hok : ∀ c, c ∈ bs → c.Ok) (hm : b ∈ bs) (t1 : t ≤ 1099511627776) (h2 : b.when t n = none) : passT bs t n = none := by
 cases e : passT bs t n with
 | none => rfl
 | some U =>
  obtain ⟨a1, a2, a3, -⟩ := passT_some bs t U hok t1 e
  have := b.when_none (hok b hm) h2 U a1 a2
  have := a3 b hm
  omega
end Go.Proofs.YtibhkijaafdkoaaGreatDoor
