/- Walks: the reference's bucket: HasAt, Error. -/
import Derived.Test.YtlknljbceppedaaDoorCBucket4
import Derived.Test.YtlknljbceppedaaDoorCPlainRef
namespace Go.Proofs.YtlknljbceppedaaDoor
open Go.RowKit

/-- The reference's bucket in memory. -/
structure RbAt (w : World) (g : Nat) (m : Rb) : Prop where
  c0 : w.cell? ⟨g, 0, none⟩ = some (.int .i64 m.burst)
  c1 : w.cell? ⟨g, 1, none⟩ = some (.int .i64 m.rate)
  c2 : w.cell? ⟨g, 2, none⟩ = some (.int .i64 m.has)
  c3 : w.cell? ⟨g, 3, none⟩ = some (.int .i64 m.tick)
  c4 : w.cell? ⟨g, 4, none⟩ = some (.int .i64 m.last)
  f2 : w.frozen? ⟨g, 2, none⟩ = false
  f3 : w.frozen? ⟨g, 3, none⟩ = false
  f4 : w.frozen? ⟨g, 4, none⟩ = false
theorem RbAt.lt {w : World} {g : Nat} {m : Rb} (h : RbAt w g m) : g < w.heap.size := cell_lt h.c0
theorem RbAt.but {S : Nat → Prop} {w w' : World} {g : Nat} {m : Rb} (h : RbAt w g m) (hb : But S w w') (hs : ¬ S g) : RbAt w' g m :=
  have l := h.lt
  ⟨by rw [hb.cell (p := ⟨g, 0, none⟩) l hs]; exact h.c0, by rw [hb.cell (p := ⟨g, 1, none⟩) l hs]; exact h.c1, by rw [hb.cell (p := ⟨g, 2, none⟩) l hs]; exact h.c2, by rw [hb.cell (p := ⟨g, 3, none⟩) l hs]; exact h.c3, by rw [hb.cell (p := ⟨g, 4, none⟩) l hs]; exact h.c4,
   by rw [hb.frozen (p := ⟨g, 2, none⟩) l hs]; exact h.f2, by rw [hb.frozen (p := ⟨g, 3, none⟩) l hs]; exact h.f3, by rw [hb.frozen (p := ⟨g, 4, none⟩) l hs]; exact h.f4⟩
theorem RbAt.below {w w' : World} {g : Nat} {m : Rb} (h : RbAt w g m) (hb : Below w.heap.size w w') : RbAt w' g m := h.but (S := fun _ => False) (.ofBelow hb) id

set_option maxRecDepth 100000 in
set_option maxHeartbeats 1000000 in
theorem rhasAt_core (g : Nat) (B r h k t : Int) (w : World) (c0 : w.cell? ⟨g, 0, none⟩ = some (.int .i64 B)) (c1 : w.cell? ⟨g, 1, none⟩ = some (.int .i64 r)) (c2 : w.cell? ⟨g, 2, none⟩ = some (.int .i64 h)) (c3 : w.cell? ⟨g, 3, none⟩ = some (.int .i64 k))
    (B0 : 1 ≤ B) (B1 : B ≤ 20000) (r0 : 0 ≤ r) (r1 : r ≤ 100000) (h0 : 0 ≤ h) (h1 : h ≤ 1000 * B) (k0 : 0 ≤ k) (k1 : k ≤ t) (t1 : t ≤ 1099511627776) (v : Int)
    (hv : v = if r = 0 ∨ h = 1000 * B then h else if (1000 * B - h) / r < t - k then 1000 * B else h + (t - k) * r) :
    Calls Tryd.prog 54 #[.pointer (some ⟨g, 0, none⟩), .int .i64 t] w fun e w' => e = .returned (.int .i64 v) ∧ Below w.heap.size w w' := by
  by_cases hr : r = 0
  · rw [if_pos (.inl hr)] at hv
    subst hr hv
    go_enter Tryd.func54, Tryd.ntmps54
    go_wp2
    go_ret
    exact ⟨rfl, Below.refl _ _⟩
  · have hrb : (r == 0) = false := by simpa using hr
    by_cases hh : h = 1000 * B
    · rw [if_pos (.inr hh)] at hv
      subst hh hv
      go_enter Tryd.func54, Tryd.ntmps54
      go_wp2
      go_ret
      exact ⟨rfl, Below.refl _ _⟩
    · have hhb : (h == 1000 * B) = false := by simpa using hh
      rw [if_neg (by simp [hr, hh])] at hv
      have hr1 : 1 ≤ r := by omega
      by_cases hq : (1000 * B - h) / r < t - k
      · rw [if_pos hq] at hv
        subst hv
        go_enter Tryd.func54, Tryd.ntmps54
        go_wp2
        go_ret
        exact ⟨rfl, Below.refl _ _⟩
      · rw [if_neg hq] at hv
        obtain ⟨m0, m1⟩ := mul_bd r0 r1 (show 0 ≤ t - k by omega) (show t - k ≤ 1099511627776 by omega)
        rw [Int.mul_comm] at m0 m1
        subst hv
        go_enter Tryd.func54, Tryd.ntmps54
        go_wp2
        go_quiet (fail)
        go_wp2
        go_ret
        exact ⟨rfl, below_drewN (Below.refl _ _) _⟩

theorem rhasAt_ok (g : Nat) (b : Bk) (m : Rb) (t : Int) (w : World) (hm : RbAt w g m) (hk : b.Ok) (hr : RelB b m) (ht : b.last ≤ t) (t1 : t ≤ 1099511627776) :
    Calls Tryd.prog 54 #[.pointer (some ⟨g, 0, none⟩), .int .i64 t] w fun e w' => e = .returned (.int .i64 (m.hasAt t)) ∧ Below w.heap.size w w' := by
  have e1 := hr.most; have e2 := hr.rate; have e3 := hr.last; have e4 := hr.t1
  have m0 := hk.m0; have m1 := hk.m1; have r0 := hk.r0; have r1 := hk.r1
  exact rhasAt_core g m.burst m.rate m.has m.tick t w hm.c0 hm.c1 hm.c2 hm.c3 (by omega) (by omega) (by omega) (by omega) hr.h0 hr.h1 hr.t0 (by omega) t1 _ rfl

set_option maxHeartbeats 1000000 in
theorem rerror_any (g : Nat) (l t n : Int) (w : World) (c4 : w.cell? ⟨g, 4, none⟩ = some (.int .i64 l)) :
    Calls Tryd.prog 51 #[.pointer (some ⟨g, 0, none⟩), .int .i64 t, .int .i64 n] w fun e w' => e = .returned (.int .i64 (askErr l t n)) ∧ w' = w := by
  by_cases h : t < 0 ∨ (0 ≤ t ∧ 1099511627776 < t) ∨ (0 ≤ t ∧ t ≤ 1099511627776 ∧ n < 1) ∨ (0 ≤ t ∧ t ≤ 1099511627776 ∧ 1 ≤ n ∧ 1500 < n)
  · have e : ((askErr l t n : Nat) : Int) = 2 := by
      have : askErr l t n = 2 := by
        unfold askErr tickErr
        split
        · rw [if_neg (by omega)]
        · rfl
      rw [this]; rfl
    rw [e]
    clear e
    rcases h with h1 | ⟨h1, h2⟩ | ⟨h1, h2, h3⟩ | ⟨h1, h2, h3, h4⟩
    all_goals
      go_enter Tryd.func51, Tryd.ntmps51
      go_wp2
      go_ret
      exact ⟨rfl, rfl⟩
  · have h1 : 0 ≤ t := by omega
    have h2 : t ≤ 1099511627776 := by omega
    have h3 : 1 ≤ n := by omega
    have h4 : n ≤ 1500 := by omega
    clear h
    by_cases hl : t < l
    · have e : ((askErr l t n : Nat) : Int) = 5 := by
        have : askErr l t n = 5 := by unfold askErr tickErr; rw [if_pos ⟨h3, h4⟩, if_pos ⟨h1, h2⟩, if_pos hl]
        rw [this]; rfl
      rw [e]
      clear e
      go_enter Tryd.func51, Tryd.ntmps51
      go_wp2
      go_ret
      exact ⟨rfl, rfl⟩
    · have e : ((askErr l t n : Nat) : Int) = 0 := by
        have : askErr l t n = 0 := by unfold askErr tickErr; rw [if_pos ⟨h3, h4⟩, if_pos ⟨h1, h2⟩, if_neg hl]
        rw [this]; rfl
      rw [e]
      clear e
      go_enter Tryd.func51, Tryd.ntmps51
      go_wp2
      go_ret
      exact ⟨rfl, rfl⟩
end Go.Proofs.YtlknljbceppedaaDoor
