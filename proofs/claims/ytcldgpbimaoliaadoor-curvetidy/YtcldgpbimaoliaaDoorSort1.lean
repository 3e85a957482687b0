/- The order of the lines: the closure that slices.SortFunc is handed. -/
import Derived.Test.YtcldgpbimaoliaaDoorWalk6
import Derived.Deep.RegionLaw
import Derived.Deep.RegionHeld
import Derived.Sort.Grow
namespace Go.Proofs.YtcldgpbimaoliaaDoor
open Go.RowKit Go.Sort

/-- cmp.Compare of two ints. -/
def cmpI (a b : Int) : Int := if a < b then -1 else if b < a then 1 else 0
/-- By rate falling, then by burst falling. -/
def cmpL (x y : Int × Int) : Int := if cmpI y.2 x.2 = 0 then cmpI y.1 x.1 else cmpI y.2 x.2

theorem compare_any (a b : Int) (w : World) : Calls Tryd.prog 101 #[.int .i64 a, .int .i64 b] w fun e w' => e = .returned (.int .i64 (cmpI a b)) ∧ w' = w := by
  by_cases h1 : a < b
  · have HC : Hid (cmpI a b = -1) := by show _ = _; unfold cmpI; rw [if_pos h1]
    go_enter Tryd.func101, Tryd.ntmps101
    go_wp2
    go_ret
    exact ⟨congrArg (fun z => Ending.returned (.int .i64 z)) HC.out.symm, rfl⟩
  · by_cases h2 : b < a
    · have HC : Hid (cmpI a b = 1) := by show _ = _; unfold cmpI; rw [if_neg h1, if_pos h2]
      go_enter Tryd.func101, Tryd.ntmps101
      go_wp2
      go_ret
      exact ⟨congrArg (fun z => Ending.returned (.int .i64 z)) HC.out.symm, rfl⟩
    · have HC : Hid (cmpI a b = 0) := by show _ = _; unfold cmpI; rw [if_neg h1, if_neg h2]
      go_enter Tryd.func101, Tryd.ntmps101
      go_wp2
      go_ret
      exact ⟨congrArg (fun z => Ending.returned (.int .i64 z)) HC.out.symm, rfl⟩

theorem or_any (c1 c2 : Int) (B : Nat) (w : World) (h1 : w.cell? ⟨B, 0, none⟩ = some (.int .i64 c1)) (h2 : w.cell? ⟨B, 1, none⟩ = some (.int .i64 c2)) :
    Calls Tryd.prog 100 #[.slice (some ⟨B, 0, none⟩) 2 2] w fun e w' => e = .returned (.int .i64 (if c1 = 0 then c2 else c1)) ∧ w' = w := by
  by_cases hc : c1 = 0
  · subst hc
    by_cases hd : c2 = 0
    · subst hd
      go_enter Tryd.func100, Tryd.ntmps100
      go_wp2
      refine wp_loop_rounds 3 ?_
      rw [rounds_succ]
      go_wp2
      rw [rounds_succ]
      go_wp2
      rw [rounds_succ]
      go_wp2
      go_ret
      exact ⟨rfl, rfl⟩
    · have hd' : (c2 == 0) = false := by simpa using hd
      go_enter Tryd.func100, Tryd.ntmps100
      go_wp2
      refine wp_loop_rounds 2 ?_
      rw [rounds_succ]
      go_wp2
      rw [rounds_succ]
      go_wp2
      go_ret
      exact ⟨rfl, rfl⟩
  · have hc' : (c1 == 0) = false := by simpa using hc
    rw [if_neg hc]
    go_enter Tryd.func100, Tryd.ntmps100
    go_wp2
    refine wp_loop_rounds 1 ?_
    rw [rounds_succ]
    go_wp2
    go_ret
    exact ⟨rfl, rfl⟩

theorem twoB_three (w : World) (o1 o2 : Obj) (u v : Value) (t : TypeId) : (((w.alloc o1).alloc o2).alloc (.cells #[u, v] t)).cell? ⟨w.heap.size + 1 + 1, 0, none⟩ = some u ∧ (((w.alloc o1).alloc o2).alloc (.cells #[u, v] t)).cell? ⟨w.heap.size + 1 + 1, 1, none⟩ = some v := by
  rw [World.cell?_alloc_at _ _ _ _ (by simp), World.cell?_alloc_at _ _ _ _ (by simp)]
  exact ⟨rfl, rfl⟩
theorem third_at (w : World) (o1 o2 : Obj) (u v : Value) (t : TypeId) : (((w.alloc o1).alloc o2).alloc (.cells #[u, v] t)).drew.cell? ⟨w.heap.size + 1 + 1, 0, none⟩ = some u ∧ (((w.alloc o1).alloc o2).alloc (.cells #[u, v] t)).drew.cell? ⟨w.heap.size + 1 + 1, 1, none⟩ = some v := by
  have h0 := (twoB_three w o1 o2 u v t).1
  have h1 := (twoB_three w o1 o2 u v t).2
  exact ⟨h0, h1⟩

theorem three_grow (w : World) (o1 o2 o3 : Obj) : (((w.alloc o1).alloc o2).alloc o3).drew = grow (w.drewN 1) #[o1, o2, o3] := by
  rw [alloc_eq_grow, alloc_eq_grow, alloc_eq_grow, grow_grow, grow_grow]
  rfl

set_option maxRecDepth 100000 in
set_option maxHeartbeats 400000 in
theorem order_call (x y : Int × Int) (w : World) :
    Calls Tryd.prog 99 #[.agg #[.int .i64 x.1, .int .i64 x.2], .agg #[.int .i64 y.1, .int .i64 y.2]] w fun e w' => e = .returned (.int .i64 (cmpL x y)) ∧ ∃ q os', w' = grow (w.drewN q) os' := by
  obtain ⟨x1, x2⟩ := x
  obtain ⟨y1, y2⟩ := y
  have HL : Hid (cmpL (x1, x2) (y1, y2) = if cmpI y2 x2 = 0 then cmpI y1 x1 else cmpI y2 x2) := rfl
  have hc1 := fun W => compare_any y2 x2 W
  have hc2 := fun W => compare_any y1 x1 W
  obtain ⟨r1, hr1⟩ : ∃ r, cmpI y2 x2 = r := ⟨_, rfl⟩
  obtain ⟨r2, hr2⟩ : ∃ r, cmpI y1 x1 = r := ⟨_, rfl⟩
  rw [hr1] at hc1
  rw [hr2] at hc2
  have HR : Hid (cmpI y2 x2 = r1 ∧ cmpI y1 x1 = r2) := ⟨hr1, hr2⟩
  have H1 : Hid (∀ W : World, Calls Tryd.prog 101 #[.int .i64 y2, .int .i64 x2] W fun e w' => e = .returned (.int .i64 r1) ∧ w' = W) := hc1
  have H2 : Hid (∀ W : World, Calls Tryd.prog 101 #[.int .i64 y1, .int .i64 x1] W fun e w' => e = .returned (.int .i64 r2) ∧ w' = W) := hc2
  have h3 := fun B W => or_any r1 r2 B W
  obtain ⟨R, hR⟩ : ∃ R, (if r1 = 0 then r2 else r1) = R := ⟨_, rfl⟩
  rw [hR] at h3
  have HQ : Hid ((if r1 = 0 then r2 else r1) = R) := hR
  have H3 : Hid (∀ B (W : World), W.cell? ⟨B, 0, none⟩ = some (.int .i64 r1) → W.cell? ⟨B, 1, none⟩ = some (.int .i64 r2) → Calls Tryd.prog 100 #[.slice (some ⟨B, 0, none⟩) 2 2] W fun e w' => e = .returned (.int .i64 R) ∧ w' = W) := h3
  clear hc1 hc2 hr1 hr2 h3 hR
  go_enter Tryd.func99, Tryd.ntmps99
  go_wp2_with fail
  go_region_held (fun w' => w'.cell? ⟨w.heap.size, 0, none⟩ = some (.int .i64 x1) ∧ w'.cell? ⟨w.heap.size, 1, none⟩ = some (.int .i64 x2) ∧ w'.cell? ⟨w.heap.size + 1, 0, none⟩ = some (.int .i64 y1) ∧ w'.cell? ⟨w.heap.size + 1, 1, none⟩ = some (.int .i64 y2)) (go_keep)
    (first
    | (go_at_call_of 101 (Value.int IntKind.i64 y2); refine (H1.out _).mono ?_; rintro e w' ⟨rfl, rfl⟩)
    | (go_at_call_of 101 (Value.int IntKind.i64 y1); refine (H2.out _).mono ?_; rintro e w' ⟨rfl, rfl⟩)
    | (go_at_call 100; refine (H3.out _ _ (third_at _ _ _ _ _ _).1 (third_at _ _ _ _ _ _).2).mono ?_; rintro e w' ⟨rfl, rfl⟩))
  all_goals (go_wp2_with fail; go_ret)
  all_goals exact ⟨congrArg (fun z => Ending.returned (.int .i64 z)) (by rw [HL.out, HR.out.1, HR.out.2, HQ.out]), 1, _, three_grow _ _ _ _⟩
end Go.Proofs.YtcldgpbimaoliaaDoor
