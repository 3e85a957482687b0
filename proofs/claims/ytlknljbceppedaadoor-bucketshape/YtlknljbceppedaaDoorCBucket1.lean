/- Walks: a bucket's line, what a bucket has, what is asked amiss. -/
import Derived.Test.YtlknljbceppedaaDoorCAllWalks
import Derived.Test.YtlknljbceppedaaDoorCPlainShape
import Derived.Test.YtlknljbceppedaaDoorCTicks
import Derived.Deep.RegionHeldLaw
namespace Go.Proofs.YtlknljbceppedaaDoor
open Go.RowKit

/-- A bucket in memory. -/
structure BkAt (w : World) (g : Nat) (b : Bk) : Prop where
  c0 : w.cell? ⟨g, 0, none⟩ = some (.int .i64 b.most)
  c1 : w.cell? ⟨g, 1, none⟩ = some (.int .i64 b.rate)
  c2 : w.cell? ⟨g, 2, none⟩ = some (.int .i64 b.has)
  c3 : w.cell? ⟨g, 3, none⟩ = some (.int .i64 b.last)
  f2 : w.frozen? ⟨g, 2, none⟩ = false
  f3 : w.frozen? ⟨g, 3, none⟩ = false
theorem BkAt.lt {w : World} {g : Nat} {b : Bk} (h : BkAt w g b) : g < w.heap.size := cell_lt h.c0
theorem BkAt.but {S : Nat → Prop} {w w' : World} {g : Nat} {b : Bk} (h : BkAt w g b) (hb : But S w w') (hs : ¬ S g) : BkAt w' g b :=
  have l := h.lt
  ⟨by rw [hb.cell (p := ⟨g, 0, none⟩) l hs]; exact h.c0, by rw [hb.cell (p := ⟨g, 1, none⟩) l hs]; exact h.c1, by rw [hb.cell (p := ⟨g, 2, none⟩) l hs]; exact h.c2, by rw [hb.cell (p := ⟨g, 3, none⟩) l hs]; exact h.c3,
   by rw [hb.frozen (p := ⟨g, 2, none⟩) l hs]; exact h.f2, by rw [hb.frozen (p := ⟨g, 3, none⟩) l hs]; exact h.f3⟩
theorem BkAt.below {w w' : World} {g : Nat} {b : Bk} (h : BkAt w g b) (hb : Below w.heap.size w w') : BkAt w' g b := h.but (S := fun _ => False) (.ofBelow hb) id

set_option maxHeartbeats 400000 in
theorem after_ok (m r h d : Int) (w : World) (h0 : 0 ≤ h) (h1 : h ≤ 20000000) (r0 : 0 ≤ r * d) (r1 : r * d ≤ 109951162777600000) :
    Calls Tryd.prog 94 #[.agg #[.int .i64 m, .int .i64 r], .int .i64 h, .int .i64 d] w fun e w' => e = .returned (.int .i64 (min m (h + r * d))) ∧ w' = w.alloc (.cells #[.int .i64 m, .int .i64 r] 118) := by
  go_enter Tryd.func94, Tryd.ntmps94
  go_wp2
  all_goals
    go_ret
    exact ⟨congrArg (fun z => Ending.returned (.int .i64 z)) (by omega), rfl⟩

set_option maxHeartbeats 400000 in
theorem hasAt_core (g : Nat) (m r h l t v : Int) (w : World) (c0 : w.cell? ⟨g, 0, none⟩ = some (.int .i64 m)) (c1 : w.cell? ⟨g, 1, none⟩ = some (.int .i64 r)) (c2 : w.cell? ⟨g, 2, none⟩ = some (.int .i64 h)) (c3 : w.cell? ⟨g, 3, none⟩ = some (.int .i64 l)) (l0 : 0 ≤ l) (ht : l ≤ t) (t1 : t ≤ 1099511627776)
    (H : Hid (∀ w' : World, Calls Tryd.prog 94 #[.agg #[.int .i64 m, .int .i64 r], .int .i64 h, .int .i64 (t - l)] w' fun e w'' => e = .returned (.int .i64 v) ∧ w'' = w'.alloc (.cells #[.int .i64 m, .int .i64 r] 118))) :
    Calls Tryd.prog 77 #[.pointer (some ⟨g, 0, none⟩), .int .i64 t] w fun e w' => e = .returned (.int .i64 v) ∧ Below w.heap.size w w' := by
  have hw : IntKind.i64.wrap (t - l) = t - l := IntWalk.i64_in _ (by omega)
  go_enter Tryd.func77, Tryd.ntmps77
  go_wp2_with fail
  go_region_with (first
    | (go_simp; go_at_call 94; go_must (refine (H.out _).mono ?_; rintro e w1 ⟨rfl, rfl⟩))
    | fail)
  all_goals
    go_wp2_with fail
    go_ret
    exact ⟨rfl, (Below.refl _ _).drew.alloc (Nat.le_refl _) _⟩
theorem hasAt_ok (g : Nat) (b : Bk) (t : Int) (w : World) (hb : BkAt w g b) (hk : b.Ok) (ht : b.last ≤ t) (t1 : t ≤ 1099511627776) :
    Calls Tryd.prog 77 #[.pointer (some ⟨g, 0, none⟩), .int .i64 t] w fun e w' => e = .returned (.int .i64 (b.lev t)) ∧ Below w.heap.size w w' := by
  obtain ⟨r0, r1⟩ := hk.grow ht t1
  exact hasAt_core g b.most b.rate b.has b.last t (b.lev t) w hb.c0 hb.c1 hb.c2 hb.c3 hk.l0 ht t1 (fun w' => after_ok b.most b.rate b.has (t - b.last) w' hk.h0 (by have := hk.h1; have := hk.m1; omega) r0 r1)

end Go.Proofs.YtlknljbceppedaaDoor
