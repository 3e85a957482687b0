/- Own facts, put together: no statement of its own. -/
import Derived.BigRegion
import Derived.Deep.LoopGhost
import Derived.Deep.RegionHeld
import Derived.Test.YtepnfioldbhffabDoorCAllTurns
import Derived.Test.YtepnfioldbhffabDoorCAllRounds
import Derived.Test.YtepnfioldbhffabDoorCAllLates
import Derived.Test.YtepnfioldbhffabDoorCIsFlow

/- Walks: package round's helpers of Spread. -/
namespace Go.Proofs.YtepnfioldbhffabDoor
open Go.RowKit

/-- The variable that tells of each flow whether packets are behind, and their least tick. -/
structure BehCells (w : World) (g : Nat) (are : Nat → Bool) (least : Nat → Int) : Prop where
  ca : ∀ f, f < 8 → w.cell? ⟨g, f, none⟩ = some (.bool (are f))
  cl : ∀ f, f < 8 → w.cell? ⟨g, 8 + f, none⟩ = some (.int .i64 (least f))
  free : ∀ i, w.frozen? ⟨g, i, none⟩ = false
  lt : g < w.heap.size
section
variable {w w' : World} {g : Nat} {are : Nat → Bool} {least : Nat → Int}
theorem BehCells.of_block (h : BehCells w g are least) (hb : w'.heap[g]? = w.heap[g]?) (hs : w.heap.size ≤ w'.heap.size) : BehCells w' g are least :=
  ⟨fun f hf => (World.cell?_of_block (a := ⟨g, f, none⟩) hb).trans (h.ca f hf), fun f hf => (World.cell?_of_block (a := ⟨g, 8 + f, none⟩) hb).trans (h.cl f hf), fun i => (World.frozen?_of_block (a := ⟨g, i, none⟩) hb).trans (h.free i), Nat.lt_of_lt_of_le h.lt hs⟩
theorem BehCells.later (h : BehCells w g are least) (hb : Below w.heap.size w w') : BehCells w' g are least := h.of_block (hb.block g h.lt) hb.size
theorem BehCells.set (h : BehCells w g are least) {f : Nat} (hf : f < 8) (t : Int) : BehCells ((w.setCell ⟨g, f, none⟩ (.bool true)).setCell ⟨g, 8 + f, none⟩ (.int .i64 t)) g (put1 are f true) (put1 least f t) := by
  refine ⟨fun j hj => ?_, fun j hj => ?_, fun i => by rw [World.frozen?_setCell, World.frozen?_setCell]; exact h.free i, by simp [World.setCell]; exact h.lt⟩
  · rw [far _ _ _ _ _ (by omega)]
    by_cases e : j = f
    · subst e
      rw [put1_same]
      exact World.cell?_setCell_same _ _ _ (h.ca j hj)
    · rw [put1_other _ _ e, far _ _ _ _ _ (by omega)]
      exact h.ca j hj
  · by_cases e : j = f
    · subst e
      rw [put1_same]
      exact World.cell?_setCell_same _ _ _ ((far _ _ _ _ _ (by omega)).trans (h.cl j hj))
    · rw [put1_other _ _ e, far _ _ _ _ _ (by omega), far _ _ _ _ _ (by omega)]
      exact h.cl j hj
end

set_option maxHeartbeats 1000000 in
theorem behWaits (g : Nat) (are : Nat → Bool) (least : Nat → Int) (f : Nat) (now : Int) (w : World) (h : BehCells w g are least) (hf : f < 8) :
    Calls Tryd.prog 62 #[.pointer (some ⟨g, 0, none⟩), .int .i64 (f : Int), .int .i64 now] w fun e w' => e = .returned (.bool (are f && decide (least f ≤ now))) ∧ w' = w := by
  have c1 := h.ca f hf
  have c2 := h.cl f hf
  generalize are f = A at *
  generalize least f = L at *
  clear h
  cases A with
  | true =>
    go_enter Tryd.func62, Tryd.ntmps62
    go_wp2
    go_ret
    exact ⟨by simp, rfl⟩
  | false =>
    go_enter Tryd.func62, Tryd.ntmps62
    go_wp2
    go_ret
    exact ⟨by simp, rfl⟩

set_option maxRecDepth 100000 in
set_option maxHeartbeats 2000000 in
theorem stretchMost (g : Nat) (hi lo : Int) (w : World) (c1 : w.cell? ⟨g, 1, none⟩ = some (.int .i64 hi)) (c2 : w.cell? ⟨g, 2, none⟩ = some (.int .i64 lo)) (b1 : -1000000000000 ≤ lo ∧ lo ≤ 1000000000000) (b2 : -1000000000000 ≤ hi ∧ hi ≤ 1000000000000) :
    Calls Tryd.prog 65 #[.pointer (some ⟨g, 0, none⟩)] w fun e w' => e = .returned (.int .i64 (hi - lo)) ∧ ∃ m, w' = w.drewN m := by
  have hw : IntKind.i64.wrap (hi - lo) = hi - lo := IntWalk.i64_in _ (by omega)
  go_enter Tryd.func65, Tryd.ntmps65
  go_wp2_with fail
  go_quiet (fail)
  go_wp2_with fail
  go_ret
  exact ⟨rfl, _, rfl⟩

/-- The variable that tells of a stretch. -/
structure StrCells (w : World) (g : Nat) (su hi lo : Int) : Prop where
  c0 : w.cell? ⟨g, 0, none⟩ = some (.int .i64 su)
  c1 : w.cell? ⟨g, 1, none⟩ = some (.int .i64 hi)
  c2 : w.cell? ⟨g, 2, none⟩ = some (.int .i64 lo)
  free : ∀ i, w.frozen? ⟨g, i, none⟩ = false
section
variable {w w' : World} {g : Nat} {su hi lo : Int}
theorem StrCells.lt (h : StrCells w g su hi lo) : g < w.heap.size := cell_lt h.c0
theorem StrCells.of_block (h : StrCells w g su hi lo) (hb : w'.heap[g]? = w.heap[g]?) : StrCells w' g su hi lo :=
  ⟨(World.cell?_of_block (a := ⟨g, 0, none⟩) hb).trans h.c0, (World.cell?_of_block (a := ⟨g, 1, none⟩) hb).trans h.c1, (World.cell?_of_block (a := ⟨g, 2, none⟩) hb).trans h.c2, fun i => (World.frozen?_of_block (a := ⟨g, i, none⟩) hb).trans (h.free i)⟩
theorem StrCells.later (h : StrCells w g su hi lo) (hb : Below w.heap.size w w') : StrCells w' g su hi lo := h.of_block (hb.block g h.lt)
theorem StrCells.set0 (h : StrCells w g su hi lo) (x : Int) : StrCells (w.setCell ⟨g, 0, none⟩ (.int .i64 x)) g x hi lo :=
  ⟨World.cell?_setCell_same _ _ _ h.c0, (far _ _ _ _ _ (by omega)).trans h.c1, (far _ _ _ _ _ (by omega)).trans h.c2, fun i => by rw [World.frozen?_setCell]; exact h.free i⟩
theorem StrCells.set1 (h : StrCells w g su hi lo) (x : Int) : StrCells (w.setCell ⟨g, 1, none⟩ (.int .i64 x)) g su x lo :=
  ⟨(far _ _ _ _ _ (by omega)).trans h.c0, World.cell?_setCell_same _ _ _ h.c1, (far _ _ _ _ _ (by omega)).trans h.c2, fun i => by rw [World.frozen?_setCell]; exact h.free i⟩
theorem StrCells.set2 (h : StrCells w g su hi lo) (x : Int) : StrCells (w.setCell ⟨g, 2, none⟩ (.int .i64 x)) g su hi x :=
  ⟨(far _ _ _ _ _ (by omega)).trans h.c0, (far _ _ _ _ _ (by omega)).trans h.c1, World.cell?_setCell_same _ _ _ h.c2, fun i => by rw [World.frozen?_setCell]; exact h.free i⟩
end

set_option maxRecDepth 100000 in
set_option maxHeartbeats 4000000 in
theorem stretchAdd (g : Nat) (su hi lo x : Int) (w : World) (h : StrCells w g su hi lo) (b : -1000000000000 ≤ su + x ∧ su + x ≤ 1000000000000) :
    Calls Tryd.prog 63 #[.pointer (some ⟨g, 0, none⟩), .int .i64 x] w fun e w' => e = .returned (.tuple #[]) ∧ StrCells w' g (su + x) (max hi (su + x)) (min lo (su + x)) ∧ But (fun k => k = g) w w' := by
  have hw : IntKind.i64.wrap (su + x) = su + x := IntWalk.i64_in _ (by omega)
  have c0 := h.c0
  have f0 := h.free 0
  have H1 : Hid (StrCells (w.setCell ⟨g, 0, none⟩ (.int .i64 (su + x))) g (su + x) hi lo) := h.set0 _
  have HB1 : Hid (But (fun k => k = g) w (w.setCell ⟨g, 0, none⟩ (.int .i64 (su + x)))) := butG _ _ _ _
  clear h
  go_enter Tryd.func63, Tryd.ntmps63
  go_wp2_with fail
  obtain ⟨V, hV⟩ : ∃ V, w.setCell ⟨g, 0, none⟩ (.int .i64 (su + x)) = V := ⟨_, rfl⟩
  rw [hV] at H1 HB1 ⊢
  obtain ⟨s', hs'⟩ : ∃ s', su + x = s' := ⟨_, rfl⟩
  rw [hs'] at H1
  have HS : Hid (su + x = s') := hs'
  have v0 := H1.out.c0
  have v1 := H1.out.c1
  have g1 := H1.out.free 1
  clear hV hs' c0 f0
  go_region
  have H2 : Hid (StrCells (V.setCell ⟨g, 1, none⟩ (.int .i64 (max hi s'))).drew g s' (max hi s') lo) := (H1.out.set1 _).later (Below.refl _ _).drew
  have HB2 : Hid (But (fun k => k = g) w (V.setCell ⟨g, 1, none⟩ (.int .i64 (max hi s'))).drew) := (HB1.out.trans (butG _ _ _ _)).drew
  obtain ⟨U, hU⟩ : ∃ U, (V.setCell ⟨g, 1, none⟩ (.int .i64 (max hi s'))).drew = U := ⟨_, rfl⟩
  rw [hU] at H2 HB2 ⊢
  have u0 := H2.out.c0
  have u2 := H2.out.c2
  have g2 := H2.out.free 2
  clear hU v0 v1 g1
  go_wp2_with fail
  go_region
  have H3 : Hid (StrCells (U.setCell ⟨g, 2, none⟩ (.int .i64 (min lo s'))).drew g s' (max hi s') (min lo s')) := (H2.out.set2 _).later (Below.refl _ _).drew
  have HB3 : Hid (But (fun k => k = g) w (U.setCell ⟨g, 2, none⟩ (.int .i64 (min lo s'))).drew) := (HB2.out.trans (butG _ _ _ _)).drew
  go_wp2_with fail
  go_end0
  rw [HS.out]
  exact ⟨rfl, H3.out, HB3.out⟩

set_option maxRecDepth 100000 in
set_option maxHeartbeats 4000000 in
theorem lead_is (fl a b : Nat) (sz tk : Int) (na : Option Addr) (ncap : Nat) (ns : List Int) (w : World) (hn : LiesN w na ns) (h8 : ns.length = 8) (ha : a < 8) (hb : b < 8) (hz : 0 ≤ sz ∧ sz ≤ 1500) (hq : ∀ (i : Nat) x, ns[i]? = some x → 0 ≤ x ∧ x ≤ 100000) :
    Calls Tryd.prog 64 #[.agg #[.int .i64 (fl : Int), .int .i64 sz, .int .i64 tk], .slice na 8 ncap, .int .i64 (a : Int), .int .i64 (b : Int)] w fun e w' => e = .returned (.int .i64 ((if fl = a then sz * ns.getD b 0 else 0) - (if fl = b then sz * ns.getD a 0 else 0))) ∧ Below w.heap.size w w' := by
  obtain ⟨qb, off, rfl, hlt, hc⟩ := hn.place (by omega)
  obtain ⟨x, hx, -⟩ := get_some ns a (by omega)
  obtain ⟨y, hy, -⟩ := get_some ns b (by omega)
  have cx := hc a x hx
  have cy := hc b y hy
  have ex : ns.getD a 0 = x := by simp [List.getD, hx]
  have ey : ns.getD b 0 = y := by simp [List.getD, hy]
  rw [ex, ey]
  have rx := hq a x hx
  have ry := hq b y hy
  have px0 : 0 ≤ sz * x := Int.mul_nonneg hz.1 rx.1
  have px1 : sz * x ≤ 1500 * 100000 := Int.mul_le_mul hz.2 rx.2 rx.1 (by omega)
  have py0 : 0 ≤ sz * y := Int.mul_nonneg hz.1 ry.1
  have py1 : sz * y ≤ 1500 * 100000 := Int.mul_le_mul hz.2 ry.2 ry.1 (by omega)
  obtain ⟨X, hX⟩ : ∃ X, sz * x = X := ⟨_, rfl⟩
  obtain ⟨Y, hY⟩ : ∃ Y, sz * y = Y := ⟨_, rfl⟩
  have wX : IntKind.i64.wrap (sz * x) = X := by rw [hX]; exact IntWalk.i64_in _ (by omega)
  have wY : IntKind.i64.wrap (sz * y) = Y := by rw [hY]; exact IntWalk.i64_in _ (by omega)
  rw [hX] at px0 px1 ⊢
  rw [hY] at py0 py1 ⊢
  have w1 : IntKind.i64.wrap (0 + Y) = Y := by rw [Int.zero_add]; exact IntWalk.i64_in _ (by omega)
  have w2 : IntKind.i64.wrap (0 - X) = 0 - X := IntWalk.i64_in _ (by omega)
  have w3 : IntKind.i64.wrap (Y - X) = Y - X := IntWalk.i64_in _ (by omega)
  have hb0 : Below w.heap.size w (w.alloc (.cells #[.int .i64 (fl : Int), .int .i64 sz, .int .i64 tk] 27)) := (Below.refl _ _).alloc (Nat.le_refl _) _
  have cx' := cell_later hb0 cx
  have cy' := cell_later hb0 cy
  have hai : (a : Int) < 8 := by omega
  have hbi : (b : Int) < 8 := by omega
  have HB : Hid (Below w.heap.size w (w.alloc (.cells #[.int .i64 (fl : Int), .int .i64 sz, .int .i64 tk] 27))) := hb0
  clear hn hc hx hy ex ey hq hX hY hb0
  by_cases e1 : fl = a
  · have e1' : ((fl : Int) == (a : Int)) = true := by simp; omega
    by_cases e2 : fl = b
    · have e2' : ((fl : Int) == (b : Int)) = true := by simp; omega
      rw [if_pos e1, if_pos e2]
      clear e1 e2
      go_enter Tryd.func64, Tryd.ntmps64
      go_wp2_with fail
      obtain ⟨V, hV⟩ : ∃ V, w.alloc (.cells #[.int .i64 (fl : Int), .int .i64 sz, .int .i64 tk] 27) = V := ⟨_, rfl⟩
      have f0V : V.cell? ⟨w.heap.size, 0, none⟩ = some (.int .i64 (fl : Int)) := by rw [← hV]; simp
      have f1V : V.cell? ⟨w.heap.size, 1, none⟩ = some (.int .i64 sz) := by rw [← hV]; simp
      have qaV : V.cell? ⟨qb, off + a, none⟩ = some (.int .i64 x) := by rw [← hV]; exact cx'
      have qbV : V.cell? ⟨qb, off + b, none⟩ = some (.int .i64 y) := by rw [← hV]; exact cy'
      have HBV : Hid (Below w.heap.size w V) := by rw [← hV]; exact HB.out
      rw [hV]
      clear hV cx cy cx' cy'
      go_quiet (fail)
      obtain ⟨U, hU⟩ : ∃ X, V.drewN nq = X := ⟨_, rfl⟩
      have HBU : Hid (Below w.heap.size w U) := by
        have := below_drewN HBV.out nq
        rwa [hU] at this
      have f0U : U.cell? ⟨w.heap.size, 0, none⟩ = some (.int .i64 (fl : Int)) := by rw [← hU]; exact f0V
      have f1U : U.cell? ⟨w.heap.size, 1, none⟩ = some (.int .i64 sz) := by rw [← hU]; exact f1V
      have qaU : U.cell? ⟨qb, off + a, none⟩ = some (.int .i64 x) := by rw [← hU]; exact qaV
      have qbU : U.cell? ⟨qb, off + b, none⟩ = some (.int .i64 y) := by rw [← hU]; exact qbV
      rw [hU]
      clear hU f0V f1V qaV qbV
      go_wp2_with fail
      go_quiet (fail)
      obtain ⟨T, hT⟩ : ∃ X, U.drewN nq = X := ⟨_, rfl⟩
      have HBT : Hid (Below w.heap.size w T) := by
        have := below_drewN HBU.out nq
        rwa [hT] at this
      have f0T : T.cell? ⟨w.heap.size, 0, none⟩ = some (.int .i64 (fl : Int)) := by rw [← hT]; exact f0U
      have f1T : T.cell? ⟨w.heap.size, 1, none⟩ = some (.int .i64 sz) := by rw [← hT]; exact f1U
      have qaT : T.cell? ⟨qb, off + a, none⟩ = some (.int .i64 x) := by rw [← hT]; exact qaU
      have qbT : T.cell? ⟨qb, off + b, none⟩ = some (.int .i64 y) := by rw [← hT]; exact qbU
      rw [hT]
      clear hT f0U f1U qaU qbU
      go_wp2_with fail
      go_ret
      exact ⟨by simp, HBT.out⟩
    · have e2' : ((fl : Int) == (b : Int)) = false := by simp; omega
      rw [if_pos e1, if_neg e2]
      clear e1 e2
      go_enter Tryd.func64, Tryd.ntmps64
      go_wp2_with fail
      obtain ⟨V, hV⟩ : ∃ V, w.alloc (.cells #[.int .i64 (fl : Int), .int .i64 sz, .int .i64 tk] 27) = V := ⟨_, rfl⟩
      have f0V : V.cell? ⟨w.heap.size, 0, none⟩ = some (.int .i64 (fl : Int)) := by rw [← hV]; simp
      have f1V : V.cell? ⟨w.heap.size, 1, none⟩ = some (.int .i64 sz) := by rw [← hV]; simp
      have qaV : V.cell? ⟨qb, off + a, none⟩ = some (.int .i64 x) := by rw [← hV]; exact cx'
      have qbV : V.cell? ⟨qb, off + b, none⟩ = some (.int .i64 y) := by rw [← hV]; exact cy'
      have HBV : Hid (Below w.heap.size w V) := by rw [← hV]; exact HB.out
      rw [hV]
      clear hV cx cy cx' cy'
      go_quiet (fail)
      obtain ⟨U, hU⟩ : ∃ X, V.drewN nq = X := ⟨_, rfl⟩
      have HBU : Hid (Below w.heap.size w U) := by
        have := below_drewN HBV.out nq
        rwa [hU] at this
      have f0U : U.cell? ⟨w.heap.size, 0, none⟩ = some (.int .i64 (fl : Int)) := by rw [← hU]; exact f0V
      have f1U : U.cell? ⟨w.heap.size, 1, none⟩ = some (.int .i64 sz) := by rw [← hU]; exact f1V
      have qaU : U.cell? ⟨qb, off + a, none⟩ = some (.int .i64 x) := by rw [← hU]; exact qaV
      have qbU : U.cell? ⟨qb, off + b, none⟩ = some (.int .i64 y) := by rw [← hU]; exact qbV
      rw [hU]
      clear hU f0V f1V qaV qbV
      go_wp2_with fail
      go_ret
      exact ⟨by simp, HBU.out⟩
  · have e1' : ((fl : Int) == (a : Int)) = false := by simp; omega
    by_cases e2 : fl = b
    · have e2' : ((fl : Int) == (b : Int)) = true := by simp; omega
      rw [if_neg e1, if_pos e2]
      clear e1 e2
      go_enter Tryd.func64, Tryd.ntmps64
      go_wp2_with fail
      obtain ⟨V, hV⟩ : ∃ V, w.alloc (.cells #[.int .i64 (fl : Int), .int .i64 sz, .int .i64 tk] 27) = V := ⟨_, rfl⟩
      have f0V : V.cell? ⟨w.heap.size, 0, none⟩ = some (.int .i64 (fl : Int)) := by rw [← hV]; simp
      have f1V : V.cell? ⟨w.heap.size, 1, none⟩ = some (.int .i64 sz) := by rw [← hV]; simp
      have qaV : V.cell? ⟨qb, off + a, none⟩ = some (.int .i64 x) := by rw [← hV]; exact cx'
      have qbV : V.cell? ⟨qb, off + b, none⟩ = some (.int .i64 y) := by rw [← hV]; exact cy'
      have HBV : Hid (Below w.heap.size w V) := by rw [← hV]; exact HB.out
      rw [hV]
      clear hV cx cy cx' cy'
      go_quiet (fail)
      obtain ⟨T, hT⟩ : ∃ X, V.drewN nq = X := ⟨_, rfl⟩
      have HBT : Hid (Below w.heap.size w T) := by
        have := below_drewN HBV.out nq
        rwa [hT] at this
      have f0T : T.cell? ⟨w.heap.size, 0, none⟩ = some (.int .i64 (fl : Int)) := by rw [← hT]; exact f0V
      have f1T : T.cell? ⟨w.heap.size, 1, none⟩ = some (.int .i64 sz) := by rw [← hT]; exact f1V
      have qaT : T.cell? ⟨qb, off + a, none⟩ = some (.int .i64 x) := by rw [← hT]; exact qaV
      have qbT : T.cell? ⟨qb, off + b, none⟩ = some (.int .i64 y) := by rw [← hT]; exact qbV
      rw [hT]
      clear hT f0V f1V qaV qbV
      go_wp2_with fail
      go_ret
      exact ⟨by simp, HBT.out⟩
    · have e2' : ((fl : Int) == (b : Int)) = false := by simp; omega
      rw [if_neg e1, if_neg e2]
      clear e1 e2
      go_enter Tryd.func64, Tryd.ntmps64
      go_wp2_with fail
      go_ret
      exact ⟨by simp, HB.out⟩
end Go.Proofs.YtepnfioldbhffabDoor

/- Walks: package round's helpers of Spread: one more behind. -/
namespace Go.Proofs.YtepnfioldbhffabDoor
open Go.RowKit

set_option maxRecDepth 100000 in
set_option maxHeartbeats 4000000 in
theorem behAdd_new (g : Nat) (are : Nat → Bool) (least : Nat → Int) (f : Nat) (sz tk : Int) (w : World) (h : BehCells w g are least) (hf : f < 8) (hA : are f = false) :
    Calls Tryd.prog 66 #[.pointer (some ⟨g, 0, none⟩), .agg #[.int .i64 (f : Int), .int .i64 sz, .int .i64 tk]] w fun e w' => e = .returned (.tuple #[]) ∧ BehCells w' g (put1 are f true) (put1 least f tk) ∧ But (fun k => k = g) w w' := by
  have hb0 : Below w.heap.size w (w.alloc (.cells #[.int .i64 (f : Int), .int .i64 sz, .int .i64 tk] 27)) := (Below.refl _ _).alloc (Nat.le_refl _) _
  have HC : Hid (BehCells (w.alloc (.cells #[.int .i64 (f : Int), .int .i64 sz, .int .i64 tk] 27)) g are least) := h.later hb0
  have HBt : Hid (But (fun k => k = g) w (w.alloc (.cells #[.int .i64 (f : Int), .int .i64 sz, .int .i64 tk] 27))) := .ofBelow hb0
  have HLt : Hid (g < w.heap.size) := h.lt
  have hfi : (f : Int) < 8 := by omega
  generalize hL : least f = L at *
  clear h hb0
  go_enter Tryd.func66, Tryd.ntmps66
  go_wp2_with fail
  obtain ⟨V, hV⟩ : ∃ V, w.alloc (.cells #[.int .i64 (f : Int), .int .i64 sz, .int .i64 tk] 27) = V := ⟨_, rfl⟩
  have f0 : V.cell? ⟨w.heap.size, 0, none⟩ = some (.int .i64 (f : Int)) := by rw [← hV]; simp
  have f2 : V.cell? ⟨w.heap.size, 2, none⟩ = some (.int .i64 tk) := by rw [← hV]; simp
  rw [hV] at HC HBt ⊢
  have HHL : Hid (least f = L) := hL
  have a0 : V.cell? ⟨g, f, none⟩ = some (.bool false) := by rw [← hA]; exact HC.out.ca f hf
  have l0 : V.cell? ⟨g, 8 + f, none⟩ = some (.int .i64 L) := by rw [← HHL.out]; exact HC.out.cl f hf
  clear hV hA hL
  go_quiet (fail)
  obtain ⟨U, hU⟩ : ∃ U, V.drewN nq = U := ⟨_, rfl⟩
  have u0 : U.cell? ⟨w.heap.size, 0, none⟩ = some (.int .i64 (f : Int)) := by rw [← hU]; exact f0
  have u2 : U.cell? ⟨w.heap.size, 2, none⟩ = some (.int .i64 tk) := by rw [← hU]; exact f2
  have HCU : Hid (BehCells U g are least) := by
    have := HC.out.later (below_drewN (Below.refl _ V) nq)
    rwa [hU] at this
  have HBU : Hid (But (fun k => k = g) w U) := by
    have := HBt.out.trans (But.ofBelow (below_drewN (Below.refl _ V) nq))
    rwa [hU] at this
  rw [hU]
  clear hU f0 f2 a0 l0
  have a1 := HCU.out.ca f hf
  have l1 := HCU.out.cl f hf
  have g0 := HCU.out.free f
  have g1 := HCU.out.free (8 + f)
  have HN : Hid (g ≠ w.heap.size) := fun e => by have := HLt.out; omega
  have p0 : (U.setCell ⟨g, f, none⟩ (.bool true)).cell? ⟨w.heap.size, 0, none⟩ = some (.int .i64 (f : Int)) := (World.cell?_setCell_other _ _ _ _ (fun e => HN.out (by injection e))).trans u0
  have p2 : (U.setCell ⟨g, f, none⟩ (.bool true)).cell? ⟨w.heap.size, 2, none⟩ = some (.int .i64 tk) := (World.cell?_setCell_other _ _ _ _ (fun e => HN.out (by injection e))).trans u2
  have p3 : (U.setCell ⟨g, f, none⟩ (.bool true)).cell? ⟨g, 8 + f, none⟩ = some (.int .i64 (least f)) := (far _ _ _ _ _ (by omega)).trans l1
  have HE : Hid (BehCells ((U.setCell ⟨g, f, none⟩ (.bool true)).setCell ⟨g, 8 + f, none⟩ (.int .i64 tk)).drew g (put1 are f true) (put1 least f tk) ∧ But (fun k => k = g) w ((U.setCell ⟨g, f, none⟩ (.bool true)).setCell ⟨g, 8 + f, none⟩ (.int .i64 tk)).drew) := ⟨(HCU.out.set hf tk).later (Below.refl _ _).drew, ((HBU.out.trans (butG _ _ _ _)).trans (butG _ _ _ _)).drew⟩
  go_wp2_with fail
  go_region
  go_wp2_with fail
  go_end0
  exact ⟨rfl, HE.out.1, HE.out.2⟩

set_option maxRecDepth 100000 in
set_option maxHeartbeats 4000000 in
theorem behAdd_less (g : Nat) (are : Nat → Bool) (least : Nat → Int) (f : Nat) (sz tk : Int) (w : World) (h : BehCells w g are least) (hf : f < 8) (hA : are f = true) (ht : tk < least f) :
    Calls Tryd.prog 66 #[.pointer (some ⟨g, 0, none⟩), .agg #[.int .i64 (f : Int), .int .i64 sz, .int .i64 tk]] w fun e w' => e = .returned (.tuple #[]) ∧ BehCells w' g (put1 are f true) (put1 least f tk) ∧ But (fun k => k = g) w w' := by
  have hb0 : Below w.heap.size w (w.alloc (.cells #[.int .i64 (f : Int), .int .i64 sz, .int .i64 tk] 27)) := (Below.refl _ _).alloc (Nat.le_refl _) _
  have HC : Hid (BehCells (w.alloc (.cells #[.int .i64 (f : Int), .int .i64 sz, .int .i64 tk] 27)) g are least) := h.later hb0
  have HBt : Hid (But (fun k => k = g) w (w.alloc (.cells #[.int .i64 (f : Int), .int .i64 sz, .int .i64 tk] 27))) := .ofBelow hb0
  have HLt : Hid (g < w.heap.size) := h.lt
  have hfi : (f : Int) < 8 := by omega
  have hd : decide (tk < least f) = true := decide_eq_true ht
  generalize hL : least f = L at *
  clear h hb0 ht
  go_enter Tryd.func66, Tryd.ntmps66
  go_wp2_with fail
  obtain ⟨V, hV⟩ : ∃ V, w.alloc (.cells #[.int .i64 (f : Int), .int .i64 sz, .int .i64 tk] 27) = V := ⟨_, rfl⟩
  have f0 : V.cell? ⟨w.heap.size, 0, none⟩ = some (.int .i64 (f : Int)) := by rw [← hV]; simp
  have f2 : V.cell? ⟨w.heap.size, 2, none⟩ = some (.int .i64 tk) := by rw [← hV]; simp
  rw [hV] at HC HBt ⊢
  have HHL : Hid (least f = L) := hL
  have a0 : V.cell? ⟨g, f, none⟩ = some (.bool true) := by rw [← hA]; exact HC.out.ca f hf
  have l0 : V.cell? ⟨g, 8 + f, none⟩ = some (.int .i64 L) := by rw [← HHL.out]; exact HC.out.cl f hf
  clear hV hA hL
  go_quiet (fail)
  obtain ⟨U, hU⟩ : ∃ U, V.drewN nq = U := ⟨_, rfl⟩
  have u0 : U.cell? ⟨w.heap.size, 0, none⟩ = some (.int .i64 (f : Int)) := by rw [← hU]; exact f0
  have u2 : U.cell? ⟨w.heap.size, 2, none⟩ = some (.int .i64 tk) := by rw [← hU]; exact f2
  have HCU : Hid (BehCells U g are least) := by
    have := HC.out.later (below_drewN (Below.refl _ V) nq)
    rwa [hU] at this
  have HBU : Hid (But (fun k => k = g) w U) := by
    have := HBt.out.trans (But.ofBelow (below_drewN (Below.refl _ V) nq))
    rwa [hU] at this
  rw [hU]
  clear hU f0 f2 a0 l0
  have a1 := HCU.out.ca f hf
  have l1 := HCU.out.cl f hf
  have g0 := HCU.out.free f
  have g1 := HCU.out.free (8 + f)
  have HN : Hid (g ≠ w.heap.size) := fun e => by have := HLt.out; omega
  have p0 : (U.setCell ⟨g, f, none⟩ (.bool true)).cell? ⟨w.heap.size, 0, none⟩ = some (.int .i64 (f : Int)) := (World.cell?_setCell_other _ _ _ _ (fun e => HN.out (by injection e))).trans u0
  have p2 : (U.setCell ⟨g, f, none⟩ (.bool true)).cell? ⟨w.heap.size, 2, none⟩ = some (.int .i64 tk) := (World.cell?_setCell_other _ _ _ _ (fun e => HN.out (by injection e))).trans u2
  have p3 : (U.setCell ⟨g, f, none⟩ (.bool true)).cell? ⟨g, 8 + f, none⟩ = some (.int .i64 (least f)) := (far _ _ _ _ _ (by omega)).trans l1
  have HE : Hid (BehCells ((U.setCell ⟨g, f, none⟩ (.bool true)).setCell ⟨g, 8 + f, none⟩ (.int .i64 tk)).drew g (put1 are f true) (put1 least f tk) ∧ But (fun k => k = g) w ((U.setCell ⟨g, f, none⟩ (.bool true)).setCell ⟨g, 8 + f, none⟩ (.int .i64 tk)).drew) := ⟨(HCU.out.set hf tk).later (Below.refl _ _).drew, ((HBU.out.trans (butG _ _ _ _)).trans (butG _ _ _ _)).drew⟩
  go_wp2_with fail
  go_region
  go_wp2_with fail
  go_end0
  exact ⟨rfl, HE.out.1, HE.out.2⟩

set_option maxRecDepth 100000 in
set_option maxHeartbeats 4000000 in
theorem behAdd_old (g : Nat) (are : Nat → Bool) (least : Nat → Int) (f : Nat) (sz tk : Int) (w : World) (h : BehCells w g are least) (hf : f < 8) (hA : are f = true) (ht : ¬ tk < least f) :
    Calls Tryd.prog 66 #[.pointer (some ⟨g, 0, none⟩), .agg #[.int .i64 (f : Int), .int .i64 sz, .int .i64 tk]] w fun e w' => e = .returned (.tuple #[]) ∧ BehCells w' g are least ∧ But (fun k => k = g) w w' := by
  have hb0 : Below w.heap.size w (w.alloc (.cells #[.int .i64 (f : Int), .int .i64 sz, .int .i64 tk] 27)) := (Below.refl _ _).alloc (Nat.le_refl _) _
  have HC : Hid (BehCells (w.alloc (.cells #[.int .i64 (f : Int), .int .i64 sz, .int .i64 tk] 27)) g are least) := h.later hb0
  have HBt : Hid (But (fun k => k = g) w (w.alloc (.cells #[.int .i64 (f : Int), .int .i64 sz, .int .i64 tk] 27))) := .ofBelow hb0
  have HLt : Hid (g < w.heap.size) := h.lt
  have hfi : (f : Int) < 8 := by omega
  have hd : decide (tk < least f) = false := decide_eq_false ht
  generalize hL : least f = L at *
  clear h hb0 ht
  go_enter Tryd.func66, Tryd.ntmps66
  go_wp2_with fail
  obtain ⟨V, hV⟩ : ∃ V, w.alloc (.cells #[.int .i64 (f : Int), .int .i64 sz, .int .i64 tk] 27) = V := ⟨_, rfl⟩
  have f0 : V.cell? ⟨w.heap.size, 0, none⟩ = some (.int .i64 (f : Int)) := by rw [← hV]; simp
  have f2 : V.cell? ⟨w.heap.size, 2, none⟩ = some (.int .i64 tk) := by rw [← hV]; simp
  rw [hV] at HC HBt ⊢
  have HHL : Hid (least f = L) := hL
  have a0 : V.cell? ⟨g, f, none⟩ = some (.bool true) := by rw [← hA]; exact HC.out.ca f hf
  have l0 : V.cell? ⟨g, 8 + f, none⟩ = some (.int .i64 L) := by rw [← HHL.out]; exact HC.out.cl f hf
  clear hV hA hL
  go_quiet (fail)
  obtain ⟨U, hU⟩ : ∃ U, V.drewN nq = U := ⟨_, rfl⟩
  have u0 : U.cell? ⟨w.heap.size, 0, none⟩ = some (.int .i64 (f : Int)) := by rw [← hU]; exact f0
  have u2 : U.cell? ⟨w.heap.size, 2, none⟩ = some (.int .i64 tk) := by rw [← hU]; exact f2
  have HCU : Hid (BehCells U g are least) := by
    have := HC.out.later (below_drewN (Below.refl _ V) nq)
    rwa [hU] at this
  have HBU : Hid (But (fun k => k = g) w U) := by
    have := HBt.out.trans (But.ofBelow (below_drewN (Below.refl _ V) nq))
    rwa [hU] at this
  rw [hU]
  clear hU f0 f2 a0 l0
  go_wp2_with fail
  go_end0
  exact ⟨rfl, HCU.out, HBU.out⟩

end Go.Proofs.YtepnfioldbhffabDoor

/- Walks: package round's checkSpread. -/
namespace Go.Proofs.YtepnfioldbhffabDoor
open Go.RowKit

section
variable (pa : Option Addr) (m pcap : Nat) (a : Option Addr) (n cap : Nat) (na : Option Addr) (r ncap : Nat) (x y : Int) (w : World)
set_option maxRecDepth 100000 in
set_option maxHeartbeats 1000000 in
theorem checkSpread_err1 {R : TypeId → Value → World → Prop} (h : Calls Tryd.prog 68 #[.slice na r ncap, .func (.func 69) #[] #[]] w fun e w' => ∃ ty v, e = .returned (.iface ty v) ∧ R ty v w') :
    Calls Tryd.prog 61 #[.slice pa m pcap, .slice a n cap, .slice na r ncap, .int .i64 x, .int .i64 y] w fun e w' => ∃ ty v, e = .returned (.iface ty v) ∧ R ty v w' := by
  have HC : Hid (Calls Tryd.prog 68 #[.slice na r ncap, .func (.func 69) #[] #[]] w fun e w' => ∃ ty v, e = .returned (.iface ty v) ∧ R ty v w') := h
  clear h
  go_enter Tryd.func61, Tryd.ntmps61
  go_wp2_with fail
  refine HC.out.mono ?_
  rintro e w1 ⟨ty, v, rfl, hR⟩
  have HR : Hid (R ty v w1) := hR
  clear hR
  go_wp2_with fail
  go_ret
  exact ⟨ty, v, rfl, HR.out⟩
set_option maxRecDepth 100000 in
set_option maxHeartbeats 1000000 in
theorem checkSpread_flow (ad : Nat → Addr) (he : w.cell? ⟨2, 0, none⟩ = some (.iface 157 (.pointer (some (ad 1))))) (h : Calls Tryd.prog 68 #[.slice na r ncap, .func (.func 69) #[] #[]] w fun e w' => e = .returned .nilIface ∧ w' = w) (hf : ¬ (0 ≤ x ∧ x < 8 ∧ 0 ≤ y ∧ y < 8)) :
    Calls Tryd.prog 61 #[.slice pa m pcap, .slice a n cap, .slice na r ncap, .int .i64 x, .int .i64 y] w fun e w' => e = .returned (.iface 157 (.pointer (some (ad 1)))) ∧ w' = w := by
  have HC : Hid (Calls Tryd.prog 68 #[.slice na r ncap, .func (.func 69) #[] #[]] w fun e w' => e = .returned .nilIface ∧ w' = w) := h
  clear h
  by_cases hx : 0 ≤ x ∧ x < 8
  · have hy : ¬ (0 ≤ y ∧ y < 8) := fun hy => hf ⟨hx.1, hx.2, hy.1, hy.2⟩
    have HX : Hid (0 ≤ x ∧ x < 8) := hx
    have HY : Hid (¬ (0 ≤ y ∧ y < 8)) := hy
    clear hf hx hy
    go_enter Tryd.func61, Tryd.ntmps61
    go_wp2_with fail
    refine HC.out.mono ?_
    rintro e w1 ⟨rfl, rfl⟩
    go_wp2_with fail
    refine (isFlow_yes x _ HX.out).mono ?_
    rintro e w2 ⟨rfl, rfl⟩
    go_wp2_with fail
    refine (isFlow_no y _ HY.out).mono ?_
    rintro e w2 ⟨rfl, rfl⟩
    go_wp2_with fail
    go_ret
    exact ⟨rfl, rfl⟩
  · have HX : Hid (¬ (0 ≤ x ∧ x < 8)) := hx
    clear hf hx
    go_enter Tryd.func61, Tryd.ntmps61
    go_wp2_with fail
    refine HC.out.mono ?_
    rintro e w1 ⟨rfl, rfl⟩
    go_wp2_with fail
    refine (isFlow_no x _ HX.out).mono ?_
    rintro e w2 ⟨rfl, rfl⟩
    go_wp2_with fail
    go_ret
    exact ⟨rfl, rfl⟩
set_option maxRecDepth 100000 in
set_option maxHeartbeats 1000000 in
theorem checkSpread_err2 {R : TypeId → Value → World → Prop} (h : Calls Tryd.prog 68 #[.slice na r ncap, .func (.func 69) #[] #[]] w fun e w' => e = .returned .nilIface ∧ w' = w) (hx : 0 ≤ x ∧ x < 8) (hy : 0 ≤ y ∧ y < 8)
    (h2 : Calls Tryd.prog 56 #[.slice pa m pcap] w fun e w' => ∃ ty v, e = .returned (.iface ty v) ∧ R ty v w') :
    Calls Tryd.prog 61 #[.slice pa m pcap, .slice a n cap, .slice na r ncap, .int .i64 x, .int .i64 y] w fun e w' => ∃ ty v, e = .returned (.iface ty v) ∧ R ty v w' := by
  have HC : Hid (Calls Tryd.prog 68 #[.slice na r ncap, .func (.func 69) #[] #[]] w fun e w' => e = .returned .nilIface ∧ w' = w) := h
  have HP : Hid (Calls Tryd.prog 56 #[.slice pa m pcap] w fun e w' => ∃ ty v, e = .returned (.iface ty v) ∧ R ty v w') := h2
  have HX : Hid (0 ≤ x ∧ x < 8) := hx
  have HY : Hid (0 ≤ y ∧ y < 8) := hy
  clear h h2 hx hy
  go_enter Tryd.func61, Tryd.ntmps61
  go_wp2_with fail
  refine HC.out.mono ?_
  rintro e w1 ⟨rfl, rfl⟩
  go_wp2_with fail
  refine (isFlow_yes x _ HX.out).mono ?_
  rintro e w2 ⟨rfl, rfl⟩
  go_wp2_with fail
  refine (isFlow_yes y _ HY.out).mono ?_
  rintro e w3 ⟨rfl, rfl⟩
  go_wp2_with fail
  refine HP.out.mono ?_
  rintro e w4 ⟨ty, v, rfl, hR⟩
  have HR : Hid (R ty v w4) := hR
  clear hR
  go_wp2_with fail
  go_ret
  exact ⟨ty, v, rfl, HR.out⟩
set_option maxRecDepth 100000 in
set_option maxHeartbeats 1000000 in
theorem checkSpread_last {R : Value → World → Prop} (h : Calls Tryd.prog 68 #[.slice na r ncap, .func (.func 69) #[] #[]] w fun e w' => e = .returned .nilIface ∧ w' = w) (hx : 0 ≤ x ∧ x < 8) (hy : 0 ≤ y ∧ y < 8)
    (h2 : Calls Tryd.prog 56 #[.slice pa m pcap] w fun e w' => e = .returned .nilIface ∧ Below w.heap.size w w')
    (h3 : ∀ W, Below w.heap.size w W → Calls Tryd.prog 20 #[.slice pa m pcap, .slice a n cap] W fun e w' => ∃ u v, e = .returned (.tuple #[u, v]) ∧ R v w') :
    Calls Tryd.prog 61 #[.slice pa m pcap, .slice a n cap, .slice na r ncap, .int .i64 x, .int .i64 y] w fun e w' => ∃ v, e = .returned v ∧ R v w' := by
  have HC : Hid (Calls Tryd.prog 68 #[.slice na r ncap, .func (.func 69) #[] #[]] w fun e w' => e = .returned .nilIface ∧ w' = w) := h
  have HP : Hid (Calls Tryd.prog 56 #[.slice pa m pcap] w fun e w' => e = .returned .nilIface ∧ Below w.heap.size w w') := h2
  have HD : Hid (∀ W, Below w.heap.size w W → Calls Tryd.prog 20 #[.slice pa m pcap, .slice a n cap] W fun e w' => ∃ u v, e = .returned (.tuple #[u, v]) ∧ R v w') := h3
  have HX : Hid (0 ≤ x ∧ x < 8) := hx
  have HY : Hid (0 ≤ y ∧ y < 8) := hy
  clear h h2 h3 hx hy
  go_enter Tryd.func61, Tryd.ntmps61
  go_wp2_with fail
  refine HC.out.mono ?_
  rintro e w1 ⟨rfl, rfl⟩
  go_wp2_with fail
  refine (isFlow_yes x _ HX.out).mono ?_
  rintro e w2 ⟨rfl, rfl⟩
  go_wp2_with fail
  refine (isFlow_yes y _ HY.out).mono ?_
  rintro e w3 ⟨rfl, rfl⟩
  go_wp2_with fail
  refine HP.out.mono ?_
  rintro e w4 ⟨rfl, hb⟩
  have HB : Hid (Below w3.heap.size w3 w4) := hb
  clear hb
  go_wp2_with fail
  refine (HD.out _ HB.out).mono ?_
  rintro e w5 ⟨u, v, rfl, hR⟩
  have HR : Hid (R v w5) := hR
  clear hR
  go_wp2_with fail
  go_ret
  exact ⟨v, rfl, HR.out⟩
set_option maxRecDepth 100000 in
set_option maxHeartbeats 1000000 in
theorem spread_err {R : TypeId → Value → World → Prop} (h : Calls Tryd.prog 61 #[.slice pa m pcap, .slice a n cap, .slice na r ncap, .int .i64 x, .int .i64 y] w fun e w' => ∃ ty v, e = .returned (.iface ty v) ∧ R ty v w') :
    Calls Tryd.prog 39 #[.slice pa m pcap, .slice a n cap, .slice na r ncap, .int .i64 x, .int .i64 y] w fun e w' => ∃ ty v, e = .returned (.tuple #[.int .i64 0, .iface ty v]) ∧ R ty v w' := by
  have HC : Hid (Calls Tryd.prog 61 #[.slice pa m pcap, .slice a n cap, .slice na r ncap, .int .i64 x, .int .i64 y] w fun e w' => ∃ ty v, e = .returned (.iface ty v) ∧ R ty v w') := h
  clear h
  go_enter Tryd.func39, Tryd.ntmps39
  go_wp2_with fail
  refine HC.out.mono ?_
  rintro e w1 ⟨ty, v, rfl, hR⟩
  have HR : Hid (R ty v w1) := hR
  clear hR
  go_wp2_with fail
  go_ret2
  exact ⟨ty, v, rfl, HR.out⟩
end
/-- Nothing is wrong: checkSpread tells no error. -/
theorem checkSpread_ok (pa : Option Addr) (pcap : Nat) (ps : List Pk) (a : Option Addr) (cap : Nat) (l : List Sn) (na : Option Addr) (ncap : Nat) (ns : List Int) (x y : Int) (w : World) (ad : Nat → Addr) (he : w.cell? ⟨0, 0, none⟩ = some (.iface 157 (.pointer (some (ad 3))))) (hp : LiesP w pa ps) (hl : LiesS w a l) (hn : LiesN w na ns) (ho : OkPks ps) (hk : NumsOk 1 3000 ns) (hx : 0 ≤ x ∧ x < 8) (hy : 0 ≤ y ∧ y < 8) (hll : l.length ≤ 300) (ht : tameAll l) (hall : ∀ (i : Nat) x, l[i]? = some x → named ps.length x = true) :
    Calls Tryd.prog 61 #[.slice pa ps.length pcap, .slice a l.length cap, .slice na ns.length ncap, .int .i64 x, .int .i64 y] w fun e w' => e = .returned .nilIface ∧ Below w.heap.size w w' := by
  refine (checkSpread_last (R := fun v w' => v = .nilIface ∧ Below w.heap.size w w') pa ps.length pcap a l.length cap na ns.length ncap x y w (checkQuanta_ok na ncap ns w hn hk) hx hy (pcheck_ok pa pcap ps w hp ho) (fun W hb => (delays_any pa pcap ps a cap l W ad (cell_later hb he) (hp.below hb) (hl.below hb) hll ho.few ht (fun i p hp => by have := okPk_true (ho.each _ p hp).1; omega)).mono ?_)).mono ?_
  · rintro e w' ⟨hb2, ⟨D, rfl, -, -⟩ | ⟨j, z, F, hz, -, hbad, -⟩⟩
    · exact ⟨_, _, rfl, rfl, hb.trans (hb2.mono hb.size)⟩
    · rw [hall j z hz] at hbad; cases hbad
  · rintro e w' ⟨v, rfl, rfl, hb⟩
    exact ⟨rfl, hb⟩
end Go.Proofs.YtepnfioldbhffabDoor

/- Walks: package round's Spread. -/
namespace Go.Proofs.YtepnfioldbhffabDoor
open Go.RowKit

/-- What Spread holds in memory while it goes from the end. -/
structure SpMem (w wr : World) (gb gs : Nat) (are : Nat → Bool) (least : Nat → Int) (su hi lo : Int) : Prop where
  beh : BehCells wr gb are least
  str : StrCells wr gs su hi lo
  ne : gb ≠ gs
  new : w.heap.size ≤ gb ∧ w.heap.size ≤ gs
  below : Below w.heap.size w wr
section
variable {w wr wr' : World} {gb gs : Nat} {are : Nat → Bool} {least : Nat → Int} {su hi lo : Int}
theorem SpMem.later (h : SpMem w wr gb gs are least su hi lo) (hb : Below wr.heap.size wr wr') : SpMem w wr' gb gs are least su hi lo :=
  ⟨h.beh.later hb, h.str.later hb, h.ne, h.new, h.below.trans (hb.mono h.below.size)⟩
theorem SpMem.behAdd (h : SpMem w wr gb gs are least su hi lo) {are' : Nat → Bool} {least' : Nat → Int} (h1 : BehCells wr' gb are' least') (hb : But (fun k => k = gb) wr wr') : SpMem w wr' gb gs are' least' su hi lo :=
  ⟨h1, h.str.of_block (hb.block gs h.str.lt (fun e => h.ne e.symm)), h.ne, h.new, h.below.trans (hb.below h.below.size fun k hk => by rw [hk]; exact h.new.1)⟩
theorem SpMem.strAdd (h : SpMem w wr gb gs are least su hi lo) {su' hi' lo' : Int} (h1 : StrCells wr' gs su' hi' lo') (hb : But (fun k => k = gs) wr wr') : SpMem w wr' gb gs are least su' hi' lo' :=
  ⟨h.beh.of_block (hb.block gb h.beh.lt h.ne) hb.size, h1, h.ne, h.new, h.below.trans (hb.below h.below.size fun k hk => by rw [hk]; exact h.new.2)⟩
end
theorem spMem_new (w w1 : World) (hb : Below w.heap.size w w1) (t u : TypeId) : SpMem w ((w1.alloc (.cells #[.bool false, .bool false, .bool false, .bool false, .bool false, .bool false, .bool false, .bool false, .int .i64 0, .int .i64 0, .int .i64 0, .int .i64 0, .int .i64 0, .int .i64 0, .int .i64 0, .int .i64 0] t)).alloc (.cells #[.int .i64 0, .int .i64 0, .int .i64 0] u)) w1.heap.size (w1.heap.size + 1) (fun _ => false) (fun _ => 0) 0 0 0 := by
  have hs : (w1.alloc (.cells #[.bool false, .bool false, .bool false, .bool false, .bool false, .bool false, .bool false, .bool false, .int .i64 0, .int .i64 0, .int .i64 0, .int .i64 0, .int .i64 0, .int .i64 0, .int .i64 0, .int .i64 0] t)).heap.size = w1.heap.size + 1 := by simp
  have hc : ∀ i, (w1.alloc (.cells #[.bool false, .bool false, .bool false, .bool false, .bool false, .bool false, .bool false, .bool false, .int .i64 0, .int .i64 0, .int .i64 0, .int .i64 0, .int .i64 0, .int .i64 0, .int .i64 0, .int .i64 0] t)).cell? ⟨w1.heap.size, i, none⟩ = (#[.bool false, .bool false, .bool false, .bool false, .bool false, .bool false, .bool false, .bool false, .int .i64 0, .int .i64 0, .int .i64 0, .int .i64 0, .int .i64 0, .int .i64 0, .int .i64 0, .int .i64 0] : Array Value)[i]? := fun i => World.cell?_alloc_at _ _ _ _ rfl
  have hbeh : BehCells (w1.alloc (.cells #[.bool false, .bool false, .bool false, .bool false, .bool false, .bool false, .bool false, .bool false, .int .i64 0, .int .i64 0, .int .i64 0, .int .i64 0, .int .i64 0, .int .i64 0, .int .i64 0, .int .i64 0] t)) w1.heap.size (fun _ => false) (fun _ => 0) := by
    refine ⟨fun f hf => ?_, fun f hf => ?_, fun i => World.frozen?_alloc_new w1 _ _ i, by simp⟩
    · match f, hf with
      | 0, _ => exact hc 0
      | 1, _ => exact hc 1
      | 2, _ => exact hc 2
      | 3, _ => exact hc 3
      | 4, _ => exact hc 4
      | 5, _ => exact hc 5
      | 6, _ => exact hc 6
      | 7, _ => exact hc 7
      | f + 8, h => omega
    · match f, hf with
      | 0, _ => exact hc 8
      | 1, _ => exact hc 9
      | 2, _ => exact hc 10
      | 3, _ => exact hc 11
      | 4, _ => exact hc 12
      | 5, _ => exact hc 13
      | 6, _ => exact hc 14
      | 7, _ => exact hc 15
      | f + 8, h => omega
  have hb1 := hb.alloc hb.size (.cells #[.bool false, .bool false, .bool false, .bool false, .bool false, .bool false, .bool false, .bool false, .int .i64 0, .int .i64 0, .int .i64 0, .int .i64 0, .int .i64 0, .int .i64 0, .int .i64 0, .int .i64 0] t)
  refine ⟨hbeh.later ((Below.refl _ _).alloc (Nat.le_refl _) _), ⟨?_, ?_, ?_, fun i => ?_⟩, by omega, ⟨hb.size, Nat.le_succ_of_le hb.size⟩, hb1.alloc hb1.size _⟩
  · rw [World.cell?_alloc_at _ _ _ _ hs.symm]; rfl
  · rw [World.cell?_alloc_at _ _ _ _ hs.symm]; rfl
  · rw [World.cell?_alloc_at _ _ _ _ hs.symm]; rfl
  · rw [← hs]; exact World.frozen?_alloc_new _ _ _ i

/-- One more behind, in the words of plain facts. -/
theorem behAdd_at (g : Nat) (are : Nat → Bool) (least : Nat → Int) (f : Nat) (sz tk : Int) (w : World) (ps : List Pk) (l : List Sn) (i : Nat) (x : Sn) (h : BehCells w g are least) (hf : f < 8) (hb : BehindAt ps l (i + 1) are least) (hx : l[i]? = some x) (e1 : flowOf ps x.num.toNat = f) (e2 : tickOf ps x.num.toNat = tk) :
    Calls Tryd.prog 66 #[.pointer (some ⟨g, 0, none⟩), .agg #[.int .i64 (f : Int), .int .i64 sz, .int .i64 tk]] w fun e w' => e = .returned (.tuple #[]) ∧ ∃ are' least', BehCells w' g are' least' ∧ BehindAt ps l i are' least' ∧ But (fun k => k = g) w w' := by
  subst e1
  subst e2
  cases hA : are (flowOf ps x.num.toNat) with
  | false =>
    refine (behAdd_new g are least _ sz _ w h hf hA).mono ?_
    rintro e w' ⟨rfl, h1, h2⟩
    exact ⟨rfl, _, _, h1, hb.take hx (.inl hA), h2⟩
  | true =>
    by_cases ht : tickOf ps x.num.toNat < least (flowOf ps x.num.toNat)
    · refine (behAdd_less g are least _ sz _ w h hf hA ht).mono ?_
      rintro e w' ⟨rfl, h1, h2⟩
      exact ⟨rfl, _, _, h1, hb.take hx (.inr ht), h2⟩
    · refine (behAdd_old g are least _ sz _ w h hf hA ht).mono ?_
      rintro e w' ⟨rfl, h1, h2⟩
      exact ⟨rfl, _, _, h1, hb.pass hx hA ht, h2⟩

set_option maxRecDepth 100000 in
set_option maxHeartbeats 8000000 in
theorem spread_ok (pa : Option Addr) (pcap : Nat) (ps : List Pk) (la : Option Addr) (cap : Nat) (l : List Sn) (na : Option Addr) (ncap : Nat) (ns : List Int) (a b : Nat) (w : World) (ad : Nat → Addr) (he : w.cell? ⟨0, 0, none⟩ = some (.iface 157 (.pointer (some (ad 3))))) (hp : LiesP w pa ps) (hl : LiesS w la l) (hn : LiesN w na ns) (ho : OkPks ps) (hk : NumsOk 1 3000 ns) (ha : a < 8) (hb : b < 8) (hll : l.length ≤ 300) (ht : tameAll l) (hall : ∀ (i : Nat) x, l[i]? = some x → named ps.length x = true) :
    Calls Tryd.prog 39 #[.slice pa ps.length pcap, .slice la l.length cap, .slice na ns.length ncap, .int .i64 (a : Int), .int .i64 (b : Int)] w fun e w' => ∃ m, e = .returned (.tuple #[.int .i64 m, .nilIface]) ∧ SpreadIs ps ns l a b m ∧ Below w.heap.size w w' := by
  have HCk : Hid (Calls Tryd.prog 61 #[.slice pa ps.length pcap, .slice la l.length cap, .slice na ns.length ncap, .int .i64 (a : Int), .int .i64 (b : Int)] w fun e w' => e = .returned .nilIface ∧ Below w.heap.size w w') := checkSpread_ok pa pcap ps la cap l na ncap ns a b w ad he hp hl hn ho hk (by omega) (by omega) hll ht hall
  have HP : Hid (LiesP w pa ps ∧ OkPks ps) := ⟨hp, ho⟩
  have HL : Hid (LiesS w la l ∧ ∀ (i : Nat) x, l[i]? = some x → named ps.length x = true) := ⟨hl, hall⟩
  have HN : Hid (LiesN w na ns ∧ NumsOk 1 3000 ns) := ⟨hn, hk⟩
  have hfew := ho.few
  have h8 := hk.len
  have hqa : 1 ≤ ns.getD a 0 ∧ ns.getD a 0 ≤ 3000 := by
    obtain ⟨x, hx, e⟩ := nums_at hk.len ha
    rw [e]; exact hk.each a x hx
  have hqb : 1 ≤ ns.getD b 0 ∧ ns.getD b 0 ≤ 3000 := by
    obtain ⟨x, hx, e⟩ := nums_at hk.len hb
    rw [e]; exact hk.each b x hx
  have HPre : Hid (∀ k, k ≤ 300 → -1350000000 ≤ pre (leadAt ps ns l a b) k ∧ pre (leadAt ps ns l a b) k ≤ 1350000000) := fun k hk3 => by
    have h1 := pre_abs (lead_abs (l := l) (a := a) (b := b) (ns := ns) (Q := 3000) ho (by omega) (by omega)) k
    have h2 : (1500 * 3000 : Int) * (k : Int) ≤ (1500 * 3000) * 300 := Int.mul_le_mul_of_nonneg_left (by omega) (by omega)
    omega
  clear he hp hl hn ho hk ht hall
  obtain ⟨n, hnn⟩ : ∃ n, l.length = n := ⟨_, rfl⟩
  obtain ⟨m, hmm⟩ : ∃ m, ps.length = m := ⟨_, rfl⟩
  have HNN : Hid (l.length = n ∧ ps.length = m) := ⟨hnn, hmm⟩
  rw [h8] at HCk ⊢
  rw [hnn] at hll HCk ⊢
  rw [hmm] at hfew HCk ⊢
  clear hnn hmm h8
  go_enter Tryd.func39, Tryd.ntmps39
  go_wp2_with fail
  refine HCk.out.mono ?_
  rintro e w1 ⟨rfl, hb1⟩
  have HM0 : Hid (SpMem w ((w1.alloc (.cells #[.bool false, .bool false, .bool false, .bool false, .bool false, .bool false, .bool false, .bool false, .int .i64 0, .int .i64 0, .int .i64 0, .int .i64 0, .int .i64 0, .int .i64 0, .int .i64 0, .int .i64 0] 92)).alloc (.cells #[.int .i64 0, .int .i64 0, .int .i64 0] 94)) w1.heap.size (w1.heap.size + 1) (fun _ => false) (fun _ => 0) 0 0 0) := spMem_new w w1 hb1 _ _
  clear hb1
  go_wp2_with fail
  obtain ⟨gb, hgb⟩ : ∃ gb, w1.heap.size = gb := ⟨_, rfl⟩
  obtain ⟨W1, hW1⟩ : ∃ W1, (w1.alloc (.cells #[.bool false, .bool false, .bool false, .bool false, .bool false, .bool false, .bool false, .bool false, .int .i64 0, .int .i64 0, .int .i64 0, .int .i64 0, .int .i64 0, .int .i64 0, .int .i64 0, .int .i64 0] 92)).alloc (.cells #[.int .i64 0, .int .i64 0, .int .i64 0] 94) = W1 := ⟨_, rfl⟩
  rw [hW1, hgb] at HM0
  rw [hW1, hgb]
  obtain ⟨gs, hgs⟩ : ∃ gs, gb + 1 = gs := ⟨_, rfl⟩
  rw [hgs] at HM0
  rw [hgs]
  clear hW1 hgb hgs
  go_loopg [15, 16] n (fun gk sp i wr => i = .int .i64 ((gk : Int) - 1) ∧ gk ≤ n ∧ ∃ most are least su hi lo e, sp = .int .i64 most ∧ BehindAt ps l gk are least ∧ DownAt (fun i => waitsB ps l a i ∧ waitsB ps l b i) (leadAt ps ns l a b) n gk su hi lo most e ∧ SpMem w wr gb gs are least su hi lo)
  case atStart => exact ⟨rfl, Nat.le_refl _, 0, _, _, 0, 0, 0, n, rfl, (by rw [← HNN.out.1]; exact BehindAt.start ps l), DownAt.start _ _ _, HM0.out⟩
  case round =>
    obtain ⟨rfl, hgk, most, are, least, su, hi, lo, ee, rfl, hbh, hdn, hmem⟩ := hrel
    have HM : Hid (SpMem w wr gb gs are least su hi lo) := hmem
    have HBh : Hid (BehindAt ps l gk are least) := hbh
    have HDn : Hid (DownAt (fun i => waitsB ps l a i ∧ waitsB ps l b i) (leadAt ps ns l a b) n gk su hi lo most ee) := hdn
    clear hbh hdn hmem
    by_cases hk0 : gk = 0
    · subst hk0
      have HEnd : Hid (SpreadIs ps ns l a b most) := by
        have := HDn.out.most_
        rw [← HNN.out.1] at this
        exact this
      go_wp2_with fail
      go_ret2
      exact ⟨most, rfl, HEnd.out, HM.out.below⟩
    · obtain ⟨j, rfl⟩ : ∃ j, gk = j + 1 := ⟨gk - 1, by omega⟩
      obtain ⟨x, hx, -⟩ := get_some l j (by rw [HNN.out.1]; omega)
      have hnm := HL.out.2 j x hx
      rw [HNN.out.2] at hnm
      obtain ⟨s1, s2⟩ := named_true hnm
      obtain ⟨q, hq⟩ : ∃ q : Nat, x.num = q := ⟨x.num.toNat, by omega⟩
      have hqm : q < m := by omega
      obtain ⟨p, hpq, -⟩ := get_some ps q (by rw [HNN.out.2]; exact hqm)
      obtain ⟨fl, hfl, hf, hfo⟩ := flow_at HP.out.2 hpq
      obtain ⟨lb, loff, rfl, -, hc⟩ := HL.out.1.place (by rw [HNN.out.1]; omega)
      obtain ⟨b2, o2, rfl, -, hc2⟩ := HP.out.1.place (by rw [HNN.out.2]; omega)
      have hbw : Below w.heap.size w wr := HM.out.below
      obtain ⟨sz, hsz⟩ : ∃ sz, p.size = sz := ⟨_, rfl⟩
      obtain ⟨tk, htk⟩ : ∃ tk, p.tick = tk := ⟨_, rfl⟩
      obtain ⟨now, hnow⟩ : ∃ now, x.beg = now := ⟨_, rfl⟩
      have c1 : wr.cell? ⟨lb, loff + j * 3, none⟩ = some (.int .i64 q) := by rw [← hq]; exact cell_later hbw (hc j _ hx).1
      have c2 : wr.cell? ⟨lb, loff + j * 3 + 1, none⟩ = some (.int .i64 now) := by rw [← hnow]; exact cell_later hbw (hc j _ hx).2.1
      have e1 : wr.cell? ⟨b2, o2 + q * 3, none⟩ = some (.int .i64 fl) := by rw [← hf]; exact cell_later hbw (hc2 q _ hpq).1
      have e2 : wr.cell? ⟨b2, o2 + q * 3 + 1, none⟩ = some (.int .i64 sz) := by rw [← hsz]; exact cell_later hbw (hc2 q _ hpq).2.1
      have e3 : wr.cell? ⟨b2, o2 + q * 3 + 2, none⟩ = some (.int .i64 tk) := by rw [← htk]; exact cell_later hbw (hc2 q _ hpq).2.2
      have hji : ((j + 1 : Nat) : Int) - 1 = (j : Int) := by omega
      rw [hji]
      have hz0 : Below wr.heap.size wr (wr.alloc (.cells #[.int .i64 0, .int .i64 0, .int .i64 0] 27)) := (Below.refl _ _).alloc (Nat.le_refl _) _
      have hz1 : Below wr.heap.size wr (wr.alloc (.cells #[.int .i64 fl, .int .i64 sz, .int .i64 tk] 27)) := (Below.refl _ _).alloc (Nat.le_refl _) _
      have c1' := cell_later hz0 c1
      have c2' := cell_later hz0 c2
      have e1' := cell_later hz0 e1
      have e2' := cell_later hz0 e2
      have e3' := cell_later hz0 e3
      have c1'' := cell_later hz1 c1
      have c2'' := cell_later hz1 c2
      clear hc hc2 hbw hz0 hz1
      go_wp2_with fail
      go_region
      obtain ⟨gx, hgx⟩ : ∃ gx, wr.heap.size = gx := ⟨_, rfl⟩
      obtain ⟨X, hX⟩ : ∃ X, (wr.alloc (.cells #[.int .i64 (fl : Int), .int .i64 sz, .int .i64 tk] 27)).drew = X := ⟨_, rfl⟩
      have HMX : Hid (SpMem w X gb gs are least su hi lo) := by rw [← hX]; exact HM.out.later ((Below.refl _ _).alloc (Nat.le_refl _) _).drew
      have x0 : X.cell? ⟨gx, 0, none⟩ = some (.int .i64 (fl : Int)) := by rw [← hX, ← hgx]; exact (cell_of_row _ _ 0 _ _ _ (heap_alloc_new wr _)).trans rfl
      have x1 : X.cell? ⟨gx, 1, none⟩ = some (.int .i64 sz) := by rw [← hX, ← hgx]; exact (cell_of_row _ _ 1 _ _ _ (heap_alloc_new wr _)).trans rfl
      have x2 : X.cell? ⟨gx, 2, none⟩ = some (.int .i64 tk) := by rw [← hX, ← hgx]; exact (cell_of_row _ _ 2 _ _ _ (heap_alloc_new wr _)).trans rfl
      have HGx : Hid (¬ gx = gs) := fun e => by have := HM.out.str.lt; omega
      have HXx : Hid (l[j]? = some x) := hx
      have HFl : Hid (flowOf ps x.num.toNat = fl) := by show _ = _; rw [hq, Int.toNat_natCast]; exact hfo
      have HTk : Hid (tickOf ps x.num.toNat = tk) := by show _ = _; rw [hq, Int.toNat_natCast, tickOf_get hpq]; exact htk
      obtain ⟨ld, hld⟩ : ∃ ld, (if fl = a then sz * ns.getD b 0 else 0) - (if fl = b then sz * ns.getD a 0 else 0) = ld := ⟨_, rfl⟩
      have HLD : Hid ((if fl = a then sz * ns.getD b 0 else 0) - (if fl = b then sz * ns.getD a 0 else 0) = ld) := hld
      have HLa : Hid (leadAt ps ns l a b j = ld) := by
        show _ = _
        rw [← hld]
        unfold leadAt
        rw [hx]
        simp only
        rw [hq, Int.toNat_natCast, hfo, bytesOf_get hpq, hsz]
      have hsr : 0 ≤ sz ∧ sz ≤ 1500 := by have := okPk_true (HP.out.2.each _ p hpq).1; omega
      have hDs := HDn.out.sum_
      have hp1 := HPre.out (j + 1) (by omega)
      have hp2 := HPre.out j (by omega)
      have hp3 := HPre.out ee (by have := HDn.out.le; omega)
      have hpj : pre (leadAt ps ns l a b) (j + 1) = pre (leadAt ps ns l a b) j + leadAt ps ns l a b j := rfl
      have hSu : -1000000000000 ≤ su + ld ∧ su + ld ≤ 1000000000000 := by rw [HLa.out] at hpj; omega
      have HSu : Hid (-1000000000000 ≤ su + ld ∧ su + ld ≤ 1000000000000) := hSu
      obtain ⟨jt, jt1, jt2, jt3⟩ := HDn.out.top
      obtain ⟨jb, jb1, jb2, jb3⟩ := HDn.out.bot
      have hpt := HPre.out jt (by have := HDn.out.le; omega)
      have hpb := HPre.out jb (by have := HDn.out.le; omega)
      have HHi : Hid (-1000000000000 ≤ max hi (su + ld) ∧ max hi (su + ld) ≤ 1000000000000) := by show _ ∧ _; omega
      have HLo : Hid (-1000000000000 ≤ min lo (su + ld) ∧ min lo (su + ld) ≤ 1000000000000) := by show _ ∧ _; omega
      obtain ⟨wa, hwa⟩ : ∃ wa, (are a && decide (least a ≤ now)) = wa := ⟨_, rfl⟩
      obtain ⟨wb, hwb⟩ : ∃ wb, (are b && decide (least b ≤ now)) = wb := ⟨_, rfl⟩
      have HWa : Hid (wa = true ↔ waitsB ps l a j) := by
        have := HBh.out.waits hx a
        rwa [hnow, hwa] at this
      have HWb : Hid (wb = true ↔ waitsB ps l b j) := by
        have := HBh.out.waits hx b
        rwa [hnow, hwb] at this
      have HCa : Hid (Calls Tryd.prog 62 #[.pointer (some ⟨gb, 0, none⟩), .int .i64 (a : Int), .int .i64 now] X fun e w' => e = .returned (.bool wa) ∧ w' = X) := by rw [← hwa]; exact behWaits gb are least a now X HMX.out.beh ha
      have HCb : Hid (Calls Tryd.prog 62 #[.pointer (some ⟨gb, 0, none⟩), .int .i64 (b : Int), .int .i64 now] X fun e w' => e = .returned (.bool wb) ∧ w' = X) := by rw [← hwb]; exact behWaits gb are least b now X HMX.out.beh hb
      rw [hX, hgx]
      clear hX hgx hx hnm s1 s2 hpq hf hfo hq hsz htk hnow hld hDs hp1 hp2 hp3 hpj hSu jt1 jt2 jt3 jb1 jb2 jb3 hpt hpb hwa hwb c1 c2 e1 e2 e3 c1' c2' e1' e2' e3' c1'' c2'' hqm
      cases wa with
      | false =>
        have g0 := HMX.out.str.c0
        have g1 := HMX.out.str.c1
        have g2 := HMX.out.str.c2
        have k0 := HMX.out.str.free 0
        have k1 := HMX.out.str.free 1
        have k2 := HMX.out.str.free 2
        have HMZ : Hid (SpMem w (((X.setCell ⟨gs, 0, none⟩ (.int .i64 0)).setCell ⟨gs, 1, none⟩ (.int .i64 0)).setCell ⟨gs, 2, none⟩ (.int .i64 0)) gb gs are least 0 0 0) := HMX.out.strAdd (((HMX.out.str.set0 0).set1 0).set2 0) (((butG _ _ _ _).trans (butG _ _ _ _)).trans (butG _ _ _ _))
        have q0 : (((X.setCell ⟨gs, 0, none⟩ (.int .i64 0)).setCell ⟨gs, 1, none⟩ (.int .i64 0)).setCell ⟨gs, 2, none⟩ (.int .i64 0)).cell? ⟨gx, 0, none⟩ = some (.int .i64 (fl : Int)) := ((((butG _ _ _ _).trans (butG _ _ _ _)).trans (butG _ _ _ _)).cell (p := ⟨gx, 0, none⟩) (cell_lt x0) HGx.out).trans x0
        have q1 : (((X.setCell ⟨gs, 0, none⟩ (.int .i64 0)).setCell ⟨gs, 1, none⟩ (.int .i64 0)).setCell ⟨gs, 2, none⟩ (.int .i64 0)).cell? ⟨gx, 1, none⟩ = some (.int .i64 sz) := ((((butG _ _ _ _).trans (butG _ _ _ _)).trans (butG _ _ _ _)).cell (p := ⟨gx, 1, none⟩) (cell_lt x1) HGx.out).trans x1
        have q2 : (((X.setCell ⟨gs, 0, none⟩ (.int .i64 0)).setCell ⟨gs, 1, none⟩ (.int .i64 0)).setCell ⟨gs, 2, none⟩ (.int .i64 0)).cell? ⟨gx, 2, none⟩ = some (.int .i64 tk) := ((((butG _ _ _ _).trans (butG _ _ _ _)).trans (butG _ _ _ _)).cell (p := ⟨gx, 2, none⟩) (cell_lt x2) HGx.out).trans x2
        have HDz : Hid (DownAt (fun i => waitsB ps l a i ∧ waitsB ps l b i) (leadAt ps ns l a b) n j 0 0 0 most j) := HDn.out.none (fun h => by have := HWa.out.2 h.1; cases this)
        clear x0 x1 x2
        go_wp2_with fail
        refine HCa.out.mono ?_
        rintro e2 X' ⟨rfl, hX'⟩
        rw [hX']
        clear hX'
        have HAdd : Hid (Calls Tryd.prog 66 #[.pointer (some ⟨gb, 0, none⟩), .agg #[.int .i64 (fl : Int), .int .i64 sz, .int .i64 tk]] (((X.setCell ⟨gs, 0, none⟩ (.int .i64 0)).setCell ⟨gs, 1, none⟩ (.int .i64 0)).setCell ⟨gs, 2, none⟩ (.int .i64 0)) fun e w' => e = .returned (.tuple #[]) ∧ ∃ are' least', BehCells w' gb are' least' ∧ BehindAt ps l j are' least' ∧ But (fun k => k = gb) (((X.setCell ⟨gs, 0, none⟩ (.int .i64 0)).setCell ⟨gs, 1, none⟩ (.int .i64 0)).setCell ⟨gs, 2, none⟩ (.int .i64 0)) w') := behAdd_at gb are least fl sz tk (((X.setCell ⟨gs, 0, none⟩ (.int .i64 0)).setCell ⟨gs, 1, none⟩ (.int .i64 0)).setCell ⟨gs, 2, none⟩ (.int .i64 0)) ps l j x HMZ.out.beh hfl HBh.out HXx.out HFl.out HTk.out
        go_wp2_with fail
        refine HAdd.out.mono ?_
        rintro e5 Y ⟨rfl, are', least', h1, h2, h3⟩
        have HMY : Hid (SpMem w Y gb gs are' least' 0 0 0 ∧ BehindAt ps l j are' least') := ⟨HMZ.out.behAdd h1 h3, h2⟩
        clear h1 h2 h3
        go_wp2_with fail
        go_roundg j
        case measure => omega
        case rel => exact ⟨by go_num, by omega, most, are', least', 0, 0, 0, j, rfl, HMY.out.2, HDz.out, HMY.out.1⟩
      | true =>
        cases wb with
        | false =>
          have g0 := HMX.out.str.c0
          have g1 := HMX.out.str.c1
          have g2 := HMX.out.str.c2
          have k0 := HMX.out.str.free 0
          have k1 := HMX.out.str.free 1
          have k2 := HMX.out.str.free 2
          have HMZ : Hid (SpMem w (((X.setCell ⟨gs, 0, none⟩ (.int .i64 0)).setCell ⟨gs, 1, none⟩ (.int .i64 0)).setCell ⟨gs, 2, none⟩ (.int .i64 0)) gb gs are least 0 0 0) := HMX.out.strAdd (((HMX.out.str.set0 0).set1 0).set2 0) (((butG _ _ _ _).trans (butG _ _ _ _)).trans (butG _ _ _ _))
          have q0 : (((X.setCell ⟨gs, 0, none⟩ (.int .i64 0)).setCell ⟨gs, 1, none⟩ (.int .i64 0)).setCell ⟨gs, 2, none⟩ (.int .i64 0)).cell? ⟨gx, 0, none⟩ = some (.int .i64 (fl : Int)) := ((((butG _ _ _ _).trans (butG _ _ _ _)).trans (butG _ _ _ _)).cell (p := ⟨gx, 0, none⟩) (cell_lt x0) HGx.out).trans x0
          have q1 : (((X.setCell ⟨gs, 0, none⟩ (.int .i64 0)).setCell ⟨gs, 1, none⟩ (.int .i64 0)).setCell ⟨gs, 2, none⟩ (.int .i64 0)).cell? ⟨gx, 1, none⟩ = some (.int .i64 sz) := ((((butG _ _ _ _).trans (butG _ _ _ _)).trans (butG _ _ _ _)).cell (p := ⟨gx, 1, none⟩) (cell_lt x1) HGx.out).trans x1
          have q2 : (((X.setCell ⟨gs, 0, none⟩ (.int .i64 0)).setCell ⟨gs, 1, none⟩ (.int .i64 0)).setCell ⟨gs, 2, none⟩ (.int .i64 0)).cell? ⟨gx, 2, none⟩ = some (.int .i64 tk) := ((((butG _ _ _ _).trans (butG _ _ _ _)).trans (butG _ _ _ _)).cell (p := ⟨gx, 2, none⟩) (cell_lt x2) HGx.out).trans x2
          have HDz : Hid (DownAt (fun i => waitsB ps l a i ∧ waitsB ps l b i) (leadAt ps ns l a b) n j 0 0 0 most j) := HDn.out.none (fun h => by have := HWb.out.2 h.2; cases this)
          clear x0 x1 x2
          go_wp2_with fail
          refine HCa.out.mono ?_
          rintro e2 X' ⟨rfl, hX'⟩
          rw [hX']
          clear hX'
          go_wp2_with fail
          refine HCb.out.mono ?_
          rintro e2 X' ⟨rfl, hX'⟩
          rw [hX']
          clear hX'
          have HAdd : Hid (Calls Tryd.prog 66 #[.pointer (some ⟨gb, 0, none⟩), .agg #[.int .i64 (fl : Int), .int .i64 sz, .int .i64 tk]] (((X.setCell ⟨gs, 0, none⟩ (.int .i64 0)).setCell ⟨gs, 1, none⟩ (.int .i64 0)).setCell ⟨gs, 2, none⟩ (.int .i64 0)) fun e w' => e = .returned (.tuple #[]) ∧ ∃ are' least', BehCells w' gb are' least' ∧ BehindAt ps l j are' least' ∧ But (fun k => k = gb) (((X.setCell ⟨gs, 0, none⟩ (.int .i64 0)).setCell ⟨gs, 1, none⟩ (.int .i64 0)).setCell ⟨gs, 2, none⟩ (.int .i64 0)) w') := behAdd_at gb are least fl sz tk (((X.setCell ⟨gs, 0, none⟩ (.int .i64 0)).setCell ⟨gs, 1, none⟩ (.int .i64 0)).setCell ⟨gs, 2, none⟩ (.int .i64 0)) ps l j x HMZ.out.beh hfl HBh.out HXx.out HFl.out HTk.out
          go_wp2_with fail
          refine HAdd.out.mono ?_
          rintro e5 Y ⟨rfl, are', least', h1, h2, h3⟩
          have HMY : Hid (SpMem w Y gb gs are' least' 0 0 0 ∧ BehindAt ps l j are' least') := ⟨HMZ.out.behAdd h1 h3, h2⟩
          clear h1 h2 h3
          go_wp2_with fail
          go_roundg j
          case measure => omega
          case rel => exact ⟨by go_num, by omega, most, are', least', 0, 0, 0, j, rfl, HMY.out.2, HDz.out, HMY.out.1⟩
        | true =>
          go_wp2_with fail
          refine HCa.out.mono ?_
          rintro e2 X' ⟨rfl, hX'⟩
          rw [hX']
          clear hX'
          go_wp2_with fail
          refine HCb.out.mono ?_
          rintro e2 X' ⟨rfl, hX'⟩
          rw [hX']
          clear hX'
          have HLd : Hid (Calls Tryd.prog 64 #[.agg #[.int .i64 (fl : Int), .int .i64 sz, .int .i64 tk], .slice na 8 ncap, .int .i64 (a : Int), .int .i64 (b : Int)] X fun e w' => e = .returned (.int .i64 ld) ∧ Below X.heap.size X w') := by
            rw [← HLD.out]
            exact lead_is fl a b sz tk na ncap ns X (HN.out.1.below HMX.out.below) HN.out.2.len ha hb hsr (fun i z hz => by have := HN.out.2.each i z hz; omega)
          go_wp2_with fail
          refine HLd.out.mono ?_
          rintro e3 X2 ⟨rfl, hbx⟩
          have HMX2 : Hid (SpMem w X2 gb gs are least su hi lo) := HMX.out.later hbx
          have y0 := cell_later hbx x0
          have y1 := cell_later hbx x1
          have y2 := cell_later hbx x2
          clear hbx x0 x1 x2
          go_wp2_with fail
          refine (stretchAdd gs su hi lo ld X2 HMX2.out.str HSu.out).mono ?_
          rintro e4 X3 ⟨rfl, hs3, hb3⟩
          have HM3 : Hid (SpMem w X3 gb gs are least (su + ld) (max hi (su + ld)) (min lo (su + ld))) := HMX2.out.strAdd hs3 hb3
          have z0 : X3.cell? ⟨gx, 0, none⟩ = some (.int .i64 (fl : Int)) := (hb3.cell (p := ⟨gx, 0, none⟩) (cell_lt y0) HGx.out).trans y0
          have z1 : X3.cell? ⟨gx, 1, none⟩ = some (.int .i64 sz) := (hb3.cell (p := ⟨gx, 1, none⟩) (cell_lt y1) HGx.out).trans y1
          have z2 : X3.cell? ⟨gx, 2, none⟩ = some (.int .i64 tk) := (hb3.cell (p := ⟨gx, 2, none⟩) (cell_lt y2) HGx.out).trans y2
          clear hs3 hb3 y0 y1 y2
          go_wp2_with fail
          refine (stretchMost gs (max hi (su + ld)) (min lo (su + ld)) X3 HM3.out.str.c1 HM3.out.str.c2 HLo.out HHi.out).mono ?_
          rintro e4' Z ⟨rfl, mm, hZ⟩
          have hbz : Below X3.heap.size X3 Z := by rw [hZ]; exact below_drewN (Below.refl _ _) _
          have HMZ : Hid (SpMem w Z gb gs are least (su + ld) (max hi (su + ld)) (min lo (su + ld))) := HM3.out.later hbz
          have q0 := cell_later hbz z0
          have q1 := cell_later hbz z1
          have q2 := cell_later hbz z2
          have HDz : Hid (DownAt (fun i => waitsB ps l a i ∧ waitsB ps l b i) (leadAt ps ns l a b) n j (su + ld) (max hi (su + ld)) (min lo (su + ld)) (max most (max hi (su + ld) - min lo (su + ld))) ee) := HDn.out.more ⟨HWa.out.1 (by trivial), HWb.out.1 (by trivial)⟩ (by rw [HLa.out]) rfl rfl rfl
          clear hZ hbz z0 z1 z2
          have HAdd : Hid (Calls Tryd.prog 66 #[.pointer (some ⟨gb, 0, none⟩), .agg #[.int .i64 (fl : Int), .int .i64 sz, .int .i64 tk]] Z fun e w' => e = .returned (.tuple #[]) ∧ ∃ are' least', BehCells w' gb are' least' ∧ BehindAt ps l j are' least' ∧ But (fun k => k = gb) Z w') := behAdd_at gb are least fl sz tk Z ps l j x HMZ.out.beh hfl HBh.out HXx.out HFl.out HTk.out
          go_wp2_with fail
          refine HAdd.out.mono ?_
          rintro e5 Y ⟨rfl, are', least', h1, h2, h3⟩
          have HMY : Hid (SpMem w Y gb gs are' least' (su + ld) (max hi (su + ld)) (min lo (su + ld)) ∧ BehindAt ps l j are' least') := ⟨HMZ.out.behAdd h1 h3, h2⟩
          clear h1 h2 h3
          go_wp2_with fail
          go_roundg j
          case measure => omega
          case rel => exact ⟨by go_num, by omega, max most (max hi (su + ld) - min lo (su + ld)), are', least', su + ld, max hi (su + ld), min lo (su + ld), ee, rfl, HMY.out.2, HDz.out, HMY.out.1⟩
end Go.Proofs.YtepnfioldbhffabDoor
