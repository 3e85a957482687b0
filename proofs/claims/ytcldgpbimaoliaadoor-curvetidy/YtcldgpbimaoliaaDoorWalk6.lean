/- Walks: the closed fact of the curve laws. -/
import Derived.Test.YtcldgpbimaoliaaDoorWalk5
namespace Go.Proofs.YtcldgpbimaoliaaDoor
open Go.RowKit

theorem lies_new (w : World) (x y : Int) : Lies (w.alloc (.cells #[.int .i64 x, .int .i64 y] 54)) (some ⟨w.heap.size, 0, none⟩) [(x, y)] := by
  refine .inr ⟨_, _, rfl, by simp, fun i x' y' hi => ?_⟩
  cases i with
  | zero => simp at hi; obtain ⟨rfl, rfl⟩ := hi; exact ⟨by simp, by simp⟩
  | succ i => simp at hi

set_option maxHeartbeats 400000 in
theorem drawn_any (w : World) :
    Calls Tryd.prog 19 #[] w fun e w' => e = .returned (.bool true) ∧ Below w.heap.size w w' := by
  have k1 : okCurve [(5, 500)] := ⟨by decide, by decide, fun p hp => by simp at hp; subst hp; rfl⟩
  have k2 : okCurve [(1, 0)] := ⟨by decide, by decide, fun p hp => by simp at hp; subst hp; rfl⟩
  have K1 : Hid (okCurve [(5, 500)]) := k1
  have K2 : Hid (okCurve [(1, 0)]) := k2
  clear k1 k2
  go_enter Tryd.func19, Tryd.ntmps19
  go_wp2_with fail
  refine (at_ok _ 1 [(5, 500)] 3 _ (lies_new w 5 500) K1.out (by decide) (by decide) (by decide) (by decide)).mono ?_
  rintro e w1 ⟨rfl, hb⟩
  have hv : curveAt 3 [(5, 500)] = 6 := by decide
  rw [hv]
  have HB : Hid (Below (w.alloc (.cells #[.int .i64 5, .int .i64 500] 54)).heap.size (w.alloc (.cells #[.int .i64 5, .int .i64 500] 54)) w1) := hb
  clear hb hv
  go_wp2_with fail
  refine (check_ok _ 1 [(1, 0)] _ (lies_new w1 1 0) K2.out).mono ?_
  rintro e w2 ⟨rfl, hb2⟩
  have HB2 : Hid (Below (w1.alloc (.cells #[.int .i64 1, .int .i64 0] 54)).heap.size (w1.alloc (.cells #[.int .i64 1, .int .i64 0] 54)) w2) := hb2
  clear hb2
  go_wp2_with fail
  go_ret
  refine ⟨rfl, ?_⟩
  have h1 : Below w.heap.size w w1 := ((Below.refl _ _).alloc (Nat.le_refl _) _).trans (HB.out.mono (by simp))
  exact (h1.alloc h1.size _).trans (HB2.out.mono (by have := h1.size; simp; omega))

/-- The copy, made in a later world than the one of which the lines' place is known. -/
theorem ownLines_from (a : Option Addr) (cap : Nat) (ls : List (Int × Int)) (w0 w : World) (hB : Below w0.heap.size w0 w) (hl : Lies w0 a ls) (hn : ls.length ≤ 1000) (ha : a = none → ls = [] ∧ cap = 0) :
    Calls Tryd.prog 21 #[.slice a ls.length cap] w fun e w' => ∃ v, e = .returned v ∧ OwnL w' w0.heap.size v ls ∧ Below w.heap.size w w' ∧ Below w0.heap.size w0 w' := by
  refine (ownLines_any a cap ls w (hl.below hB) hn ha).mono ?_
  rintro e w' ⟨v, rfl, ho, hb⟩
  exact ⟨v, rfl, ownsRow_mono ho hB.size, hb, hB.trans (hb.mono hB.size)⟩
theorem OwnL.lies {w : World} {B : Nat} {a : Option Addr} {n cap : Nat} {ls : List (Int × Int)} (h : OwnL w B (.slice a n cap) ls) : n = ls.length ∧ ls.length ≤ cap ∧ cap ≤ maxLen ∧ Lies w a ls := by
  obtain ⟨a', cap', e, h1, h2, h3⟩ := h.open
  injection e with e1 e2 e3
  subst e1 e2 e3
  exact ⟨rfl, h1, h2, h3⟩
theorem at_ok_own (v : Value) (ls : List (Int × Int)) (t : Int) (w : World) (B : Nat) (a : Option Addr) (n cap : Nat) (ho : OwnL w B (.slice a n cap) ls) (hk : okCurve ls) (t0 : 0 ≤ t) (t1 : t ≤ 1099511627776) (hv : v = .slice a n cap) :
    Calls Tryd.prog 20 #[v, .int .i64 t] w fun e w' => e = .returned (.tuple #[.int .i64 (curveAt t ls), .nilIface]) ∧ Below w.heap.size w w' := by
  subst hv
  obtain ⟨rfl, h1, h2, h3⟩ := ho.lies
  exact at_ok a cap ls t w h3 hk h1 h2 t0 t1
end Go.Proofs.YtcldgpbimaoliaaDoor
