/- Walks: a new bucket. -/
import Derived.Test.YtlknljbceppedaaDoorCBucket4
import Derived.Test.YtlknljbceppedaaDoorCAllWalks
import Derived.Test.YtlknljbceppedaaDoorCAllErrs
namespace Go.Proofs.YtlknljbceppedaaDoor
open Go.RowKit

set_option maxHeartbeats 400000 in
theorem full_any (x y : Int) (w : World) (h0 : 1 ≤ x) (h1 : x ≤ 20000) :
    Calls Tryd.prog 75 #[.agg #[.int .i64 x, .int .i64 y]] w fun e w' => e = .returned (.pointer (some ⟨w.heap.size + 1, 0, none⟩)) ∧ BkAt w' (w.heap.size + 1) (bkOf (x, y)) ∧ Below w.heap.size w w' := by
  go_enter Tryd.func75, Tryd.ntmps75
  go_wp2
  go_ret
  refine ⟨by simp, ?_, ((Below.refl _ _).alloc (Nat.le_refl _) _).alloc (by simp) _⟩
  constructor <;> simp [bkOf]

set_option maxHeartbeats 400000 in
theorem unwrap_fault (B : Nat) (v : Value) (w : World) (h1 : w.cell? ⟨B, 1, none⟩ = some v) :
    Calls Tryd.prog 74 #[.iface 29 (.pointer (some ⟨B, 0, none⟩))] w fun e w' => e = .returned v ∧ w' = w := by
  have uW := Tryd.hasUnwrapW
  have mU := Tryd.methodUnwrap
  go_enter Tryd.func74, Tryd.ntmps74
  go_wp2
  go_ret
  exact ⟨rfl, rfl⟩

theorem lies_second (w : World) (x y : Int) : Lies ((w.alloc (.cells #[.int .i64 x, .int .i64 y] 54)).alloc (.cells #[.int .i64 x, .int .i64 y] 54)) (some ⟨w.heap.size + 1, 0, none⟩) [(x, y)] := by
  have := lies_new (w.alloc (.cells #[.int .i64 x, .int .i64 y] 54)) x y
  rwa [show (w.alloc (.cells #[.int .i64 x, .int .i64 y] 54)).heap.size = w.heap.size + 1 by simp] at this

set_option maxHeartbeats 400000 in
theorem new_ok (x y : Int) (w : World) (h : okLine x y = true) :
    Calls Tryd.prog 47 #[.agg #[.int .i64 x, .int .i64 y]] w fun e w' => ∃ g, e = .returned (.tuple #[.pointer (some ⟨g, 0, none⟩), .nilIface]) ∧ w.heap.size ≤ g ∧ BkAt w' g (bkOf (x, y)) ∧ Below w.heap.size w w' := by
  have hk : okCurve [(x, y)] := ⟨by simp, by simp, fun p hp => by simp at hp; subst hp; exact h⟩
  have HK : Hid (okCurve [(x, y)]) := hk
  obtain ⟨h0, h1, -, -⟩ := okLine_true h
  have HX : Hid (1 ≤ x ∧ x ≤ 20000) := ⟨h0, h1⟩
  clear hk h h0 h1
  go_enter Tryd.func47, Tryd.ntmps47
  go_wp2_with fail
  refine (check_ok _ 1 [(x, y)] _ (lies_second w x y) HK.out).mono ?_
  rintro e w1 ⟨rfl, hb⟩
  have HB : Hid (Below (w.alloc (.cells #[.int .i64 x, .int .i64 y] 54)).heap.size (w.alloc (.cells #[.int .i64 x, .int .i64 y] 54)) w1) := ((Below.refl _ _).alloc (Nat.le_refl _) _).trans (hb.mono (by simp))
  have c0 : w1.cell? ⟨w.heap.size, 0, none⟩ = some (.int .i64 x) := cell_later HB.out (by simp)
  have c1 : w1.cell? ⟨w.heap.size, 1, none⟩ = some (.int .i64 y) := cell_later HB.out (by simp)
  clear hb
  go_wp2_with fail
  refine (full_any x y _ HX.out.1 HX.out.2).mono ?_
  rintro e w2 ⟨rfl, hk2, hb2⟩
  have HB2 : Hid (Below w.heap.size w w2) := by
    have h1 : Below w.heap.size w w1 := ((Below.refl _ _).alloc (Nat.le_refl _) _).trans (HB.out.mono (by simp))
    exact h1.trans (hb2.mono h1.size)
  have HK2 : Hid (BkAt w2 (w1.heap.size + 1) (bkOf (x, y))) := hk2
  have HS : Hid (w.heap.size ≤ w1.heap.size + 1) := by have := HB.out.size; simp at this; show _ ≤ _; omega
  clear hk2 hb2
  go_wp2_with fail
  go_ret2
  exact ⟨_, rfl, HS.out, HK2.out, HB2.out⟩

set_option maxHeartbeats 400000 in
theorem new_bad (x y : Int) (w : World) (ad : Nat → Addr) (he : Errs4 w ad) (h : okLine x y = false) :
    Calls Tryd.prog 47 #[.agg #[.int .i64 x, .int .i64 y]] w fun e w' => e = .returned (.tuple #[.pointer none, .iface 98 (.pointer (some (ad 1)))]) ∧ Below w.heap.size w w' := by
  have HE : Hid (Errs4 w ad) := he
  have HN : Hid (okLine x y = false) := h
  clear he h
  go_enter Tryd.func47, Tryd.ntmps47
  go_wp2_with fail
  refine (check_bad _ 1 [(x, y)] _ (ad 1) (cell_later (((Below.refl _ _).alloc (Nat.le_refl _) _).alloc (by simp) _) HE.out.c1) (lies_second w x y) (by simp) (by simp) 0 (by simp) (fun i _ _ hi => by omega) (fun a b hab => by simp at hab; rw [← hab.1, ← hab.2]; exact HN.out)).mono ?_
  rintro e w1 ⟨hb, B, rfl, hB1, hB2, c0, c1⟩
  have HB : Hid (Below w.heap.size w w1) := (((Below.refl _ _).alloc (Nat.le_refl _) _).alloc (by simp) _).trans (hb.mono (by simp; omega))
  clear hb hB1 hB2 c0
  go_wp2_with fail
  refine (unwrap_fault B _ _ c1).mono ?_
  rintro e w2 ⟨rfl, rfl⟩
  go_wp2_with fail
  go_ret2
  exact ⟨rfl, HB.out⟩
end Go.Proofs.YtlknljbceppedaaDoor
