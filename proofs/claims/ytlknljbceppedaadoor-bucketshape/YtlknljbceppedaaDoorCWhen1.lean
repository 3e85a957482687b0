/- BucketWhen: the ways on which nothing is asked. -/
import Derived.Test.YtlknljbceppedaaDoorCFilled
import Derived.Test.YtlknljbceppedaaDoorCPkts4
import Derived.Test.YtlknljbceppedaaDoorCAt1
namespace Go.Proofs.YtlknljbceppedaaDoor
open Go.RowKit

set_option maxRecDepth 100000 in
set_option maxHeartbeats 1000000 in
theorem when_line (a : Option Addr) (m cap : Nat) (x y t n : Int) (w : World) (ad : Nat → Addr) (he : Errs4 w ad) (ho : okLine x y = false) :
    Calls Tryd.prog 13 #[.agg #[.int .i64 x, .int .i64 y], .slice a m cap, .int .i64 t, .int .i64 n] w fun e w' => e = .returned (.bool true) ∧ Below w.heap.size w w' := by
  have HO : Hid (okLine x y = false) := ho
  have hb0 : Below w.heap.size w (w.alloc (.cells #[.int .i64 x, .int .i64 y] 54)) := (Below.refl _ _).alloc (Nat.le_refl _) _
  have HE : Hid (Errs4 (w.alloc (.cells #[.int .i64 x, .int .i64 y] 54)) ad) := he.below hb0
  clear ho he
  go_enter Tryd.func13, Tryd.ntmps13
  go_wp2_with fail
  refine (filled_any _ ad HE.out).mono ?_
  rintro e w1 ⟨rfl, hb⟩
  have HB : Hid (Below w.heap.size w w1) := hb0.trans (hb.mono hb0.size)
  have c0 : w1.cell? ⟨w.heap.size, 0, none⟩ = some (.int .i64 x) := cell_later hb (by simp)
  have c1 : w1.cell? ⟨w.heap.size, 1, none⟩ = some (.int .i64 y) := cell_later hb (by simp)
  clear hb hb0
  go_wp2_with fail
  refine (lineError_no x y _ HO.out).mono ?_
  rintro e w2 ⟨rfl, rfl⟩
  go_wp2_with fail
  go_ret
  exact ⟨rfl, HB.out.alloc HB.out.size _⟩

set_option maxRecDepth 100000 in
set_option maxHeartbeats 1000000 in
theorem when_far (a : Option Addr) (m cap : Nat) (x y t n : Int) (w : World) (ad : Nat → Addr) (he : Errs4 w ad) (ho : okLine x y = true) (hm : m ≤ maxLen) (h : 60 < m ∨ (m ≤ 60 ∧ t < 0) ∨ (m ≤ 60 ∧ 0 ≤ t ∧ 1073741824 < t)) :
    Calls Tryd.prog 13 #[.agg #[.int .i64 x, .int .i64 y], .slice a m cap, .int .i64 t, .int .i64 n] w fun e w' => e = .returned (.bool true) ∧ Below w.heap.size w w' := by
  have HO : Hid (okLine x y = true) := ho
  unfold maxLen at hm
  have hb0 : Below w.heap.size w (w.alloc (.cells #[.int .i64 x, .int .i64 y] 54)) := (Below.refl _ _).alloc (Nat.le_refl _) _
  have HE : Hid (Errs4 (w.alloc (.cells #[.int .i64 x, .int .i64 y] 54)) ad) := he.below hb0
  clear ho he
  rcases h with h | ⟨h, h'⟩ | ⟨h, h', h''⟩
  all_goals
    go_enter Tryd.func13, Tryd.ntmps13
    go_wp2_with fail
    refine (filled_any _ ad HE.out).mono ?_
    rintro e w1 ⟨rfl, hb⟩
    have HB : Hid (Below w.heap.size w w1) := hb0.trans (hb.mono hb0.size)
    have c0 : w1.cell? ⟨w.heap.size, 0, none⟩ = some (.int .i64 x) := cell_later hb (by simp)
    have c1 : w1.cell? ⟨w.heap.size, 1, none⟩ = some (.int .i64 y) := cell_later hb (by simp)
    clear hb hb0
    go_wp2_with fail
    refine (lineError_yes x y _ HO.out).mono ?_
    rintro e w2 ⟨rfl, rfl⟩
    go_wp2_with fail
    go_ret
    exact ⟨rfl, HB.out.alloc HB.out.size _⟩

/-- A struct's first field, taken out of a value. -/
theorem field_code (c d : Int) (w : World) : (Instr.field 40 (.agg #[.int .i64 c, .int .i64 d]) 0).run Tryd.prog w = .ok (.int .i64 c) w := by kernel_rfl

set_option maxRecDepth 100000 in
set_option maxHeartbeats 1000000 in
theorem when_bad (a : Option Addr) (cap : Nat) (ps : List Pk) (x y t n : Int) (w : World) (ad : Nat → Addr) (he : Errs4 w ad) (ho : okLine x y = true) (hl : LiesP w a ps) (hm : ps.length ≤ 60) (t0 : 0 ≤ t) (t1 : t ≤ 1073741824) (j : Nat) (p : Pk) (k : Nat) (hj : ps[j]? = some p) (hg : goodTo ps j) (hbad : PkBad ps j p k) :
    Calls Tryd.prog 13 #[.agg #[.int .i64 x, .int .i64 y], .slice a ps.length cap, .int .i64 t, .int .i64 n] w fun e w' => e = .returned (.bool true) ∧ Below w.heap.size w w' := by
  have HO : Hid (okLine x y = true) := ho
  have hb0 : Below w.heap.size w (w.alloc (.cells #[.int .i64 x, .int .i64 y] 54)) := (Below.refl _ _).alloc (Nat.le_refl _) _
  have HE : Hid (Errs4 (w.alloc (.cells #[.int .i64 x, .int .i64 y] 54)) ad) := he.below hb0
  have hjl : j ≤ ps.length := by
    rcases Nat.lt_or_ge j ps.length with h | h
    · omega
    · simp [List.getElem?_eq_none h] at hj
  obtain ⟨c, c1, HP⟩ : ∃ c : Int, 0 < c ∧ Hid (∀ w', Below w.heap.size w w' → Calls Tryd.prog 42 #[.slice a ps.length cap] w' fun e w'' => e = .returned (.agg #[.int .i64 c, .int .i64 j]) ∧ Below w'.heap.size w' w'') :=
    ⟨k + 1, by omega, fun w' hb => pfault_all a cap ps w' (hl.below hb) (by omega) j hjl hg _ _ (.inr ⟨p, k, hj, hbad, rfl, rfl⟩)⟩
  have c1' : decide (0 < c) = true := decide_eq_true c1
  have hfd := field_code
  clear ho he hl hj hg hbad hjl
  generalize ps.length = m at *
  go_enter Tryd.func13, Tryd.ntmps13
  go_wp2_with fail
  refine (filled_any _ ad HE.out).mono ?_
  rintro e w1 ⟨rfl, hb⟩
  have HB : Hid (Below w.heap.size w w1) := hb0.trans (hb.mono hb0.size)
  have c0 : w1.cell? ⟨w.heap.size, 0, none⟩ = some (.int .i64 x) := cell_later hb (by simp)
  have c1 : w1.cell? ⟨w.heap.size, 1, none⟩ = some (.int .i64 y) := cell_later hb (by simp)
  clear hb hb0
  go_wp2_with fail
  refine (lineError_yes x y _ HO.out).mono ?_
  rintro e w2 ⟨rfl, hw2⟩
  have HB2 : Hid (Below w.heap.size w w2) := by show Below _ _ _; rw [hw2]; exact HB.out.alloc HB.out.size _
  clear hw2
  go_wp2_with fail
  refine (HP.out _ HB2.out).mono ?_
  rintro e w3 ⟨rfl, hb3⟩
  have HB3 : Hid (Below w.heap.size w w3) := HB2.out.trans (hb3.mono HB2.out.size)
  clear hb3
  go_wp2_with fail
  go_ret
  exact ⟨rfl, HB3.out⟩
end Go.Proofs.YtlknljbceppedaaDoor
