/- BucketActs: acts in memory; the ways on which there is no bucket. -/
import Derived.Test.YtlknljbceppedaaDoorCRef2
import Derived.Test.YtlknljbceppedaaDoorCFilled
import Derived.Test.YtlknljbceppedaaDoorCAt2
namespace Go.Proofs.YtlknljbceppedaaDoor
open Go.RowKit

structure Ac where
  kind : ByteArray
  tick : Int
  size : Int
/-- So many acts lie in memory from an address on (no address is asked for where there is none). -/
def LiesA (w : World) (a : Option Addr) (q : List Ac) : Prop :=
  q = [] ∨ ∃ b off, a = some ⟨b, off, none⟩ ∧ b < w.heap.size ∧ ∀ (i : Nat) p, q[i]? = some p → w.cell? ⟨b, off + i * 3, none⟩ = some (.string p.kind) ∧ w.cell? ⟨b, off + i * 3 + 1, none⟩ = some (.int .i64 p.tick) ∧ w.cell? ⟨b, off + i * 3 + 2, none⟩ = some (.int .i64 p.size)
theorem LiesA.place {w : World} {a : Option Addr} {q : List Ac} (h : LiesA w a q) (h1 : 1 ≤ q.length) :
    ∃ b off, a = some ⟨b, off, none⟩ ∧ b < w.heap.size ∧ ∀ (i : Nat) p, q[i]? = some p → w.cell? ⟨b, off + i * 3, none⟩ = some (.string p.kind) ∧ w.cell? ⟨b, off + i * 3 + 1, none⟩ = some (.int .i64 p.tick) ∧ w.cell? ⟨b, off + i * 3 + 2, none⟩ = some (.int .i64 p.size) := by
  rcases h with rfl | h
  · simp at h1
  · exact h
theorem LiesA.below {w w' : World} {a : Option Addr} {q : List Ac} (h : LiesA w a q) (hb : Below w.heap.size w w') : LiesA w' a q := by
  rcases h with rfl | ⟨b, off, rfl, hlt, hc⟩
  · exact .inl rfl
  · refine .inr ⟨b, off, rfl, Nat.lt_of_lt_of_le hlt hb.size, fun i p hi => ?_⟩
    have := hc i p hi
    exact ⟨cell_later hb this.1, cell_later hb this.2.1, cell_later hb this.2.2⟩

theorem Errs9.four {w : World} {ad : Nat → Addr} (h : Errs9 w ad) : Errs4 w ad := ⟨h.c1, h.c2, h.c3, h.c4⟩
theorem codeIs_sentOf {w : World} {ad : Nat → Addr} (he : Errs9 w ad) (k : Nat) (hk : k ≤ 9) : CodeIs w (sentOf ad k) k (-1) := by
  cases k with
  | zero => exact codeIs_nil w
  | succ k => exact codeIs_sent he k (by omega)
theorem tickErr_num (l t : Int) : tickErr l t = 0 ∨ tickErr l t = 2 ∨ tickErr l t = 5 := by unfold tickErr; split <;> (try split) <;> simp
theorem askErr_num (l t n : Int) : askErr l t n = 0 ∨ askErr l t n = 2 ∨ askErr l t n = 5 := by
  unfold askErr; split
  · exact tickErr_num l t
  · simp
theorem askErr_one (l t : Int) : askErr l t 1 = tickErr l t := by unfold askErr; rw [if_pos (by omega)]

set_option maxRecDepth 100000 in
set_option maxHeartbeats 1000000 in
theorem acts_long (a : Option Addr) (n cap : Nat) (x y : Int) (w : World) (ad : Nat → Addr) (he : Errs9 w ad) (hm : n ≤ maxLen) (h : 100 < n) :
    Calls Tryd.prog 14 #[.agg #[.int .i64 x, .int .i64 y], .slice a n cap] w fun e w' => e = .returned (.bool true) ∧ Below w.heap.size w w' := by
  unfold maxLen at hm
  have hb0 : Below w.heap.size w (w.alloc (.cells #[.int .i64 x, .int .i64 y] 54)) := (Below.refl _ _).alloc (Nat.le_refl _) _
  have HE : Hid (Errs4 (w.alloc (.cells #[.int .i64 x, .int .i64 y] 54)) ad) := he.four.below hb0
  clear he
  go_enter Tryd.func14, Tryd.ntmps14
  go_wp2_with fail
  refine (filled_any _ ad HE.out).mono ?_
  rintro e w1 ⟨rfl, hb⟩
  have HB : Hid (Below w.heap.size w w1) := hb0.trans (hb.mono hb0.size)
  clear hb hb0
  go_wp2_with fail
  go_ret
  exact ⟨rfl, HB.out⟩

set_option maxRecDepth 100000 in
set_option maxHeartbeats 1000000 in
theorem acts_line (a : Option Addr) (n cap : Nat) (x y : Int) (w : World) (ad : Nat → Addr) (he : Errs9 w ad) (hn : n ≤ 100) (ho : okLine x y = false) :
    Calls Tryd.prog 14 #[.agg #[.int .i64 x, .int .i64 y], .slice a n cap] w fun e w' => e = .returned (.bool true) ∧ Below w.heap.size w w' := by
  have HO : Hid (okLine x y = false) := ho
  have hb0 : Below w.heap.size w (w.alloc (.cells #[.int .i64 x, .int .i64 y] 54)) := (Below.refl _ _).alloc (Nat.le_refl _) _
  have HE : Hid (Errs9 (w.alloc (.cells #[.int .i64 x, .int .i64 y] 54)) ad) := he.below hb0
  clear he ho
  go_enter Tryd.func14, Tryd.ntmps14
  go_wp2_with fail
  generalize hw0 : w.alloc (.cells #[.int .i64 x, .int .i64 y] 54) = w0 at *
  have HD : Hid (w0.cell? ⟨w.heap.size, 0, none⟩ = some (.int .i64 x) ∧ w0.cell? ⟨w.heap.size, 1, none⟩ = some (.int .i64 y)) := by
    constructor <;> (rw [← hw0]; simp)
  have HW : Hid (Below w.heap.size w w0) := hb0
  clear hw0 hb0
  refine (filled_any _ ad HE.out.four).mono ?_
  rintro e w1 ⟨rfl, hb⟩
  have HB1 : Hid (Below w0.heap.size w0 w1) := hb
  have c0 := cell_later hb HD.out.1
  have c1 := cell_later hb HD.out.2
  clear hb
  go_wp2_with fail
  refine (new_bad x y _ ad (HE.out.below HB1.out).four HO.out).mono ?_
  rintro e w2 ⟨rfl, hb2⟩
  have HB2 : Hid (Below w0.heap.size w0 w2) := HB1.out.trans (hb2.mono HB1.out.size)
  have d0 := cell_later HB2.out HD.out.1
  have d1 := cell_later HB2.out HD.out.2
  clear hb2 c0 c1
  go_wp2_with fail
  refine (lineError_no x y _ HO.out).mono ?_
  rintro e w3 ⟨rfl, hw3⟩
  have HB3 : Hid (Below w0.heap.size w0 w3) := by show Below _ _ _; rw [hw3]; exact HB2.out.alloc HB2.out.size _
  clear hw3 d0 d1
  go_wp2_with fail
  refine (coded_yes _ 2 _ (codeIs_sent (HE.out.below HB3.out) 1 (by decide))).mono ?_
  rintro e w4 ⟨rfl, hb4⟩
  have HB4 : Hid (Below w.heap.size w w4) := HW.out.trans ((HB3.out.trans (hb4.mono HB3.out.size)).mono HW.out.size)
  clear hb4
  go_wp2_with fail
  go_ret
  exact ⟨rfl, HB4.out⟩
end Go.Proofs.YtlknljbceppedaaDoor
