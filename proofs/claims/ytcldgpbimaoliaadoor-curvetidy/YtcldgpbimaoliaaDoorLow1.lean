/- Walks: isCovered. -/
import Derived.Test.YtcldgpbimaoliaaDoorSort2
import Derived.Test.YtcldgpbimaoliaaDoorDelay3
import Derived.Deep.LoopGhost
namespace Go.Proofs.YtcldgpbimaoliaaDoor
open Go.RowKit

/-- Is the top of the stack nowhere the least one, once x stands behind it? (The stack's top comes first.) -/
def coveredT (x : Int × Int) : List (Int × Int) → Bool
  | [] => false
  | [t] => decide (x.1 ≤ t.1)
  | t :: u :: _ => decide (x.1 ≤ t.1) || decide ((x.1 - t.1) * (u.2 - t.2) ≤ (t.1 - u.1) * (t.2 - x.2))
def popT (x : Int × Int) : List (Int × Int) → List (Int × Int)
  | [] => []
  | t :: r => if coveredT x (t :: r) = true then popT x r else t :: r
def lowT : List (Int × Int) → List (Int × Int) → List (Int × Int)
  | T, [] => T
  | T, x :: r => lowT (x :: popT x T) r

theorem prodL {a b : Int} (h1 : -20000 ≤ a) (h2 : a ≤ 20000) (h3 : -100000 ≤ b) (h4 : b ≤ 100000) : -2000000000 ≤ a * b ∧ a * b ≤ 2000000000 := by
  have h := Int.natAbs_mul a b
  have ha : a.natAbs ≤ 20000 := by omega
  have hb : b.natAbs ≤ 100000 := by omega
  have := Nat.mul_le_mul ha hb
  omega

set_option maxHeartbeats 400000 in
theorem covered_ok (a : Option Addr) (cap : Nat) (T : List (Int × Int)) (x : Int × Int) (w : World) (hl : Lies w a T.reverse) (h1 : 1 ≤ T.length) (hn : T.length ≤ 1000) (hok : okAll T) (hx : okLine x.1 x.2 = true) :
    Calls Tryd.prog 87 #[.slice a T.length cap, .agg #[.int .i64 x.1, .int .i64 x.2]] w fun e w' => e = .returned (.bool (coveredT x T)) ∧ Below w.heap.size w w' := by
  obtain ⟨b, off, rfl, hlt, hc⟩ := hl.some (by simpa using h1)
  clear hl
  obtain ⟨x1, x2⟩ := x
  obtain ⟨q1, q2, q3, q4⟩ := okLine_true hx
  simp only [] at q1 q2 q3 q4
  match T, h1, hn, hok, hc with
  | [t], _, _, hok, hc =>
    obtain ⟨t1, t2⟩ := t
    have c := hc 0 t1 t2 rfl
    have c0 : w.cell? ⟨b, off, none⟩ = some (.int .i64 t1) := by simpa using c.1
    have c1 : w.cell? ⟨b, off + 1, none⟩ = some (.int .i64 t2) := by simpa using c.2
    have HR : Hid (coveredT (x1, x2) [(t1, t2)] = decide (x1 ≤ t1)) := rfl
    clear hc c hok hx
    by_cases hle : x1 ≤ t1
    · go_enter Tryd.func87, Tryd.ntmps87
      go_wp2
      go_ret
      exact ⟨congrArg (fun z => Ending.returned (.bool z)) (by rw [HR.out]; exact (decide_eq_true hle).symm), ((Below.refl _ _).alloc (Nat.le_refl _) _).alloc (by simp) _⟩
    · go_enter Tryd.func87, Tryd.ntmps87
      go_wp2
      go_ret
      exact ⟨congrArg (fun z => Ending.returned (.bool z)) (by rw [HR.out]; exact (decide_eq_false (by omega)).symm), ((Below.refl _ _).alloc (Nat.le_refl _) _).alloc (by simp) _⟩
  | t :: u :: r, _, hn, hok, hc =>
    obtain ⟨t1, t2⟩ := t
    obtain ⟨u1, u2⟩ := u
    obtain ⟨a1, a2, a3, a4⟩ := okLine_true (hok _ (List.mem_cons_self ..))
    obtain ⟨b1, b2, b3, b4⟩ := okLine_true (hok _ (List.mem_cons_of_mem _ (List.mem_cons_self ..)))
    simp only [] at a1 a2 a3 a4 b1 b2 b3 b4
    have et : ((t1, t2) :: (u1, u2) :: r).reverse = r.reverse ++ [(u1, u2), (t1, t2)] := by simp
    have ct := hc (r.length + 1) t1 t2 (by rw [et]; simp)
    have cu := hc r.length u1 u2 (by rw [et]; simp)
    obtain ⟨m, hm⟩ : ∃ m, r.length = m := ⟨_, rfl⟩
    rw [hm] at ct cu
    rw [show ((t1, t2) :: (u1, u2) :: r).length = m + 2 by simp [hm]]
    have hm' : m ≤ 998 := by simp at hn; omega
    have HR : Hid (coveredT (x1, x2) ((t1, t2) :: (u1, u2) :: r) = (decide (x1 ≤ t1) || decide ((x1 - t1) * (u2 - t2) ≤ (t1 - u1) * (t2 - x2)))) := rfl
    obtain ⟨k1, k2⟩ := ct
    obtain ⟨k3, k4⟩ := cu
    obtain ⟨p1, p2⟩ := prodL (show -20000 ≤ x1 - t1 by omega) (show x1 - t1 ≤ 20000 by omega) (show -100000 ≤ u2 - t2 by omega) (show u2 - t2 ≤ 100000 by omega)
    obtain ⟨p3, p4⟩ := prodL (show -20000 ≤ t1 - u1 by omega) (show t1 - u1 ≤ 20000 by omega) (show -100000 ≤ t2 - x2 by omega) (show t2 - x2 ≤ 100000 by omega)
    clear hc hok hx et hm hn
    by_cases hle : x1 ≤ t1
    · go_enter Tryd.func87, Tryd.ntmps87
      go_wp2
      go_ret
      exact ⟨congrArg (fun z => Ending.returned (.bool z)) (by rw [HR.out, decide_eq_true hle]; rfl), ((Below.refl _ _).alloc (Nat.le_refl _) _).alloc (by simp) _⟩
    · go_enter Tryd.func87, Tryd.ntmps87
      go_wp2
      go_ret
      exact ⟨congrArg (fun z => Ending.returned (.bool z)) (by rw [HR.out, decide_eq_false (show ¬ x1 ≤ t1 by omega), Bool.false_or]), (((Below.refl _ _).alloc (Nat.le_refl _) _).alloc (by simp) _).alloc (by simp; omega) _⟩
end Go.Proofs.YtcldgpbimaoliaaDoor
