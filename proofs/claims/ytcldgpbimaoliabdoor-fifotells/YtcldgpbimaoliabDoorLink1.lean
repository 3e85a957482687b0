/- Walks: package link's Check and sendOne. -/
import Derived.Test.YtcldgpbimaoliabDoorPkts3
import Derived.Test.YtcldgpbimaoliabDoorPlainLink
namespace Go.Proofs.YtcldgpbimaoliabDoor
open Go.RowKit

theorem linkCheck_ok (a : Option Addr) (cap : Nat) (ps : List Pk) (per : Int) (w : World) (hl : LiesP w a ps) (ho : OkPks ps) (h1 : 1 ≤ per) (h2 : per ≤ 1000) :
    Calls Tryd.prog 35 #[.slice a ps.length cap, .int .i64 per] w fun e w' => e = .returned .nilIface ∧ Below w.heap.size w w' := by
  have HC : Hid (Calls Tryd.prog 39 #[.slice a ps.length cap] w fun e w' => e = .returned .nilIface ∧ Below w.heap.size w w') := pcheck_ok a cap ps w hl ho
  clear hl ho
  go_enter Tryd.func35, Tryd.ntmps35
  go_wp2_with fail
  refine HC.out.mono ?_
  rintro e w1 ⟨rfl, hb⟩
  have HB : Hid (Below w.heap.size w w1) := hb
  clear hb
  go_wp2_with fail
  go_ret
  exact ⟨rfl, HB.out⟩
theorem linkCheck_err {R : TypeId → Value → World → Prop} (a : Option Addr) (n cap : Nat) (per : Int) (w : World) (h : Calls Tryd.prog 39 #[.slice a n cap] w fun e w' => ∃ ty v, e = .returned (.iface ty v) ∧ R ty v w') :
    Calls Tryd.prog 35 #[.slice a n cap, .int .i64 per] w fun e w' => ∃ ty v, e = .returned (.iface ty v) ∧ R ty v w' := by
  have HC : Hid (Calls Tryd.prog 39 #[.slice a n cap] w fun e w' => ∃ ty v, e = .returned (.iface ty v) ∧ R ty v w') := h
  clear h
  go_enter Tryd.func35, Tryd.ntmps35
  go_wp2_with fail
  refine HC.out.mono ?_
  rintro e w1 ⟨ty, v, rfl, hR⟩
  have HR : Hid (R ty v w1) := hR
  clear hR
  go_wp2_with fail
  go_ret
  exact ⟨ty, v, rfl, HR.out⟩
theorem linkCheck_per (a : Option Addr) (cap : Nat) (ps : List Pk) (per : Int) (w : World) (ad : Nat → Addr) (he : ErrsBO w ad) (hl : LiesP w a ps) (ho : OkPks ps) (h : per < 1 ∨ 1000 < per) :
    Calls Tryd.prog 35 #[.slice a ps.length cap, .int .i64 per] w fun e w' => e = .returned (.iface 120 (.pointer (some (ad 1)))) ∧ Below w.heap.size w w' := by
  have HC : Hid (Calls Tryd.prog 39 #[.slice a ps.length cap] w fun e w' => e = .returned .nilIface ∧ Below w.heap.size w w') := pcheck_ok a cap ps w hl ho
  have HE : Hid (ErrsBO w ad) := he
  clear hl ho he
  by_cases h1 : per < 1
  · clear h
    go_enter Tryd.func35, Tryd.ntmps35
    go_wp2_with fail
    refine HC.out.mono ?_
    rintro e w1 ⟨rfl, hb⟩
    have c1 := cell_later hb HE.out.c1
    have HB : Hid (Below w.heap.size w w1) := hb
    clear hb
    go_wp2_with fail
    go_ret
    exact ⟨rfl, HB.out⟩
  · have h2 : 1000 < per := by omega
    clear h
    go_enter Tryd.func35, Tryd.ntmps35
    go_wp2_with fail
    refine HC.out.mono ?_
    rintro e w1 ⟨rfl, hb⟩
    have c1 := cell_later hb HE.out.c1
    have HB : Hid (Below w.heap.size w w1) := hb
    clear hb
    go_wp2_with fail
    go_ret
    exact ⟨rfl, HB.out⟩

set_option maxHeartbeats 1000000 in
theorem sendOne_ok (a : Option Addr) (cap : Nat) (ps : List Pk) (per now : Int) (k : Nat) (p : Pk) (w : World) (hl : LiesP w a ps) (hn : ps.length ≤ 300) (hk : ps[k]? = some p) (hp : okPk p = true) (h1 : 1 ≤ per) (h2 : per ≤ 1000) (n0 : 0 ≤ now) (n1 : now ≤ 1100000000000000) :
    Calls Tryd.prog 46 #[.slice a ps.length cap, .int .i64 per, .int .i64 k, .int .i64 now] w fun e w' => e = .returned (.agg #[.int .i64 k, .int .i64 now, .int .i64 (now + per * p.size)]) ∧ Below w.heap.size w w' := by
  have hkl := lt_of_get hk
  obtain ⟨b, off, rfl, hlt, hc⟩ := hl.place (by omega)
  have c1 := (hc k p hk).2.1
  obtain ⟨-, -, s1, s2, -, -⟩ := okPk_true hp
  have a1 : 0 ≤ per * p.size := Int.mul_nonneg (by omega) (by omega)
  have a2 : per * p.size ≤ 1000 * 1500 := Int.mul_le_mul (by omega) s2 (by omega) (by omega)
  have c1' : (w.alloc (.cells #[.int .i64 0, .int .i64 0, .int .i64 0] 43)).cell? ⟨b, off + k * 3 + 1, none⟩ = some (.int .i64 p.size) := cell_later ((Below.refl _ _).alloc (Nat.le_refl _) _) c1
  generalize p.size = y at *
  generalize hm : per * y = m at *
  have HM : Hid (per * y = m) := hm
  have hw : IntKind.i64.wrap (per * y) = m := by rw [hm]; exact IntWalk.i64_in (by omega) (by omega)
  clear hl hc hp hk hm
  go_enter Tryd.func46, Tryd.ntmps46
  go_wp2_with fail
  exact bodyPost_ret (v := .agg #[.int .i64 k, .int .i64 now, .int .i64 (now + m)]) (by simp [results, Tryd.results46, go_sem]) rfl ⟨rfl, (Below.refl _ _).alloc (Nat.le_refl _) _⟩
end Go.Proofs.YtcldgpbimaoliabDoor
