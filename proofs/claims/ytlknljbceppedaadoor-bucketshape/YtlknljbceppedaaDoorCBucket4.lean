/- Walks: a bucket's When and Has. -/
import Derived.Test.YtlknljbceppedaaDoorCBucket3
import Derived.Deep.DeepCutAuto
import Derived.Deep.RegionLaw
namespace Go.Proofs.YtlknljbceppedaaDoor
open Go.RowKit

theorem below_undr {B : Nat} {w w' : World} (h : Below B w.drew w') : Below B w w' := ⟨h.os, h.tape, h.output, h.size, h.block⟩

set_option maxHeartbeats 400000 in
theorem has_err (g : Nat) (l t : Int) (w : World) (ad : Nat → Addr) (he : Errs4 w ad) (c3 : w.cell? ⟨g, 3, none⟩ = some (.int .i64 l)) (hn : tickErr l t ≠ 0) :
    Calls Tryd.prog 50 #[.pointer (some ⟨g, 0, none⟩), .int .i64 t] w fun e w' => e = .returned (.tuple #[.int .i64 0, sentOf ad (tickErr l t)]) ∧ w' = w := by
  obtain ⟨v, hv⟩ := sentOf_err ad hn
  have HC : Hid (Calls Tryd.prog 79 #[.pointer (some ⟨g, 0, none⟩), .int .i64 t] w fun e w' => e = .returned (sentOf ad (tickErr l t)) ∧ w' = w) := checkTick_any g l t w ad he c3
  rw [hv] at HC ⊢
  clear hv hn he c3
  go_enter Tryd.func50, Tryd.ntmps50
  go_wp2_with (go_at_call 79; refine HC.out.mono ?_; rintro e w1 ⟨rfl, rfl⟩)
  go_ret2
  exact ⟨rfl, rfl⟩
set_option maxHeartbeats 400000 in
theorem has_ok (g : Nat) (b : Bk) (t : Int) (w : World) (ad : Nat → Addr) (he : Errs4 w ad) (hb : BkAt w g b) (hk : b.Ok) (ha : tickErr b.last t = 0) :
    Calls Tryd.prog 50 #[.pointer (some ⟨g, 0, none⟩), .int .i64 t] w fun e w' => e = .returned (.tuple #[.int .i64 (b.lev t), .nilIface]) ∧ Below w.heap.size w w' := by
  obtain ⟨t0, t1, ht⟩ := tickErr_ok.1 ha
  have HC : Hid (Calls Tryd.prog 79 #[.pointer (some ⟨g, 0, none⟩), .int .i64 t] w fun e w' => e = .returned .nilIface ∧ w' = w) := by
    have := checkTick_any g b.last t w ad he hb.c3
    rw [ha] at this
    exact this
  have HH : Hid (Calls Tryd.prog 77 #[.pointer (some ⟨g, 0, none⟩), .int .i64 t] w fun e w' => e = .returned (.int .i64 (b.lev t)) ∧ Below w.heap.size w w') := hasAt_ok g b t w hb hk ht t1
  generalize b.lev t = v at *
  clear he hb hk ha ht
  go_enter Tryd.func50, Tryd.ntmps50
  go_wp2_with fail
  refine HC.out.mono ?_
  rintro e w1 ⟨rfl, rfl⟩
  go_wp2_with fail
  refine HH.out.mono ?_
  rintro e w2 ⟨rfl, hb2⟩
  go_wp2_with fail
  go_ret2
  exact ⟨rfl, hb2⟩

set_option maxHeartbeats 400000 in
theorem when_err (g : Nat) (l t n : Int) (w : World) (ad : Nat → Addr) (he : Errs4 w ad) (c3 : w.cell? ⟨g, 3, none⟩ = some (.int .i64 l)) (hn : askErr l t n ≠ 0) :
    Calls Tryd.prog 49 #[.pointer (some ⟨g, 0, none⟩), .int .i64 t, .int .i64 n] w fun e w' => e = .returned (.tuple #[.int .i64 0, sentOf ad (askErr l t n)]) ∧ w' = w := by
  obtain ⟨v, hv⟩ := sentOf_err ad hn
  have HC : Hid (Calls Tryd.prog 76 #[.pointer (some ⟨g, 0, none⟩), .int .i64 t, .int .i64 n] w fun e w' => e = .returned (sentOf ad (askErr l t n)) ∧ w' = w) := checkTake_any g l t n w ad he c3
  rw [hv] at HC ⊢
  clear hv hn he c3
  go_enter Tryd.func49, Tryd.ntmps49
  go_wp2_with (go_at_call 76; refine HC.out.mono ?_; rintro e w1 ⟨rfl, rfl⟩)
  go_ret2
  exact ⟨rfl, rfl⟩

set_option maxHeartbeats 2000000 in
/-- When, by what the line tells. -/
theorem when_core (g : Nat) (m r v t n k : Int) (o : Bool) (R : Value) (w : World) (aN : Addr) (hN : w.cell? ⟨3, 0, none⟩ = some (.iface 98 (.pointer (some aN)))) (c0 : w.cell? ⟨g, 0, none⟩ = some (.int .i64 m)) (c1 : w.cell? ⟨g, 1, none⟩ = some (.int .i64 r)) (t0 : 0 ≤ t) (t1 : t ≤ 1099511627776) (n0 : 1 ≤ n) (n1 : n ≤ 1500) (k0 : 0 ≤ k) (k1 : k ≤ 30000000)
    (HC : Hid (Calls Tryd.prog 76 #[.pointer (some ⟨g, 0, none⟩), .int .i64 t, .int .i64 n] w fun e w' => e = .returned .nilIface ∧ w' = w))
    (HH : Hid (∀ w', Below w.heap.size w w' → Calls Tryd.prog 77 #[.pointer (some ⟨g, 0, none⟩), .int .i64 t] w' fun e w'' => e = .returned (.int .i64 v) ∧ Below w'.heap.size w' w''))
    (HU : Hid (∀ w' : World, Calls Tryd.prog 78 #[.agg #[.int .i64 m, .int .i64 r], .int .i64 v, .int .i64 (n * 1000)] w' fun e w'' => e = .returned (.tuple #[.int .i64 k, .bool o]) ∧ w'' = w'.alloc (.cells #[.int .i64 m, .int .i64 r] 118)))
    (HR1 : Hid (o = false ∨ 1099511627776 - t < k → R = .tuple #[.int .i64 0, .iface 98 (.pointer (some aN))])) (HR2 : Hid (o = true → ¬ 1099511627776 - t < k → R = .tuple #[.int .i64 (t + k), .nilIface])) :
    Calls Tryd.prog 49 #[.pointer (some ⟨g, 0, none⟩), .int .i64 t, .int .i64 n] w fun e w' => e = .returned R ∧ Below w.heap.size w w' := by
  have hw : IntKind.i64.wrap (n * 1000) = n * 1000 := IntWalk.i64_in _ (by omega)
  have HD : Hid (w.cell? ⟨g, 0, none⟩ = some (.int .i64 m) ∧ w.cell? ⟨g, 1, none⟩ = some (.int .i64 r)) := ⟨c0, c1⟩
  go_enter Tryd.func49, Tryd.ntmps49
  go_wp2_with fail
  refine HC.out.mono ?_
  rintro e w1 ⟨rfl, rfl⟩
  go_wp2_with fail
  go_cut [9, 10] (fun s9 s10 wx => s9 = .int .i64 k ∧ s10 = .bool o ∧ Below w1.heap.size w1 wx)
  case first =>
    go_region_with (first
      | (go_simp; go_at_call 77; go_must (refine (HH.out _ ?_).mono ?_; exact (Below.refl _ _).drew; rintro e w2 ⟨rfl, hb2⟩; have HB2 : Hid (Below w1.heap.size w1 w2) := below_undr hb2; have d0 : w2.cell? ⟨g, 0, none⟩ = some (.int .i64 m) := cell_later HB2.out HD.out.1; have d1 : w2.cell? ⟨g, 1, none⟩ = some (.int .i64 r) := cell_later HB2.out HD.out.2; clear hb2))
      | (go_simp; go_at_call 78; go_must (refine (HU.out _).mono ?_; rintro e w3 ⟨rfl, rfl⟩))
      | fail)
    all_goals (go_wp2_with fail; go_meet; exact ⟨rfl, rfl, HB2.out.alloc HB2.out.size _⟩)
  case rest =>
  obtain ⟨rfl, rfl, hbc⟩ := hcut
  have HBC : Hid (Below w1.heap.size w1 wc) := hbc
  have hNc := cell_later hbc hN
  clear hbc c0 c1 hN
  cases o with
  | false =>
    go_wp2_with fail
    go_quiet (fail)
    go_wp2_with fail
    go_ret2
    exact ⟨congrArg Ending.returned (HR1.out (.inl (by simp))).symm, below_drewN HBC.out _⟩
  | true =>
    by_cases hl : 1099511627776 - t < k
    · have HL : Hid (1099511627776 - t < k) := hl
      go_wp2_with fail
      go_quiet (fail)
      go_wp2_with fail
      go_ret2
      exact ⟨congrArg Ending.returned (HR1.out (.inr HL.out)).symm, below_drewN HBC.out _⟩
    · have HL : Hid (¬ 1099511627776 - t < k) := hl
      go_wp2_with fail
      go_ret2
      exact ⟨congrArg Ending.returned (HR2.out (by simp) HL.out).symm, HBC.out⟩

/-- What When answers. -/
def whenVal (ad : Nat → Addr) : Option Int → Value
  | some T => .tuple #[.int .i64 T, .nilIface]
  | none => .tuple #[.int .i64 0, .iface 98 (.pointer (some (ad 3)))]
theorem when_ok (g : Nat) (b : Bk) (t n : Int) (w : World) (ad : Nat → Addr) (he : Errs4 w ad) (hb : BkAt w g b) (hk : b.Ok) (ha : askErr b.last t n = 0) :
    Calls Tryd.prog 49 #[.pointer (some ⟨g, 0, none⟩), .int .i64 t, .int .i64 n] w fun e w' => e = .returned (whenVal ad (b.when t n)) ∧ Below w.heap.size w w' := by
  obtain ⟨n0, n1, t0, t1, ht⟩ := askErr_ok.1 ha
  have HC := checkTake_any g b.last t n w ad he hb.c3
  rw [ha] at HC
  have HH : ∀ w', Below w.heap.size w w' → Calls Tryd.prog 77 #[.pointer (some ⟨g, 0, none⟩), .int .i64 t] w' fun e w'' => e = .returned (.int .i64 (b.lev t)) ∧ Below w'.heap.size w' w'' :=
    fun w' hbel => hasAt_ok g b t w' (hb.below hbel) hk ht t1
  have hl := hk.lev_bd ht
  have m1 := hk.m1
  have r1 := hk.r1
  by_cases h1 : n * 1000 ≤ b.lev t
  · have e : b.when t n = some t := by unfold Bk.when; rw [if_pos h1]
    rw [e]
    exact when_core g b.most b.rate (b.lev t) t n 0 true _ w (ad 3) he.c3 hb.c0 hb.c1 t0 t1 n0 n1 (by omega) (by omega) HC HH (fun w' => until_have b.most b.rate _ _ w' h1) (fun h => by rcases h with h | h; cases h; omega) (fun _ _ => by rw [Int.add_zero]; rfl)
  · by_cases h2 : b.most < n * 1000 ∨ b.rate = 0
    · have e : b.when t n = none := by unfold Bk.when; rw [if_neg h1, if_pos h2]
      rw [e]
      exact when_core g b.most b.rate (b.lev t) t n 0 false _ w (ad 3) he.c3 hb.c0 hb.c1 t0 t1 n0 n1 (by omega) (by omega) HC HH (fun w' => until_none b.most b.rate _ _ w' (by omega) h2) (fun _ => rfl) (fun h => by cases h)
    · have r0 : 0 < b.rate := by have := hk.r0; omega
      have hd := div_up (r := b.rate) (x := n * 1000 - b.lev t) r0
      have k0 : 0 ≤ (n * 1000 - b.lev t + b.rate - 1) / b.rate := Int.ediv_nonneg (by omega) (by omega)
      have k1 : (n * 1000 - b.lev t + b.rate - 1) / b.rate ≤ 30000000 := by
        have := Int.ediv_le_self b.rate (show 0 ≤ n * 1000 - b.lev t + b.rate - 1 by omega)
        omega
      by_cases h3 : 1099511627776 - t < (n * 1000 - b.lev t + b.rate - 1) / b.rate
      · have e : b.when t n = none := by unfold Bk.when; rw [if_neg h1, if_neg h2, if_pos h3]
        rw [e]
        exact when_core g b.most b.rate (b.lev t) t n _ true _ w (ad 3) he.c3 hb.c0 hb.c1 t0 t1 n0 n1 k0 k1 HC HH (fun w' => until_some b.most b.rate _ _ w' (by omega) (by omega) r0 r1 hl.1 m1) (fun _ => rfl) (fun _ h => absurd h3 h)
      · have e : b.when t n = some (t + (n * 1000 - b.lev t + b.rate - 1) / b.rate) := by unfold Bk.when; rw [if_neg h1, if_neg h2, if_neg h3]
        rw [e]
        exact when_core g b.most b.rate (b.lev t) t n _ true _ w (ad 3) he.c3 hb.c0 hb.c1 t0 t1 n0 n1 k0 k1 HC HH (fun w' => until_some b.most b.rate _ _ w' (by omega) (by omega) r0 r1 hl.1 m1) (fun h => by rcases h with h | h; cases h; exact absurd h h3) (fun _ _ => rfl)
end Go.Proofs.YtlknljbceppedaaDoor
