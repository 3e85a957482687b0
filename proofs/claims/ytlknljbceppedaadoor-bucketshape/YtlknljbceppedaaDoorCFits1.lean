/- Walks: package bucket's startFits, checkBoth, Fits. -/
import Derived.Test.YtlknljbceppedaaDoorCAllPkts
import Derived.Test.YtlknljbceppedaaDoorCPlainFits
import Derived.Test.YtlknljbceppedaaDoorCAllWalks
import Derived.Test.YtlknljbceppedaaDoorCBucket4
import Derived.Deep.DeepCutAuto
import Derived.Deep.RegionLaw
namespace Go.Proofs.YtlknljbceppedaaDoor
open Go.RowKit

set_option maxRecDepth 100000 in
set_option maxHeartbeats 1000000 in
theorem startFits_any (la : Option Addr) (lcap : Nat) (ls : List (Int × Int)) (b off cap : Nat) (a0 : Int) (qs : List Pk) (w : World) (hl : Lies w la ls) (hk : okCurve ls) (hlc : ls.length ≤ lcap) (hlm : lcap ≤ maxLen)
    (hp : LiesP w (some ⟨b, off, none⟩) qs) (hr : RunOk a0 qs) (h0 : ∀ p, qs[0]? = some p → p.tick = a0) (hcap : qs.length ≤ cap) (hm : cap ≤ maxLen) :
    Calls Tryd.prog 72 #[.slice la ls.length lcap, .slice (some ⟨b, off, none⟩) qs.length cap] w fun e w' => e = .returned (.tuple #[.bool (startB ls a0 0 qs), .nilIface]) ∧ Below w.heap.size w w' := by
  by_cases hz : qs = []
  · subst hz
    show Calls Tryd.prog 72 #[.slice la ls.length lcap, .slice (some ⟨b, off, none⟩) 0 cap] w fun e w' => e = .returned (.tuple #[.bool true, .nilIface]) ∧ Below w.heap.size w w'
    clear hl hk hlc hlm hp hr h0
    go_enter Tryd.func72, Tryd.ntmps72
    go_wp2
    refine wp_loop_rounds 1 ?_
    rw [rounds_succ]
    go_wp2
    go_ret2
    exact ⟨rfl, Below.refl _ _⟩
  have hn1 : 1 ≤ qs.length := by cases qs with | nil => exact absurd rfl hz | cons p r => simp
  have HLP : Hid (LiesP w (some ⟨b, off, none⟩) qs) := hp
  have HL : Hid (Lies w la ls ∧ okCurve ls ∧ ls.length ≤ lcap ∧ lcap ≤ maxLen) := ⟨hl, hk, hlc, hlm⟩
  have HR : Hid (RunOk a0 qs) := hr
  have hn300 : qs.length ≤ 300 := hr.few
  obtain ⟨f0, s0, z0, hp0, hz0⟩ : ∃ f s z, qs[0]? = some ⟨f, s, z⟩ ∧ z = a0 := by
    obtain ⟨⟨f, s, z⟩, h, -⟩ := get_some qs 0 (by omega)
    exact ⟨f, s, z, h, h0 _ h⟩
  subst hz0
  have HA0 : Hid (w.cell? ⟨b, off + 2, none⟩ = some (.int .i64 z0)) := by
    obtain ⟨b', off', e, -, hc⟩ := hp.place hn1
    cases e
    have := (hc 0 _ hp0).2.2
    show _ = _
    simpa using this
  have hz00 := (okPk_true (hr.each 0 _ hp0).1)
  simp only at hz00
  obtain ⟨-, -, -, -, z1, z2⟩ := hz00
  obtain ⟨R, hR⟩ : ∃ R, startB ls z0 0 qs = R := ⟨_, rfl⟩
  rw [hR]
  have HSt : Hid (startB ls z0 0 qs = R) := hR
  have hcm : cap ≤ 9223372036854775807 := by unfold maxLen at hm; omega
  clear hl hk hlc hlm hp hr h0 hz hR hp0 hm
  generalize hn : qs.length = n at *
  have Hn := (show Hid (qs.length = n) from hn)
  clear hn
  go_enter Tryd.func72, Tryd.ntmps72
  go_wp2
  go_loopw [6, 13] (fun c i wr => ∃ k : Nat, k ≤ n ∧ i = .int .i64 k ∧ ∃ C : Int, c = .int .i64 C ∧ 0 ≤ C ∧ C ≤ 1500 * k ∧ startB ls z0 C (qs.drop k) = R ∧ Below w.heap.size w wr) (fun _ i _ => n - (intOf i).toNat)
  case atStart => exact ⟨0, Nat.zero_le _, rfl, 0, rfl, Int.le_refl _, by simp, by simpa using HSt.out, Below.refl _ _⟩
  case round =>
    obtain ⟨k, hk, rfl, C, rfl, hC0, hC1, hst, hb⟩ := hrel
    have HB : Hid (Below w.heap.size w wr) := hb
    have hs := hb.size
    have HS : Hid (startB ls z0 C (qs.drop k) = R) := hst
    by_cases hkn : k < n
    · obtain ⟨⟨x, y, z⟩, hp, -⟩ := get_some qs k (by rw [Hn.out]; exact hkn)
      obtain ⟨b', off', e, -, hc⟩ := (HLP.out.below hb).place (by rw [Hn.out]; omega)
      cases e
      obtain ⟨c1, c2, c3⟩ := hc k _ hp
      simp only at c1 c2 c3
      obtain ⟨o1, o2⟩ := HR.out.each k _ hp
      have o := okPk_true o1
      simp only at o o2
      obtain ⟨-, -, y1, y2, t0, t1⟩ := o
      have HStep : Hid (startB ls z0 C (qs.drop k) = (decide (C + y ≤ curveAt (z - z0) ls) && startB ls z0 (C + y) (qs.drop (k + 1)))) := startB_step ls z0 C qs k _ hp
      have hbd := curveAt_bd (z - z0) ls HL.out.2.1 (by omega) (by omega)
      have hal : Below wr.heap.size wr (wr.alloc (.cells #[.int .i64 x, .int .i64 y, .int .i64 z] 76)) := (Below.refl _ _).alloc (Nat.le_refl _) _
      have HBA : Hid (Below w.heap.size w (wr.alloc (.cells #[.int .i64 x, .int .i64 y, .int .i64 z] 76))) := HB.out.trans (hal.mono hs)
      have d0 := cell_later HBA.out HA0.out
      have HAt : Hid (∀ w', Below w.heap.size w w' → Calls Tryd.prog 20 #[.slice la ls.length lcap, .int .i64 (z - z0)] w' fun e w'' => e = .returned (.tuple #[.int .i64 (curveAt (z - z0) ls), .nilIface]) ∧ Below w'.heap.size w' w'') :=
        fun w' hb' => at_ok la lcap ls (z - z0) w' (HL.out.1.below hb') HL.out.2.1 HL.out.2.2.1 HL.out.2.2.2 (by omega) (by omega)
      have hw : IntKind.i64.wrap (z - z0) = z - z0 := IntWalk.i64_in _ (by omega)
      clear hc hp hst o1 hb
      generalize curveAt (z - z0) ls = V at *
      by_cases hle : C + y ≤ V
      · have hle' : ¬ V < C + y := by omega
        have HNext : Hid (startB ls z0 (C + y) (qs.drop (k + 1)) = R) := by
          show _ = _
          rw [← HS.out, HStep.out, show decide (C + y ≤ V) = true by simpa using hle, Bool.true_and]
        go_wp2_with fail
        go_region_with (first
          | (go_simp; go_at_call 20; go_must (refine (HAt.out _ ?_).mono ?_; exact HBA.out.drew; rintro e w5 ⟨rfl, hb5⟩; have HB5 : Hid (Below w.heap.size w w5) := HBA.out.trans ((below_undr hb5).mono HBA.out.size); clear hb5))
          | fail)
        all_goals
          go_wp2_with fail
          go_roundw
          case rel => exact ⟨k + 1, by omega, by go_num, C + y, rfl, by omega, by omega, HNext.out, HB5.out⟩
          case measure => simp [intOf]; omega
      · have hle' : V < C + y := by omega
        have HNext : Hid (R = false) := by
          show _ = _
          rw [← HS.out, HStep.out, show decide (C + y ≤ V) = false by simpa using hle, Bool.false_and]
        go_wp2_with fail
        go_region_with (first
          | (go_simp; go_at_call 20; go_must (refine (HAt.out _ ?_).mono ?_; exact HBA.out.drew; rintro e w5 ⟨rfl, hb5⟩; have HB5 : Hid (Below w.heap.size w w5) := HBA.out.trans ((below_undr hb5).mono HBA.out.size); clear hb5))
          | fail)
        all_goals
          go_wp2_with fail
          go_ret2
          obtain rfl := HNext.out
          exact ⟨rfl, HB5.out⟩
    · have HNext : Hid (R = true) := by
        show _ = _
        rw [← HS.out, List.drop_eq_nil_of_le (by rw [Hn.out]; omega)]
        rfl
      clear hst
      go_wp2
      go_ret2
      obtain rfl := HNext.out
      exact ⟨rfl, HB.out⟩
end Go.Proofs.YtlknljbceppedaaDoor
