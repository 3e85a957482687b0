/- Walks: the document's answer: do packets fit? -/
import Derived.Test.YtlknljbceppedaaDoorCAllPkts
import Derived.Test.YtlknljbceppedaaDoorCPlainFits
import Derived.Test.YtlknljbceppedaaDoorCAt2
import Derived.Test.YtlknljbceppedaaDoorCBucket4
namespace Go.Proofs.YtlknljbceppedaaDoor
open Go.RowKit

set_option maxRecDepth 100000 in
set_option maxHeartbeats 2000000 in
theorem fitsOf_ok (la : Option Addr) (lcap : Nat) (ls : List (Int × Int)) (pa : Option Addr) (cap : Nat) (ps : List Pk) (w : World) (hl : Lies w la ls) (hk : okCurve ls) (hp : LiesP w pa ps) (ho : OkPks ps) :
    Calls Tryd.prog 46 #[.slice la ls.length lcap, .slice pa ps.length cap] w fun e w' => e = .returned (.bool (fitsB ls ps)) ∧ Below w.heap.size w w' := by
  have HP : Hid (LiesP w pa ps ∧ OkPks ps) := ⟨hp, ho⟩
  have HL : Hid (Lies w la ls ∧ okCurve ls) := ⟨hl, hk⟩
  have hn300 : ps.length ≤ 300 := ho.few
  obtain ⟨R, hR⟩ : ∃ R, fitsB ls ps = R := ⟨_, rfl⟩
  rw [hR]
  have HSt : Hid (fitsB ls ps = R) := hR
  clear hl hk hp ho hR
  generalize hn : ps.length = n at *
  have HN := (show Hid (ps.length = n) from hn)
  clear hn
  go_enter Tryd.func46, Tryd.ntmps46
  go_wp2_with fail
  go_loopw [5] (fun i wr => ∃ k : Nat, k ≤ n ∧ i = .int .i64 k ∧ fitsB ls (ps.drop k) = R ∧ Below w.heap.size w wr) (fun i _ => n - (intOf i).toNat)
  case atStart => exact ⟨0, Nat.zero_le _, rfl, by simpa using HSt.out, Below.refl _ _⟩
  case round =>
    obtain ⟨k, hk, rfl, hst, hb⟩ := hrel
    have HB : Hid (Below w.heap.size w wr) := hb
    have HS : Hid (fitsB ls (ps.drop k) = R) := hst
    by_cases hkn : k < n
    · obtain ⟨⟨x0, y0, z0⟩, hp0, -⟩ := get_some ps k (by rw [HN.out]; exact hkn)
      obtain ⟨b, off, rfl, -, hc0⟩ := HP.out.1.place (by rw [HN.out]; omega)
      have HC : Hid (∀ (i : Nat) p, ps[i]? = some p → w.cell? ⟨b, off + i * 3, none⟩ = some (.int .i64 p.flow) ∧ w.cell? ⟨b, off + i * 3 + 1, none⟩ = some (.int .i64 p.size) ∧ w.cell? ⟨b, off + i * 3 + 2, none⟩ = some (.int .i64 p.tick)) := hc0
      have HStep : Hid (fitsB ls (ps.drop k) = (startB ls z0 0 (ps.drop k) && fitsB ls (ps.drop (k + 1)))) := fitsB_step ls ps k _ hp0
      have HRun : Hid (RunOk z0 (ps.drop k)) := HP.out.2.run k _ hp0
      have hz00 := okPk_true (HP.out.2.each k _ hp0).1
      simp only at hz00
      obtain ⟨-, -, -, -, zz1, zz2⟩ := hz00
      have HP0 : Hid (ps[k]? = some ⟨x0, y0, z0⟩) := hp0
      have HZ0 : Hid (w.cell? ⟨b, off + k * 3 + 2, none⟩ = some (.int .i64 z0)) := (hc0 k _ hp0).2.2
      obtain ⟨V, hV⟩ : ∃ V, startB ls z0 0 (ps.drop k) = V := ⟨_, rfl⟩
      have HV : Hid (startB ls z0 0 (ps.drop k) = V) := hV
      clear hst hb hp0 hc0 hV
      go_wp2_with fail
      go_loopw [6, 7] (fun c i wr => ∃ j : Nat, k ≤ j ∧ j ≤ n ∧ i = .int .i64 j ∧ ∃ C : Int, c = .int .i64 C ∧ 0 ≤ C ∧ C ≤ 1500 * j ∧ startB ls z0 C (ps.drop j) = V ∧ Below w.heap.size w wr) (fun _ i _ => n - (intOf i).toNat)
      case atStart => exact ⟨k, Nat.le_refl _, hk, rfl, 0, rfl, Int.le_refl _, by omega, HV.out, HB.out⟩
      case round =>
        obtain ⟨j, hkj, hj, rfl, C, rfl, hC0, hC1, hst, hb⟩ := hrel
        have HB2 : Hid (Below w.heap.size w wr) := hb
        have HS2 : Hid (startB ls z0 C (ps.drop j) = V) := hst
        by_cases hjn : j < n
        · obtain ⟨⟨x, y, z⟩, hp, -⟩ := get_some ps j (by rw [HN.out]; exact hjn)
          have c2 : wr.cell? ⟨b, off + j * 3 + 1, none⟩ = some (.int .i64 y) := cell_later hb (HC.out j _ hp).2.1
          have c3 : wr.cell? ⟨b, off + j * 3 + 2, none⟩ = some (.int .i64 z) := cell_later hb (HC.out j _ hp).2.2
          have c4 : wr.cell? ⟨b, off + k * 3 + 2, none⟩ = some (.int .i64 z0) := cell_later hb HZ0.out
          obtain ⟨o1, o2⟩ := HRun.out.each (j - k) ⟨x, y, z⟩ (by rw [List.getElem?_drop, show k + (j - k) = j by omega]; exact hp)
          have o := okPk_true o1
          simp only at o o2
          obtain ⟨-, -, y1, y2, t0, t1⟩ := o
          have HStep2 : Hid (startB ls z0 C (ps.drop j) = (decide (C + y ≤ curveAt (z - z0) ls) && startB ls z0 (C + y) (ps.drop (j + 1)))) := startB_step ls z0 C ps j _ hp
          have hbd := curveAt_bd (z - z0) ls HL.out.2 (by omega) (by omega)
          have HAt : Hid (∀ w', Below w.heap.size w w' → Calls Tryd.prog 26 #[.slice la ls.length lcap, .int .i64 (z - z0)] w' fun e w'' => e = .returned (.int .i64 (curveAt (z - z0) ls)) ∧ Below w'.heap.size w' w'') :=
            fun w' hb' => atOf_ok la lcap ls (z - z0) w' (HL.out.1.below hb') HL.out.2 (by omega) (by omega)
          have hw : IntKind.i64.wrap (z - z0) = z - z0 := IntWalk.i64_in _ (by omega)
          clear hp hst o1 hb
          generalize curveAt (z - z0) ls = X at *
          by_cases hle : C + y ≤ X
          · have hle' : ¬ X < C + y := by omega
            have hld : decide (X < C + y) = false := decide_eq_false hle'
            have HNext : Hid (startB ls z0 (C + y) (ps.drop (j + 1)) = V) := by
              show _ = _
              rw [← HS2.out, HStep2.out, show decide (C + y ≤ X) = true by simpa using hle, Bool.true_and]
            go_wp2_with fail
            go_region_with (first
              | (go_simp; go_at_call 26; go_must (refine (HAt.out _ ?_).mono ?_; exact HB2.out.drew; rintro e w5 ⟨rfl, hb5⟩; have HB5 : Hid (Below w.heap.size w w5) := HB2.out.trans ((below_undr hb5).mono HB2.out.size); clear hb5))
              | fail)
            all_goals
              go_wp2_with fail
              go_roundw
              case rel => exact ⟨j + 1, by omega, by omega, by go_num, C + y, rfl, by omega, by omega, HNext.out, HB5.out⟩
              case measure => simp [intOf]; omega
          · have hle' : X < C + y := by omega
            have hld : decide (X < C + y) = true := decide_eq_true hle'
            have HNext : Hid (R = false) := by
              show _ = _
              rw [← HS.out, HStep.out, HV.out, ← HS2.out, HStep2.out, show decide (C + y ≤ X) = false by simpa using hle, Bool.false_and, Bool.false_and]
            go_wp2_with fail
            go_region_with (first
              | (go_simp; go_at_call 26; go_must (refine (HAt.out _ ?_).mono ?_; exact HB2.out.drew; rintro e w5 ⟨rfl, hb5⟩; have HB5 : Hid (Below w.heap.size w w5) := HB2.out.trans ((below_undr hb5).mono HB2.out.size); clear hb5))
              | fail)
            all_goals
              go_wp2_with fail
              go_ret
              obtain rfl := HNext.out
              exact ⟨rfl, HB5.out⟩
        · have HNext : Hid (fitsB ls (ps.drop (k + 1)) = R) := by
            show _ = _
            have hv : V = true := by
              rw [← HS2.out, List.drop_eq_nil_of_le (by rw [HN.out]; omega)]
              rfl
            rw [← HS.out, HStep.out, HV.out, hv, Bool.true_and]
          clear hst hb
          go_wp2_with fail
          go_roundw
          case rel => exact ⟨k + 1, by omega, by go_num, HNext.out, HB2.out⟩
          case measure => simp [intOf]; omega
    · have HNext : Hid (R = true) := by
        show _ = _
        rw [← HS.out, List.drop_eq_nil_of_le (by rw [HN.out]; omega)]
        rfl
      clear hst
      go_wp2_with fail
      go_ret
      obtain rfl := HNext.out
      exact ⟨rfl, HB.out⟩
end Go.Proofs.YtlknljbceppedaaDoor
