/- CurveSame: the way through. -/
import Derived.Test.YtcldgpbimaoliaaDoorSame1
import Derived.BigQuiet
namespace Go.Proofs.YtcldgpbimaoliaaDoor
open Go.RowKit

set_option maxRecDepth 100000 in
set_option maxHeartbeats 4000000 in
theorem same_fine (a a2 : Option Addr) (cap cap2 : Nat) (la lb : List (Int × Int)) (t : Int) (w : World) (aB aS : Addr) (he : Errs2 w aB aS) (hl : Lies w a la) (ha : a = none → la = [] ∧ cap = 0) (hl2 : Lies w a2 lb) (ha2 : a2 = none → lb = [] ∧ cap2 = 0) (hn0 : la.length ≤ 30) (hn : lb.length ≤ 30) (h : ¬ t < 0) (h' : ¬ 1099511627776 < t) (hk : okCurve la) :
    Calls Tryd.prog 6 #[.slice a la.length cap, .slice a2 lb.length cap2, .int .i64 t] w fun e w' => e = .returned (.bool true) ∧ Below w.heap.size w w' := by
  have HE : Hid (Errs2 w aB aS) := he
  have HL : Hid (Lies w a la ∧ (a = none → la = [] ∧ cap = 0) ∧ la.length ≤ 1000) := ⟨hl, ha, by omega⟩
  have HM : Hid (Lies w a2 lb ∧ (a2 = none → lb = [] ∧ cap2 = 0) ∧ lb.length ≤ 1000) := ⟨hl2, ha2, by omega⟩
  have HK : Hid (okCurve la) := hk
  have HT : Hid (0 ≤ t ∧ t ≤ 1099511627776) := ⟨by omega, by omega⟩
  clear he hl ha hl2 ha2 hk
  go_enter Tryd.func6, Tryd.ntmps6
  go_wp2_with fail
  refine (drawn_any _).mono ?_
  rintro e w1 ⟨rfl, hb⟩
  have HB1 : Hid (Below w.heap.size w w1) := hb
  clear hb
  go_wp2_with fail
  refine (ownLines_from a cap la w _ HB1.out HL.out.1 HL.out.2.2 HL.out.2.1).mono ?_
  rintro e w2 ⟨v2, rfl, ho2, _, hB2⟩
  have HB2 : Hid (Below w.heap.size w w2) := hB2
  obtain ⟨b2, k2, rfl, g2, m2, l2⟩ := ho2.open
  clear hB2 ho2
  go_wp2_with fail
  refine (tidy_ok b2 k2 la _ l2 HK.out).mono ?_
  rintro e w3 ⟨v3, rfl, ⟨ls', hp, hs, ho3⟩, hb3⟩
  have HB3 : Hid (Below w.heap.size w w3) := HB2.out.trans (hb3.mono HB2.out.size)
  have HO3 : Hid (OwnL w3 w2.heap.size v3 (lowT [] ls').reverse) := ho3
  have HS : Hid (ls'.Perm la ∧ SortedL ls') := ⟨hp, hs⟩
  have hq1 : 1 ≤ (lowT [] ls').reverse.length := by rw [List.length_reverse]; exact low_nonempty hs (by rw [hp.length_eq]; exact HK.out.1)
  have hq6 : (lowT [] ls').reverse.length ≤ 6 := by rw [List.length_reverse]; exact Nat.le_trans (low_len hp) HK.out.2.1
  have HQ : Hid (okCurve (lowT [] ls').reverse) := ⟨hq1, hq6, okAll_low hp HK.out.2.2⟩
  have HV : Hid (curveAt t (lowT [] ls').reverse = curveAt t la) := curveAt_low HT.out.1 hp hs HK.out.1
  have HNX : Hid (∀ (i j : Nat) (p q : Int × Int), i < j → (lowT [] ls').reverse[i]? = some p → (lowT [] ls').reverse[j]? = some q → q.2 < p.2 ∧ p.1 < q.1) := fun i j p q hij => low_next hs hij
  generalize (lowT [] ls').reverse = Q at *
  obtain ⟨a3, k3, rfl, g3, m3, l3⟩ := OwnL.open ho3
  obtain ⟨b, off, rfl, hlt, hc⟩ := l3.some hq1
  have HG : Hid (Q.length ≤ k3 ∧ k3 ≤ maxLen ∧ Lies w3 (some ⟨b, off, none⟩) Q) := ⟨g3, m3, l3⟩
  clear hb3 ho3 hp hs l2 g2 m2 m3 l3
  go_wp2_with fail
  go_loopw [10] (fun i wr => ∃ k : Nat, k + 1 ≤ Q.length ∧ i = .int .i64 (k + 1 : Nat) ∧ Below w3.heap.size w3 wr) (fun i _ => Q.length - (intOf i).toNat)
  case atStart => exact ⟨0, by omega, rfl, Below.refl _ _⟩
  case round =>
    obtain ⟨k, hk, rfl, hb⟩ := hrel
    have HBR : Hid (Below w3.heap.size w3 wr) := hb
    by_cases hkn : k + 1 < Q.length
    · obtain ⟨⟨x, y⟩, hp, -⟩ := get_some Q k (by omega)
      obtain ⟨⟨x', y'⟩, hp', -⟩ := get_some Q (k + 1) hkn
      have c1 := cell_later hb (hc k x y hp).1
      have c2 := cell_later hb (hc k x y hp).2
      have d1 := cell_later hb (hc (k + 1) x' y' hp').1
      have d2 := cell_later hb (hc (k + 1) x' y' hp').2
      obtain ⟨n1, n2⟩ := HNX.out k (k + 1) (x, y) (x', y') (by omega) hp hp'
      simp only [] at n1 n2
      clear hc hp hp' hb
      obtain ⟨j, hj⟩ : ∃ j, j = k + 1 := ⟨_, rfl⟩
      rw [← hj] at d1 d2 hkn ⊢
      rw [show k = j - 1 by omega] at c1 c2
      have HJ : Hid (j = k + 1) := hj
      have hj1 : 1 ≤ j := by omega
      have hd1 : decide (y ≤ y') = false := decide_eq_false (by omega)
      have hd2 : decide (x' ≤ x) = false := decide_eq_false (by omega)
      clear hj hk
      go_wp2_with fail
      go_quiet (fail)
      go_wp2_with fail
      go_roundw
      case rel => exact ⟨j, by omega, by go_num, below_drewN HBR.out _⟩
      case measure => simp [intOf]; omega
    · have HB4 : Hid (Below w.heap.size w wr) := HB3.out.trans (hb.mono HB3.out.size)
      clear hc hb
      go_wp2_with fail
      refine (ownLines_from a cap la w _ HB4.out HL.out.1 HL.out.2.2 HL.out.2.1).mono ?_
      rintro e w5 ⟨v5, rfl, ho5, hb5, hB5⟩
      have HB5 : Hid (Below w.heap.size w w5) := hB5
      have HB35 : Hid (Below w3.heap.size w3 w5) := HBR.out.trans (hb5.mono HBR.out.size)
      obtain ⟨b5, k5, rfl, g5, m5, l5⟩ := ho5.open
      clear hB5 ho5 hb5
      go_wp2_with fail
      refine (at_ok b5 k5 la t _ l5 HK.out g5 m5 HT.out.1 HT.out.2).mono ?_
      rintro e w6 ⟨rfl, hb6⟩
      have HB6 : Hid (Below w.heap.size w w6) := HB5.out.trans (hb6.mono HB5.out.size)
      have HB36 : Hid (Below w3.heap.size w3 w6) := HB35.out.trans (hb6.mono HB35.out.size)
      clear l5 g5 m5 hb6
      go_wp2_with fail
      refine (at_ok _ k3 Q t _ (HG.out.2.2.below HB36.out) HQ.out HG.out.1 HG.out.2.1 HT.out.1 HT.out.2).mono ?_
      rintro e w7 ⟨rfl, hb7⟩
      rw [HV.out]
      have HB7 : Hid (Below w.heap.size w w7) := HB6.out.trans (hb7.mono HB6.out.size)
      have hm1 := curveAt_bd t la HK.out HT.out.1 HT.out.2
      obtain ⟨M, hM⟩ : ∃ M, curveAt t la = M := ⟨_, rfl⟩
      rw [hM] at hm1 ⊢
      have HMM : Hid (curveAt t la = M) := hM
      clear hb7 hM
      go_wp2_with fail
      refine (ownLines_from a cap la w _ HB7.out HL.out.1 HL.out.2.2 HL.out.2.1).mono ?_
      rintro e w8 ⟨v8, rfl, ho8, _, hB8⟩
      have HB8 : Hid (Below w.heap.size w w8) := hB8
      obtain ⟨b8, k8, rfl, g8, m8, l8⟩ := ho8.open
      clear hB8 ho8
      go_wp2_with fail
      refine (ownLines_from a2 cap2 lb w _ HB8.out HM.out.1 HM.out.2.2 HM.out.2.1).mono ?_
      rintro e w9 ⟨v9, rfl, ho9, hb9, hB9⟩
      have HB9 : Hid (Below w.heap.size w w9) := hB9
      obtain ⟨b9, k9, rfl, g9, m9, l9⟩ := ho9.open
      have HL9 : Hid (Lies w9 b8 la) := l8.below hb9
      clear hB9 ho9 hb9 l8 g8 m8
      go_wp2_with fail
      refine (sum_any b8 b9 k8 k9 la lb _ aB aS (HE.out.below HB9.out) HL9.out l9 HK.out g9 m9).mono ?_
      rintro e w10 ⟨hsum, hb10⟩
      have HB10 : Hid (Below w.heap.size w w10) := HB9.out.trans (hb10.mono HB9.out.size)
      clear hb10 l9 g9 m9
      rcases hsum with ⟨ty, p, rfl⟩ | ⟨v, lt', rfl, kb, kok, hp, hs, h6, ho⟩
      · go_wp2_with fail
        go_ret
        exact ⟨rfl, HB10.out⟩
      · have hr1 : 1 ≤ (lowT [] lt').reverse.length := by rw [List.length_reverse]; exact low_nonempty hs (by rw [hp.length_eq]; exact eachL_pos HK.out.1 kb.1)
        have HR : Hid (okCurve (lowT [] lt').reverse) := ⟨hr1, by rw [List.length_reverse]; exact h6, okAll_low hp kok⟩
        have HW : Hid (curveAt t (lowT [] lt').reverse = curveAt t (eachL la lb)) := curveAt_low HT.out.1 hp hs (eachL_pos HK.out.1 kb.1)
        have hsm := curveAt_each (n := t) HK.out.1 kb.1
        rw [HMM.out] at hsm
        have HKB : Hid (okCurve lb) := kb
        generalize (lowT [] lt').reverse = R at *
        obtain ⟨aR, kR, rfl, gR, mR, lR⟩ := OwnL.open ho
        have HGR : Hid (R.length ≤ kR ∧ kR ≤ maxLen ∧ Lies w10 aR R) := ⟨gR, mR, lR⟩
        clear hp hs h6 ho kb kok mR lR
        go_wp2_with fail
        refine (ownLines_from a2 cap2 lb w _ HB10.out HM.out.1 HM.out.2.2 HM.out.2.1).mono ?_
        rintro e w11 ⟨v11, rfl, ho11, hb11, hB11⟩
        have HB11 : Hid (Below w.heap.size w w11) := hB11
        have HBX : Hid (Below w10.heap.size w10 w11) := hb11
        obtain ⟨b11, k11, rfl, g11, m11, l11⟩ := ho11.open
        clear hB11 ho11 hb11
        go_wp2_with fail
        refine (at_ok b11 k11 lb t _ l11 HKB.out g11 m11 HT.out.1 HT.out.2).mono ?_
        rintro e w12 ⟨rfl, hb12⟩
        have HB12 : Hid (Below w.heap.size w w12) := HB11.out.trans (hb12.mono HB11.out.size)
        have HBY : Hid (Below w10.heap.size w10 w12) := HBX.out.trans (hb12.mono HBX.out.size)
        have ho1 := curveAt_bd t lb HKB.out HT.out.1 HT.out.2
        generalize curveAt t lb = O at *
        clear hb12 l11 g11 m11
        go_wp2_with fail
        refine (at_ok aR kR R t _ (HGR.out.2.2.below HBY.out) HR.out HGR.out.1 HGR.out.2.1 HT.out.1 HT.out.2).mono ?_
        rintro e w13 ⟨rfl, hb13⟩
        rw [HW.out]
        have HB13 : Hid (Below w.heap.size w w13) := HB12.out.trans (hb13.mono HB12.out.size)
        generalize curveAt t (eachL la lb) = V at *
        clear hb13
        go_wp2_with fail
        go_ret
        exact ⟨rfl, HB13.out⟩
end Go.Proofs.YtcldgpbimaoliaaDoor
