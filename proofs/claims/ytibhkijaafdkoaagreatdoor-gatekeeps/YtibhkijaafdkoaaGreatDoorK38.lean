/- Own facts, put together: no statement of its own. -/
import Derived.Test.YtibhkijaafdkoaaGreatDoorK33
import Derived.Test.YtibhkijaafdkoaaGreatDoorK37
namespace Go.Proofs.YtibhkijaafdkoaaGreatDoor
open Go.RowKit
def SumEnd (la lb : List (Int × Int)) (w : World) (e : Ending) (w' : World) : Prop := ∃ a n cap E code L, e = .returned (.tuple #[.slice a n cap, E]) ∧ SumRel la lb code L ∧ Below w.heap.size w w' ∧ (code = 0 → E = .nilIface ∧ n = L.length ∧ Lies w' a L ∧ L.length ≤ cap ∧ cap ≤ maxLen) ∧ (code ≠ 0 → ∃ ty v, E = .iface ty v)
theorem sum_ends (a1 a2 : Option Addr) (cap1 cap2 : Nat) (la lb : List (Int × Int)) (w : World) (ad : Nat → Addr) (he : Errs9 w ad) (h1 : Lies w a1 la) (h2 : Lies w a2 lb) (k1 : okCurve la) (k2 : okCurve lb) :
  Calls Tryz.prog 68 #[.slice a1 la.length cap1, .slice a2 lb.length cap2] w fun e w' => SumEnd la lb w e w' := by
 rcases firstBad (eachL la lb) with h | ⟨j, hj, hn, hb⟩
 ·
  refine (sum_ok a1 a2 cap1 cap2 la lb w (ad 2) he.c2 h1 h2 k1 k2 h).mono ?_
  rintro e w' ⟨ls', hp, hs, hb, ⟨h6, rfl⟩ | ⟨h6, v, rfl, ho⟩⟩
  · exact ⟨none, 0, 0, _, 3, [], rfl, .inr ⟨h, _, ⟨ls', hp, hs, rfl⟩, .inl ⟨by rw [List.length_reverse]; exact h6, rfl, rfl⟩⟩, hb, fun h => absurd h (by decide), fun _ => ⟨_, _, rfl⟩⟩
  ·
   obtain ⟨a, n, cap, rfl⟩ : ∃ a n cap, v = .slice a n cap := by
    obtain ⟨-, ⟨rfl, -⟩ | ⟨g, cap, cur, rfl, -⟩⟩ := ho
    · exact ⟨_, _, _, rfl⟩
    · exact ⟨_, _, _, rfl⟩
   obtain ⟨e1, e2, e3, e4⟩ := ho.lies
   exact ⟨a, n, cap, _, 0, _, rfl, .inr ⟨h, _, ⟨ls', hp, hs, rfl⟩, .inr ⟨by rw [List.length_reverse]; exact h6, rfl, rfl⟩⟩, hb, fun _ => ⟨rfl, e1, e4, e2, e3⟩, fun h => absurd rfl h⟩
 ·
  refine (sum_bound a1 a2 cap1 cap2 la lb w (ad 1) he.c1 h1 h2 k1 k2 j hj hn hb).mono ?_
  rintro e w' ⟨rfl, hbw⟩
  refine ⟨none, 0, 0, _, 2, [], rfl, .inl ⟨fun hok => ?_, rfl, rfl⟩, hbw, fun h => absurd h (by decide), fun _ => ⟨_, _, rfl⟩⟩
  obtain ⟨⟨x, y⟩, hp, hm⟩ := get_some _ j hj
  have := hb x y hp
  rw [hok _ hm] at this
  cases this
theorem Tryz.callIsEmpty (args : Array Value) (W : World) : Sem.run Tryz.prog (callFunc 67 args) W = .ok (.enter 67 args) W := by kernel_rfl
def CurveCells (w : World) (b off : Nat) (cs : List (List (Int × Int))) : Prop := ∀ (i : Nat) ls, cs[i]? = some ls → ∃ a' cap, w.cell? ⟨b, off + i, none⟩ = some (.slice a' ls.length cap) ∧ Lies w a' ls ∧ ls.length ≤ cap ∧ cap ≤ maxLen ∧ (a' = none → ls = [] ∧ cap = 0)
set_option maxRecDepth 100000 in
set_option maxHeartbeats 1000000 in
theorem indexEmpty_any (b off ccap : Nat) (cs : List (List (Int × Int))) (w : World) (h : CurveCells w b off cs) (h8 : cs.length = 8) (j : Nat) (hj : CurvesUpTo cs j) :
  Calls Tryz.prog 66 #[.slice (some ⟨b, off, none⟩) 8 ccap, .func (.func 67) #[] #[]] w fun e w' => e = .returned (.int .i64 (if j < 8 then (j : Int) else -1)) ∧ w' = w := by
 have HC : Hid (CurveCells w b off cs) := h
 have HJ : Hid (CurvesUpTo cs j) := hj
 have H8 : Hid (cs.length = 8) := h8
 have hj8 := hj.1
 have hcall := Tryz.callIsEmpty
 clear h hj h8
 go_enter Tryz.func66, Tryz.ntmps66
 go_wp2_with fail
 go_loopg [8] 8 (fun gk iv wr => ∃ k : Nat, iv = .int .i64 (k : Int) ∧ k ≤ j ∧ 8 - k ≤ gk ∧ w = wr)
 case atStart => exact ⟨0, rfl, Nat.zero_le _, Nat.le_refl _, rfl⟩
 case round =>
  obtain ⟨k, rfl, hkj, hgk, rfl⟩ := hrel
  by_cases hk8 : k < 8
  ·
   have hkz : (k : Int) < 8 := by omega
   obtain ⟨ls, hls, -⟩ := get_some cs k (by rw [H8.out]; exact hk8)
   obtain ⟨a', cap, cj, -, -, -, -⟩ := HC.out k ls hls
   have hfl := curveFl_get hls
   obtain ⟨n, hn⟩ : ∃ n, ls.length = n := ⟨_, rfl⟩
   rw [hn] at cj
   by_cases hk : k < j
   ·
    have hne := HJ.out.2.1 k hk
    rw [hfl] at hne
    have HEm : Hid (Calls Tryz.prog 67 #[.slice a' n cap] w fun e w' => e = .returned (.bool false) ∧ w' = w) := isEmpty_any a' n cap w false (by have := List.length_pos_iff.2 hne; simp; omega)
    clear hls hfl hne hn
    go_wp2_with fail
    refine HEm.out.mono ?_
    rintro e w1 ⟨rfl, rfl⟩
    go_wp2_with fail
    go_roundg (8 - (k + 1))
    case measure => omega
    case rel => exact ⟨k + 1, by go_num, hk, Nat.le_refl _, rfl⟩
   ·
    obtain rfl : k = j := by omega
    have he : ls = [] := by
     rcases HJ.out.2.2 with h | h
     · omega
     · rw [← hfl]; exact h
    have HEm : Hid (Calls Tryz.prog 67 #[.slice a' n cap] w fun e w' => e = .returned (.bool true) ∧ w' = w) := isEmpty_any a' n cap w true (by rw [← hn, he]; rfl)
    clear hls hfl he hn
    go_wp2_with fail
    refine HEm.out.mono ?_
    rintro e w1 ⟨rfl, rfl⟩
    go_wp2_with fail
    go_ret
    exact ⟨rfl, rfl⟩
  ·
   have hkz : ¬ (k : Int) < 8 := by omega
   obtain rfl : k = 8 := by omega
   obtain rfl : j = 8 := by omega
   go_wp2_with fail
   go_ret
   exact ⟨rfl, rfl⟩
def TogetherEnd (cs : List (List (Int × Int))) (w : World) (e : Ending) (w' : World) : Prop := Below w.heap.size w w' ∧ ((∃ a cap L, CurveAll SumRel cs L ∧ e = .returned (.tuple #[.slice a L.length cap, .nilIface]) ∧ Lies w' a L ∧ L.length ≤ cap ∧ cap ≤ maxLen) ∨ (CurveNone SumRel cs ∧ ∃ ty v, e = .returned (.tuple #[.slice none 0 0, .iface ty v])))
theorem upTo_is (cs : List (List (Int × Int))) : ∃ j, CurvesUpTo cs j := by
 by_cases h : ∃ i, i < 8 ∧ curveFl cs i = []
 ·
  obtain ⟨j, ⟨h1, h2⟩, h3⟩ := least_of h
  exact ⟨j, by omega, fun i hi he => h3 i hi ⟨by omega, he⟩, .inr h2⟩
 · exact ⟨8, Nat.le_refl _, fun i hi he => h ⟨i, hi, he⟩, .inl rfl⟩
set_option maxRecDepth 100000 in
set_option maxHeartbeats 4000000 in
theorem together_any (ca : Option Addr) (ccap : Nat) (cs : List (List (Int × Int))) (w : World) (ad : Nat → Addr) (he : Errs9 w ad) (hl : LiesC w ca cs) (h8 : cs.length = 8) (hcc : cs.length ≤ ccap) (hto : CurvesTo cs 8) :
  Calls Tryz.prog 34 #[.slice ca cs.length ccap] w fun e w' => TogetherEnd cs w e w' := by
 obtain ⟨b, off, rfl, -, hcc'⟩ := hl.place (by omega)
 have hcells : CurveCells w b off cs := hcc'
 obtain ⟨j, hj⟩ := upTo_is cs
 have hj8 := hj.1
 have HIx := (show Hid (Calls Tryz.prog 66 #[.slice (some ⟨b, off, none⟩) 8 ccap, .func (.func 67) #[] #[]] w fun e w' => e = .returned (.int .i64 (if j < 8 then (j : Int) else -1)) ∧ w' = w) from indexEmpty_any b off ccap cs w hcells h8 j hj)
 have HC : Hid (CurveCells w b off cs) := hcells
 have HE : Hid (Errs9 w ad) := he
 have H8 : Hid (cs.length = 8) := h8
 have HCo : Hid (CurvesOk (curveFl cs)) := fun f hf => by
  obtain ⟨ls, hls, -⟩ := get_some cs f (by rw [h8]; exact hf)
  rw [curveFl_get hls]
  exact hto f ls hf hls
 have HJ : Hid (CurvesUpTo cs j) := hj
 rw [h8] at hcc ⊢
 have hcc1 : ccap ≠ 1 := by omega
 have hccj : ∀ i, i < 8 → i ≠ ccap := fun i hi => by omega
 have c3 := he.c3
 clear he hl h8 hto hcc' hcells hj
 by_cases hj0 : j = 0
 ·
  subst hj0
  have HEnd : Hid (CurveNone SumRel cs) := by
   rcases HJ.out.2.2 with h | h
   · omega
   · exact .inl h
  rw [if_pos (by omega)] at HIx
  go_enter Tryz.func34, Tryz.ntmps34
  go_wp2_with fail
  refine HIx.out.mono ?_
  rintro e w1 ⟨rfl, rfl⟩
  go_wp2_with fail
  go_quiet (fail)
  go_wp2_with fail
  go_ret2
  exact ⟨below_drewN (Below.refl _ _) nq, .inr ⟨HEnd.out, _, _, rfl⟩⟩
 ·
  have hj1 : 1 ≤ j := by omega
  obtain ⟨ls0, hls0, -⟩ := get_some cs 0 (by rw [H8.out]; omega)
  obtain ⟨a0, cap0, cj00, hlies0, hlc0, hlm0, -⟩ := HC.out 0 ls0 hls0
  have hfl0 := curveFl_get hls0
  have HL0 : Hid ((Lies w a0 (curveFl cs 0) ∧ (curveFl cs 0).length ≤ cap0 ∧ cap0 ≤ maxLen) ∧ ls0.length = (curveFl cs 0).length) := by rw [hfl0]; exact ⟨⟨hlies0, hlc0, hlm0⟩, rfl⟩
  have HK0 : Hid (curveFl cs 0 ≠ [] ∧ okCurve (curveFl cs 0)) := by
   have h := HJ.out.2.1 0 hj1
   refine ⟨h, ?_⟩
   rcases HCo.out 0 (by omega) with h' | h'
   · exact absurd h' h
   · exact h'
  obtain ⟨n0, hn0⟩ : ∃ n0, ls0.length = n0 := ⟨_, rfl⟩
  rw [hn0] at cj00 HL0
  rw [Nat.add_zero] at cj00
  clear hls0 hlies0 hlc0 hlm0 hfl0 hn0
  have hjne : ((j : Int) == 0) = false := by simp; omega
  have hj1z : (j : Int) - 1 = ((j - 1 : Nat) : Int) := by omega
  have hjc : j ≤ ccap := by omega
  have hcz : (1 : Int) ≤ (j : Int) := by omega
  by_cases hjl : j < 8
  ·
   rw [if_pos hjl] at HIx
   have hjcc : j ≠ ccap := by omega
   go_enter Tryz.func34, Tryz.ntmps34
   go_wp2_with fail
   refine HIx.out.mono ?_
   rintro e w1 ⟨rfl, rfl⟩
   go_wp2_with fail
   go_loopg [5, 27] 8 (fun gk sv iv wr => ∃ (q : Nat) (a : Option Addr) (cap : Nat) (M : List (Int × Int)), sv = .slice a M.length cap ∧ iv = .int .i64 (q : Int) ∧ q + 1 ≤ j ∧ j - q ≤ gk ∧ Hid (AddTo SumRel cs (q + 1) M ∧ okCurve M ∧ Lies wr a M ∧ M.length ≤ cap ∧ cap ≤ maxLen) ∧ Hid (Below w1.heap.size w1 wr))
   case atStart => exact ⟨0, a0, cap0, curveFl cs 0, by rw [HL0.out.2], rfl, by omega, by omega, ⟨rfl, HK0.out.2, HL0.out.1.1, HL0.out.1.2.1, HL0.out.1.2.2⟩, Below.refl _ _⟩
   case round =>
    obtain ⟨q, a, cap, M, rfl, rfl, hqj, hgk, HM, HB⟩ := hrel
    by_cases hlt : q + 1 < j
    ·
     have hltz : (q : Int) < ((j - 1 : Nat) : Int) := by omega
     obtain ⟨t, ht⟩ : ∃ t, j - 1 = t := ⟨_, rfl⟩
     rw [ht] at hltz
     obtain ⟨ls, hls, -⟩ := get_some cs (q + 1) (by rw [H8.out]; omega)
     obtain ⟨a', cap', cj0, hlies, hlc, hlm, -⟩ := HC.out (q + 1) ls hls
     have cj := cell_later HB.out cj0
     have hfl := curveFl_get hls
     have hne := HJ.out.2.1 (q + 1) hlt
     rw [hfl] at hne
     have hokl : okCurve ls := by
      rcases HCo.out (q + 1) (by omega) with h | h
      · rw [hfl] at h; exact absurd h hne
      · rw [hfl] at h; exact h
     have HSu := (show Hid (Calls Tryz.prog 68 #[.slice a M.length cap, .slice a' ls.length cap'] wr fun e w' => SumEnd M ls wr e w') from sum_ends a a' cap cap' M ls wr ad (HE.out.below HB.out) HM.out.2.2.1 (hlies.below HB.out) HM.out.2.1 hokl)
     have HLs : Hid (curveFl cs (q + 1) = ls ∧ ls ≠ [] ∧ okCurve ls) := ⟨hfl, hne, hokl⟩
     rw [show off + (q + 1) = off + 1 + q by omega] at cj
     obtain ⟨n', hn'⟩ : ∃ n', ls.length = n' := ⟨_, rfl⟩
     obtain ⟨m', hm'⟩ : ∃ m', M.length = m' := ⟨_, rfl⟩
     rw [hn'] at cj HSu
     rw [hm'] at HSu ⊢
     clear hls cj0 hlies hlc hlm hfl hne hokl hn' hm' ht
     go_wp2_with fail
     refine HSu.out.mono ?_
     rintro e w2 ⟨sa, sn, scap, E, code, L, rfl, hrel, hb2, hz, hnz⟩
     have HB2 : Hid (Below w1.heap.size w1 w2) := HB.out.trans (hb2.mono HB.out.size)
     by_cases hc0 : code = 0
     ·
      obtain ⟨rfl, hsn, hlL, hL1, hL2⟩ := hz hc0
      have HM2 : Hid (AddTo SumRel cs (q + 1 + 1) L ∧ okCurve L ∧ Lies w2 sa L ∧ L.length ≤ scap ∧ scap ≤ maxLen) := by
       rw [hc0] at hrel
       have hn := HLs.out
       exact ⟨addTo_next HM.out.1 (by rw [hn.1]; exact hn.2.1) (by rw [hn.1]; exact hrel), sumWay.ok M ls L HM.out.2.1 hn.2.2 hrel, hlL, hL1, hL2⟩
      have HSn : Hid (sn = L.length) := hsn
      clear hrel hb2 hz hnz hc0 hsn hlL hL1 hL2 HSu HM HB
      go_wp2_with fail
      go_roundg (j - (q + 1))
      case measure => omega
      case rel => exact ⟨q + 1, sa, scap, L, by rw [HSn.out], by go_num, by omega, Nat.le_refl _, HM2, HB2⟩
     ·
      obtain ⟨ty, v, rfl⟩ := hnz hc0
      have HEnd : Hid (TogetherEnd cs w1 (.returned (.tuple #[.slice none 0 0, .iface ty v])) w2) := by
       have hn := HLs.out
       exact ⟨HB2.out, .inr ⟨.inr ⟨HJ.out.2.1 0 (by omega), q + 1, M, code, L, by omega, by omega, HM.out.1, by rw [hn.1]; exact hn.2.1, by rw [hn.1]; exact hrel, hc0⟩, ty, v, rfl⟩⟩
      clear hrel hb2 hz hnz hc0 HSu HM HB
      go_wp2_with fail
      go_ret2
      exact HEnd.out
    ·
     have hltz : ¬ (q : Int) < ((j - 1 : Nat) : Int) := by omega
     obtain ⟨t, ht⟩ : ∃ t, j - 1 = t := ⟨_, rfl⟩
     rw [ht] at hltz
     obtain rfl : q = t := by omega
     have HEnd : Hid (TogetherEnd cs w1 (.returned (.tuple #[.slice a M.length cap, .nilIface])) wr) := by
      refine ⟨HB.out, .inl ⟨a, cap, M, ⟨HJ.out.2.1 0 (by omega), j, hj1, HJ.out.1, ?_, HJ.out.2.2⟩, rfl, HM.out.2.2⟩⟩
      rw [show j = q + 1 by omega]
      exact HM.out.1
     clear HM HB ht
     go_wp2_with fail
     go_ret2
     exact HEnd.out
  ·
   rw [if_neg hjl] at HIx
   obtain rfl : j = 8 := by omega
   go_enter Tryz.func34, Tryz.ntmps34
   go_wp2_with fail
   refine HIx.out.mono ?_
   rintro e w1 ⟨rfl, rfl⟩
   go_wp2_with fail
   go_loopg [5, 27] 8 (fun gk sv iv wr => ∃ (q : Nat) (a : Option Addr) (cap : Nat) (M : List (Int × Int)), sv = .slice a M.length cap ∧ iv = .int .i64 (q : Int) ∧ q + 1 ≤ 8 ∧ 8 - q ≤ gk ∧ Hid (AddTo SumRel cs (q + 1) M ∧ okCurve M ∧ Lies wr a M ∧ M.length ≤ cap ∧ cap ≤ maxLen) ∧ Hid (Below w1.heap.size w1 wr))
   case atStart => exact ⟨0, a0, cap0, curveFl cs 0, by rw [HL0.out.2], rfl, by omega, by omega, ⟨rfl, HK0.out.2, HL0.out.1.1, HL0.out.1.2.1, HL0.out.1.2.2⟩, Below.refl _ _⟩
   case round =>
    obtain ⟨q, a, cap, M, rfl, rfl, hqj, hgk, HM, HB⟩ := hrel
    by_cases hlt : q + 1 < 8
    ·
     have hltz : (q : Int) < ((8 - 1 : Nat) : Int) := by omega
     obtain ⟨t, ht⟩ : ∃ t, 8 - 1 = t := ⟨_, rfl⟩
     rw [ht] at hltz
     obtain ⟨ls, hls, -⟩ := get_some cs (q + 1) (by rw [H8.out]; omega)
     obtain ⟨a', cap', cj0, hlies, hlc, hlm, -⟩ := HC.out (q + 1) ls hls
     have cj := cell_later HB.out cj0
     have hfl := curveFl_get hls
     have hne := HJ.out.2.1 (q + 1) hlt
     rw [hfl] at hne
     have hokl : okCurve ls := by
      rcases HCo.out (q + 1) (by omega) with h | h
      · rw [hfl] at h; exact absurd h hne
      · rw [hfl] at h; exact h
     have HSu := (show Hid (Calls Tryz.prog 68 #[.slice a M.length cap, .slice a' ls.length cap'] wr fun e w' => SumEnd M ls wr e w') from sum_ends a a' cap cap' M ls wr ad (HE.out.below HB.out) HM.out.2.2.1 (hlies.below HB.out) HM.out.2.1 hokl)
     have HLs : Hid (curveFl cs (q + 1) = ls ∧ ls ≠ [] ∧ okCurve ls) := ⟨hfl, hne, hokl⟩
     rw [show off + (q + 1) = off + 1 + q by omega] at cj
     obtain ⟨n', hn'⟩ : ∃ n', ls.length = n' := ⟨_, rfl⟩
     obtain ⟨m', hm'⟩ : ∃ m', M.length = m' := ⟨_, rfl⟩
     rw [hn'] at cj HSu
     rw [hm'] at HSu ⊢
     clear hls cj0 hlies hlc hlm hfl hne hokl hn' hm' ht
     go_wp2_with fail
     refine HSu.out.mono ?_
     rintro e w2 ⟨sa, sn, scap, E, code, L, rfl, hrel, hb2, hz, hnz⟩
     have HB2 : Hid (Below w1.heap.size w1 w2) := HB.out.trans (hb2.mono HB.out.size)
     by_cases hc0 : code = 0
     ·
      obtain ⟨rfl, hsn, hlL, hL1, hL2⟩ := hz hc0
      have HM2 : Hid (AddTo SumRel cs (q + 1 + 1) L ∧ okCurve L ∧ Lies w2 sa L ∧ L.length ≤ scap ∧ scap ≤ maxLen) := by
       rw [hc0] at hrel
       have hn := HLs.out
       exact ⟨addTo_next HM.out.1 (by rw [hn.1]; exact hn.2.1) (by rw [hn.1]; exact hrel), sumWay.ok M ls L HM.out.2.1 hn.2.2 hrel, hlL, hL1, hL2⟩
      have HSn : Hid (sn = L.length) := hsn
      clear hrel hb2 hz hnz hc0 hsn hlL hL1 hL2 HSu HM HB
      go_wp2_with fail
      go_roundg (8 - (q + 1))
      case measure => omega
      case rel => exact ⟨q + 1, sa, scap, L, by rw [HSn.out], by go_num, by omega, Nat.le_refl _, HM2, HB2⟩
     ·
      obtain ⟨ty, v, rfl⟩ := hnz hc0
      have HEnd : Hid (TogetherEnd cs w1 (.returned (.tuple #[.slice none 0 0, .iface ty v])) w2) := by
       have hn := HLs.out
       exact ⟨HB2.out, .inr ⟨.inr ⟨HJ.out.2.1 0 (by omega), q + 1, M, code, L, by omega, by omega, HM.out.1, by rw [hn.1]; exact hn.2.1, by rw [hn.1]; exact hrel, hc0⟩, ty, v, rfl⟩⟩
      clear hrel hb2 hz hnz hc0 HSu HM HB
      go_wp2_with fail
      go_ret2
      exact HEnd.out
    ·
     have hltz : ¬ (q : Int) < ((8 - 1 : Nat) : Int) := by omega
     obtain ⟨t, ht⟩ : ∃ t, 8 - 1 = t := ⟨_, rfl⟩
     rw [ht] at hltz
     obtain rfl : q = t := by omega
     have HEnd : Hid (TogetherEnd cs w1 (.returned (.tuple #[.slice a M.length cap, .nilIface])) wr) := by
      refine ⟨HB.out, .inl ⟨a, cap, M, ⟨HJ.out.2.1 0 (by omega), 8, hj1, HJ.out.1, ?_, HJ.out.2.2⟩, rfl, HM.out.2.2⟩⟩
      rw [show 8 = q + 1 by omega]
      exact HM.out.1
     clear HM HB ht
     go_wp2_with fail
     go_ret2
     exact HEnd.out
end Go.Proofs.YtibhkijaafdkoaaGreatDoor
