/- Own facts, put together: no statement of its own. -/
import Derived.Test.YtibhkijaafdkoaaGreatDoorQ48
namespace Go.Proofs.YtibhkijaafdkoaaGreatDoor
open Go.RowKit
set_option maxRecDepth 100000 in
set_option maxHeartbeats 2000000 in
theorem shapeAll_none (ca : Option Addr) (ccap : Nat) (cs : List (List (Int × Int))) (pa : Option Addr) (pcap : Nat) (w : World) (ad : Nat → Addr) (he : Errs9 w ad) (hl : LiesC w ca cs) (h8 : cs.length = 8) (hto : CurvesTo cs 8) (hp : PksLie w pa pcap []) :
  Calls Tryz.prog 50 #[.slice ca cs.length ccap, .slice pa 0 pcap] w fun e w' => ShapeAllEnd cs [] ad w e w' := by
 have HC := (show Hid (Calls Tryz.prog 79 #[.slice pa 0 pcap] w fun e w' => ∃ v, e = .returned v ∧ OwnP w' w.heap.size v [] ∧ Below w.heap.size w w') from clonePkts_any pa pcap [] w hp.pks (by simp) hp.none_)
 have HE : Hid (Errs9 w ad) := he
 have HTo : Hid (CurvesTo cs 8) := hto
 have H8 : Hid (cs.length = 8) := h8
 obtain ⟨b, off, rfl, -, hcc⟩ := hl.place (by omega)
 have HCc : Hid (∀ (i : Nat) ls, cs[i]? = some ls → ∃ a' cap, w.cell? ⟨b, off + i, none⟩ = some (.slice a' ls.length cap) ∧ Lies w a' ls ∧ ls.length ≤ cap ∧ cap ≤ maxLen ∧ (a' = none → ls = [] ∧ cap = 0)) := hcc
 have HEnd : Hid (∀ (qa : Option Addr) (qcap : Nat) (W : World), Below w.heap.size w W → qcap ≤ maxLen → (qa = none → qcap = 0) → ShapeAllEnd cs [] ad w (.returned (.tuple #[.slice qa 0 qcap, .nilIface])) W) := fun qa qcap W hb h1 h2 => by
  have hn : ∀ i, ¬ NeverAt (curveFl cs) [] i := fun i h => by obtain ⟨p, s, h1, -⟩ := h; simp at h1
  obtain ⟨at_, hs⟩ := shaped_is (cs := curveFl cs) okPks_none hn
  exact ⟨hb, .inr ⟨qa, qcap, at_, [], hn, hs, IsOrder.start at_, rfl, .inl rfl, Nat.zero_le _, h1, fun h => ⟨rfl, h2 h⟩⟩⟩
 rw [h8]
 clear he hto hl hp hcc h8
 go_enter Tryz.func50, Tryz.ntmps50
 go_wp2_with fail
 refine HC.out.mono ?_
 rintro e w1 ⟨v, rfl, hown, hb1⟩
 obtain ⟨qa, qcap, rfl, -, hqm, -, -, hqn⟩ := hown.open
 have HQ : Hid (qcap ≤ maxLen ∧ (qa = none → qcap = 0)) := ⟨hqm, fun h => (hqn h).2⟩
 have HB1 : Hid (Below w.heap.size w w1) := hb1
 simp only [List.length_nil] at *
 clear hown hqm hqn hb1 HC
 go_wp2_with fail
 go_loopg [7, 16] 8 (fun gk sv iv wr => ∃ k : Nat, sv = .int .i64 0 ∧ iv = .int .i64 (k : Int) ∧ k ≤ 8 ∧ 8 - k ≤ gk ∧ Hid (Below w.heap.size w wr))
 case atStart => exact ⟨0, rfl, rfl, Nat.zero_le _, Nat.le_refl _, HB1⟩
 case round =>
  clear HB1
  obtain ⟨k, rfl, rfl, hk8', hgk, HB⟩ := hrel
  by_cases hk8 : k < 8
  ·
   have hkz : (k : Int) < 8 := by omega
   obtain ⟨ls, hls, -⟩ := get_some cs k (by rw [H8.out]; exact hk8)
   obtain ⟨a', cap, cj0, hlies, hlc, hlm, -⟩ := HCc.out k ls hls
   have cj := cell_later HB.out cj0
   have HG : Hid (cs[k]? = some ls ∧ Lies w a' ls) := ⟨hls, hlies⟩
   obtain ⟨n, hn⟩ : ∃ n, ls.length = n := ⟨_, rfl⟩
   have HN : Hid (ls.length = n) := hn
   rw [hn] at cj
   clear hls cj0 hlies hlc hlm hn
   by_cases hn0 : n = 0
   ·
    have HEm : Hid (Calls Tryz.prog 67 #[.slice a' n cap] wr fun e w' => e = .returned (.bool true) ∧ w' = wr) := isEmpty_any a' n cap wr true (by simp; exact hn0)
    clear hn0
    go_wp2_with fail
    refine HEm.out.mono ?_
    rintro e w2 ⟨rfl, rfl⟩
    go_wp2_with fail
    go_roundg (8 - (k + 1))
    case measure => omega
    case rel => exact ⟨k + 1, rfl, by go_num, by omega, Nat.le_refl _, HB⟩
   ·
    have HEm : Hid (Calls Tryz.prog 67 #[.slice a' n cap] wr fun e w' => e = .returned (.bool false) ∧ w' = wr) := isEmpty_any a' n cap wr false (by simp; omega)
    have hok : okCurve ls := by
     rcases HTo.out k ls hk8 HG.out.1 with h | h
     · exact absurd (by rw [← HN.out, h]; rfl) hn0
     · exact h
    have HFl : Hid (Calls Tryz.prog 80 #[.slice a' n cap, .slice qa 0 qcap, .int .i64 (k : Int)] wr fun e w' => e = .returned (.int .i64 0) ∧ Below wr.heap.size wr w') := by
     have := shapeFlow_none a' cap ls qa qcap (k : Int) wr ad (HE.out.below HB.out) (HG.out.2.below HB.out) hok
     rwa [HN.out] at this
    clear hok hn0
    go_wp2_with fail
    refine HEm.out.mono ?_
    rintro e w2 ⟨rfl, rfl⟩
    go_wp2_with fail
    refine HFl.out.mono ?_
    rintro e w3 ⟨rfl, hb3⟩
    have HB3 : Hid (Below w.heap.size w w3) := HB.out.trans (hb3.mono HB.out.size)
    clear hb3
    go_wp2_with fail
    go_roundg (8 - (k + 1))
    case measure => omega
    case rel => exact ⟨k + 1, rfl, by go_num, by omega, Nat.le_refl _, HB3⟩
  ·
   have hkz : ¬ (k : Int) < 8 := by omega
   have HSo : Hid (Calls Tryz.prog 81 #[.slice qa 0 qcap, .func (.func 82) #[] #[]] wr fun e w' => e = .returned (.tuple #[]) ∧ w' = wr) := sortStable_none qa qcap _ wr
   go_wp2_with fail
   refine HSo.out.mono ?_
   rintro e w2 ⟨rfl, rfl⟩
   go_wp2_with fail
   go_ret2
   exact HEnd.out qa qcap _ HB.out HQ.out.1 HQ.out.2
set_option maxRecDepth 100000 in
set_option maxHeartbeats 4000000 in
theorem shapeAll_some (ca : Option Addr) (ccap : Nat) (cs : List (List (Int × Int))) (pa : Option Addr) (pcap : Nat) (ps : List Pk) (w : World) (ad : Nat → Addr) (he : Errs9 w ad) (hl : LiesC w ca cs) (h8 : cs.length = 8) (hto : CurvesTo cs 8) (hp : PksLie w pa pcap ps) (ho : OkPks ps) (hpos : 0 < ps.length) :
  Calls Tryz.prog 50 #[.slice ca cs.length ccap, .slice pa ps.length pcap] w fun e w' => ShapeAllEnd cs ps ad w e w' := by
 have hn3 := ho.few
 have HC := (show Hid (Calls Tryz.prog 79 #[.slice pa ps.length pcap] w fun e w' => ∃ v, e = .returned v ∧ OwnP w' w.heap.size v ps ∧ Below w.heap.size w w') from clonePkts_any pa pcap ps w hp.pks (by omega) hp.none_)
 have HE : Hid (Errs9 w ad) := he
 have HTo : Hid (CurvesTo cs 8) := hto
 have H8 : Hid (cs.length = 8) := h8
 have HO : Hid (OkPks ps) := ho
 obtain ⟨b, off, rfl, -, hcc⟩ := hl.place (by omega)
 have HCc : Hid (∀ (i : Nat) ls, cs[i]? = some ls → ∃ a' cap, w.cell? ⟨b, off + i, none⟩ = some (.slice a' ls.length cap) ∧ Lies w a' ls ∧ ls.length ≤ cap ∧ cap ≤ maxLen ∧ (a' = none → ls = [] ∧ cap = 0)) := hcc
 obtain ⟨N, hN⟩ : ∃ N, ps.length = N := ⟨_, rfl⟩
 have HNN : Hid (ps.length = N) := hN
 rw [h8]
 rw [hN] at HC hpos hn3 ⊢
 clear he hto hl hp ho hcc h8 hN
 go_enter Tryz.func50, Tryz.ntmps50
 go_wp2_with fail
 refine HC.out.mono ?_
 rintro e w1 ⟨v, rfl, hown, hb1⟩
 obtain ⟨g, qcap, rfl, hgB, hg⟩ : ∃ g cap1, v = .slice (some ⟨g, 0, none⟩) ps.length cap1 ∧ w.heap.size ≤ g ∧ g < w1.heap.size := by
  obtain ⟨g, cap1, hv, hb1, hb2⟩ := World.ownsRow.form hown (by rw [HNN.out]; exact hpos)
  exact ⟨g, cap1, hv, hb1, hb2⟩
 have hrow := row_of_own hown hg
 obtain ⟨qa', qcap', hqe, hqc, hqm, -, -, -⟩ := hown.open
 injection hqe with hqe1 hqe2 hqe3
 subst hqe3
 rw [HNN.out] at hrow hqc ⊢
 have HQ : Hid (N ≤ qcap ∧ qcap ≤ maxLen) := ⟨hqc, hqm⟩
 have HB1 : Hid (Below w.heap.size w w1 ∧ w.heap.size ≤ g) := ⟨hb1, hgB⟩
 have HRow : Hid (RowP w1 g 0 N (fun i => ps.getD i ⟨0, 0, 0⟩) (fun i => i)) := hrow
 clear hown hqm hqc hb1 HC hrow hqe1 hgB hg
 go_wp2_with fail
 go_loopg [7, 16] 8 (fun gk sv iv wr => ∃ (k : Nat) (z : Int) (xs : Nat → Pk), sv = .int .i64 (stuckAt N z) ∧ iv = .int .i64 (k : Int) ∧ k ≤ 8 ∧ 8 - k ≤ gk ∧ Hid (FlowsAt ps k xs ∧ FlowsDone (curveFl cs) ps k z (tickAt N xs)) ∧ Hid (RowP wr g 0 N xs (fun i => i) ∧ But (fun q => q = g) w1 wr))
 case atStart =>
  refine ⟨0, -1, fun i => ps.getD i ⟨0, 0, 0⟩, rfl, rfl, Nat.zero_le _, Nat.le_refl _, ⟨⟨fun i p hi => ?_, fun i p hi _ => ?_⟩, flowsDone_none _⟩, HRow.out, But.refl _ _⟩
  · simp [List.getD, hi]
  · simp [List.getD, hi]
 case round =>
  clear HRow
  obtain ⟨k, z, xs, rfl, rfl, hk8', hgk, HD, H⟩ := hrel
  have HB : Hid (Below w.heap.size w wr) := HB1.out.1.trans (H.out.2.below HB1.out.1.size fun q hq => by rw [hq]; exact HB1.out.2)
  have hzr : 0 ≤ stuckAt N z ∧ stuckAt N z ≤ N := by
   unfold stuckAt
   rcases HD.out.2.range with h | ⟨i, h1, h2⟩
   · rw [if_pos (by omega)]; omega
   · rw [if_neg (by omega)]; rw [HNN.out] at h2; omega
  by_cases hk8 : k < 8
  ·
   have hkz : (k : Int) < 8 := by omega
   obtain ⟨ls, hls, -⟩ := get_some cs k (by rw [H8.out]; exact hk8)
   obtain ⟨a', cap, cj0, hlies, hlc, hlm, -⟩ := HCc.out k ls hls
   have cj := cell_later HB.out cj0
   have HG : Hid (cs[k]? = some ls ∧ Lies w a' ls ∧ curveFl cs k = ls) := ⟨hls, hlies, curveFl_get hls⟩
   obtain ⟨n, hn⟩ : ∃ n, ls.length = n := ⟨_, rfl⟩
   have HN : Hid (ls.length = n) := hn
   rw [hn] at cj
   obtain ⟨S, hS⟩ : ∃ S, stuckAt N z = S := ⟨_, rfl⟩
   have HS : Hid (stuckAt N z = S) := hS
   rw [hS] at hzr ⊢
   clear hls cj0 hlies hlc hlm hn hS
   by_cases hn0 : n = 0
   ·
    have HEm : Hid (Calls Tryz.prog 67 #[.slice a' n cap] wr fun e w' => e = .returned (.bool true) ∧ w' = wr) := isEmpty_any a' n cap wr true (by simp; exact hn0)
    have HD' : Hid (FlowsAt ps (k + 1) xs ∧ FlowsDone (curveFl cs) ps (k + 1) z (tickAt N xs)) := by
     have h0 : curveFl cs k = [] := by rw [HG.out.2.2]; exact List.length_eq_zero_iff.1 (HN.out.trans hn0)
     have := HD.out
     rw [← HNN.out] at this ⊢
     exact flows_skip HO.out h0 this.1 this.2
    clear hn0
    go_wp2_with fail
    refine HEm.out.mono ?_
    rintro e w2 ⟨rfl, rfl⟩
    go_wp2_with fail
    go_roundg (8 - (k + 1))
    case measure => omega
    case rel => exact ⟨k + 1, z, xs, by rw [HS.out], by go_num, by omega, Nat.le_refl _, HD', H⟩
   ·
    have HEm : Hid (Calls Tryz.prog 67 #[.slice a' n cap] wr fun e w' => e = .returned (.bool false) ∧ w' = wr) := isEmpty_any a' n cap wr false (by simp; omega)
    have hne : curveFl cs k ≠ [] := fun h => hn0 (by rw [← HN.out, ← HG.out.2.2, h]; rfl)
    have hok : okCurve ls := by
     rcases HTo.out k ls hk8 HG.out.1 with h | h
     · exact absurd (by rw [← HN.out, h]; rfl) hn0
     · exact h
    have HFl : Hid (Calls Tryz.prog 80 #[.slice a' n cap, .slice (some ⟨g, 0, none⟩) N qcap, .int .i64 (k : Int)] wr fun e w' => FlowEnd g 0 N xs ps k ls wr e w') := by
     have h1 := HD.out.1.nums HO.out
     have h2 := HD.out.1.own HO.out
     rw [HNN.out] at h1 h2
     have := shapeFlow_any a' cap ls g 0 N qcap xs ps k wr ad (HE.out.below HB.out) (HG.out.2.1.below HB.out) hok H.out.1 HNN.out HO.out h1 h2
     rwa [HN.out] at this
    have HOk : Hid (okCurve ls ∧ curveFl cs k ≠ []) := ⟨hok, hne⟩
    clear hok hn0 hne
    go_wp2_with fail
    refine HEm.out.mono ?_
    rintro e w2 ⟨rfl, rfl⟩
    go_wp2_with fail
    refine HFl.out.mono ?_
    rintro e w3 ⟨hbt, ⟨s, ys, hs, rfl, hry, hy1, hy2⟩ | ⟨r, i, p, s, hr, hw, hs, hst, rfl, hry⟩⟩
    ·
     have HD' : Hid (FlowsAt ps (k + 1) ys ∧ FlowsDone (curveFl cs) ps (k + 1) z (tickAt N ys)) := by
      have h1 := HD.out
      have h2 := HOk.out
      have h3 := HG.out.2.2
      rw [← HNN.out] at h1 hs hy1 hy2 ⊢
      rw [← h3] at h2 hs
      exact flows_shape HO.out h2.1 h2.2 h1.1 h1.2 hs hy1 hy2
     have H' : Hid (RowP w3 g 0 N ys (fun i => i) ∧ But (fun q => q = g) w1 w3) := ⟨hry, H.out.2.trans hbt⟩
     clear hbt hs hry hy1 hy2 HFl
     go_wp2_with fail
     go_roundg (8 - (k + 1))
     case measure => omega
     case rel => exact ⟨k + 1, z, ys, by rw [HS.out, show min S (N : Int) = S by omega], by go_num, by omega, Nat.le_refl _, HD', H'⟩
    ·
     have hiN : i < N := by
      have := (num_mem.1 (List.mem_of_getElem? hr)).1
      exact this
     have HD' : Hid (FlowsAt ps (k + 1) xs ∧ FlowsDone (curveFl cs) ps (k + 1) (if z < 0 ∨ (i : Int) < z then (i : Int) else z) (tickAt N xs)) := by
      have h1 := HD.out
      have h2 := HOk.out
      have h3 := HG.out.2.2
      rw [← HNN.out] at h1 hr hw hs ⊢
      rw [← h3] at hs
      exact flows_stuck HO.out h2.2 h1.1 h1.2 hr hw hs hst
     have H' : Hid (RowP w3 g 0 N xs (fun i => i) ∧ But (fun q => q = g) w1 w3) := ⟨hry, H.out.2.trans hbt⟩
     have HMi : Hid (stuckAt N (if z < 0 ∨ (i : Int) < z then (i : Int) else z) = min S (i : Int)) := by
      show _ = _
      rw [← HS.out]
      unfold stuckAt
      by_cases h1 : z < 0
      ·
       have e : (if z < 0 ∨ (i : Int) < z then (i : Int) else z) = (i : Int) := if_pos (.inl h1)
       rw [e, if_neg (by omega), if_pos h1]; omega
      ·
       by_cases h2 : (i : Int) < z
       ·
        have e : (if z < 0 ∨ (i : Int) < z then (i : Int) else z) = (i : Int) := if_pos (.inr h2)
        rw [e, if_neg (by omega), if_neg h1]; omega
       ·
        have e : (if z < 0 ∨ (i : Int) < z then (i : Int) else z) = z := if_neg (by omega)
        rw [e, if_neg h1]; omega
     clear hbt hs hry hr hw hst HFl
     go_wp2_with fail
     go_roundg (8 - (k + 1))
     case measure => omega
     case rel => exact ⟨k + 1, _, xs, by rw [HMi.out], by go_num, by omega, Nat.le_refl _, HD', H'⟩
  ·
   have hkz : ¬ (k : Int) < 8 := by omega
   obtain rfl : k = 8 := by omega
   by_cases hz0 : z < 0
   ·
    have hsN : stuckAt N z = N := by unfold stuckAt; rw [if_pos hz0]
    rw [hsN]
    have hlt : ¬ (N : Int) < (N : Int) := by omega
    have hfd : ∀ f, f < 8 → ∃ out, shapedFl (curveFl cs) ps f = some out ∧ ∀ (r i : Nat), (numTo ps f ps.length)[r]? = some i → tickAt N xs i = tickOf out r := by
     rcases HD.out.2 with ⟨-, h⟩ | ⟨i, h, -⟩
     · exact h
     · omega
    have hnev : ∀ i, ¬ NeverAt (curveFl cs) ps i := fun i hi => by
     have hil : i < ps.length := by obtain ⟨p, s, h1, -⟩ := hi; exact lt_of_get h1
     obtain ⟨out, h1, -⟩ := hfd _ (flow_range HO.out hil)
     exact never_not HO.out h1 rfl hi
    have HNev : Hid ((∀ i, ¬ NeverAt (curveFl cs) ps i) ∧ Shaped (curveFl cs) ps (tickAt N xs)) := ⟨hnev, hfd⟩
    have HSta : Hid (StaAt wr g 0 N (gatePk ps (tickAt N xs)) (fun i => i) wr) := by
     have e : ∀ i, i < N → gatePk ps (tickAt N xs) i = xs i := fun i hi => by
      have := gatePk_at HD.out.1.flow (i := i) (by rw [HNN.out]; exact hi)
      rwa [HNN.out] at this
     refine ⟨⟨H.out.1.lt, fun i hi => ?_, fun i hi => ?_, fun i hi => ?_, H.out.1.fz⟩, But.refl _ _⟩
     · rw [e i hi]; exact H.out.1.c0 i hi
     · rw [e i hi]; exact H.out.1.c1 i hi
     · rw [e i hi]; exact H.out.1.c2 i hi
    have HSo : Hid (Calls Tryz.prog 81 #[.slice (some ⟨g, 0, none⟩) N qcap, .func (.func 82) #[] #[]] wr fun e w' => e = .returned (.tuple #[]) ∧ ∃ h, IsOrder (tickBy (gatePk ps (tickAt N xs))) N ((List.range N).map h) ∧ StaAt wr g 0 N (gatePk ps (tickAt N xs)) h w') := sortStable_ok wr g 0 N qcap _ wr HSta.out (by omega)
    clear hsN hfd hnev hz0 hzr
    go_wp2_with fail
    refine HSo.out.mono ?_
    rintro e w2 ⟨rfl, h, hord, hsta⟩
    have HEnd : Hid (ShapeAllEnd cs ps ad w (.returned (.tuple #[.slice (some ⟨g, 0, none⟩) N qcap, .nilIface])) w2) := by
     have hord2 : IsOrder (tickAt N xs) N ((List.range N).map h) := hord.turn fun i hi => by
      show (gatePk ps (tickAt N xs) i).tick = _
      have e : ps[i]? = some (ps[i]'(by rw [HNN.out]; exact hi)) := List.getElem?_eq_getElem _
      rw [gatePk_get e]
     have hlie := liesP_row hsta.row
     have hlen : (gatePks ps (tickAt N xs) ((List.range N).map h)).length = N := by simp [gatePks]
     refine ⟨HB.out.trans (hsta.but.below HB.out.size fun q hq => by rw [hq]; exact HB1.out.2), .inr ⟨some ⟨g, 0, none⟩, qcap, tickAt N xs, (List.range N).map h, HNev.out.1, HNev.out.2, by rw [HNN.out]; exact hord2, by rw [hlen], ⟨hlie, by rw [hlen]; exact HQ.out.1, HQ.out.2, fun h => by cases h⟩⟩⟩
    clear hord hsta HSo HSta
    go_wp2_with fail
    go_ret2
    exact HEnd.out
   ·
    obtain ⟨i, hzi, hni, -, hall⟩ : ∃ i : Nat, z = i ∧ NeverAt (curveFl cs) ps i ∧ flowOf ps i < 8 ∧ ∀ j, NeverAt (curveFl cs) ps j → flowOf ps j < 8 → i ≤ j := by
     rcases HD.out.2 with ⟨h, -⟩ | h
     · omega
     · exact h
    have hsi : stuckAt N z = (i : Int) := by unfold stuckAt; rw [if_neg hz0]; exact hzi
    have hiN : i < N := by obtain ⟨p, s, h1, -⟩ := hni; have := lt_of_get h1; rw [HNN.out] at this; exact this
    have hilt : (i : Int) < (N : Int) := by omega
    have HNev : Hid (NeverAt (curveFl cs) ps i ∧ ∀ j, j < i → ¬ NeverAt (curveFl cs) ps j) := ⟨hni, fun j hj hnj => by
     have hjl : j < ps.length := by obtain ⟨p, s, h1, -⟩ := hnj; exact lt_of_get h1
     have := hall j hnj (flow_range HO.out hjl)
     omega⟩
    have c3 := (HE.out.below HB.out).c3
    rw [hsi]
    clear hzi hni hall hsi hz0 hzr
    go_wp2_with fail
    go_region
    have HEnd : Hid (ShapeAllEnd cs ps ad w (.returned (.tuple #[.slice none 0 0, .iface 110 (.pointer (some ⟨wr.heap.size, 0, none⟩))])) (wr.alloc (.cells #[.int .i64 (i : Int), .iface 271 (.pointer (some (ad 3)))] 112)).drew) := ⟨below_drewN (HB.out.alloc HB.out.size _) 1, .inl ⟨i, wr.heap.size, HNev.out.1, HNev.out.2, rfl, by simp, by simp⟩⟩
    go_wp2_with fail
    go_ret2
    exact HEnd.out
theorem shapeAll_any (ca : Option Addr) (ccap : Nat) (cs : List (List (Int × Int))) (pa : Option Addr) (pcap : Nat) (ps : List Pk) (w : World) (ad : Nat → Addr) (he : Errs9 w ad) (hl : LiesC w ca cs) (h8 : cs.length = 8) (hto : CurvesTo cs 8) (hp : PksLie w pa pcap ps) (ho : OkPks ps) :
  Calls Tryz.prog 50 #[.slice ca cs.length ccap, .slice pa ps.length pcap] w fun e w' => ShapeAllEnd cs ps ad w e w' := by
 rcases Nat.eq_zero_or_pos ps.length with h0 | h0
 ·
  obtain rfl : ps = [] := List.length_eq_zero_iff.1 h0
  exact shapeAll_none ca ccap cs pa pcap w ad he hl h8 hto hp
 · exact shapeAll_some ca ccap cs pa pcap ps w ad he hl h8 hto hp ho h0
end Go.Proofs.YtibhkijaafdkoaaGreatDoor
