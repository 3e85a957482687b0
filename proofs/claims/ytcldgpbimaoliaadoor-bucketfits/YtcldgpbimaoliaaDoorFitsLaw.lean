/- BucketFits: its ways. -/
import Derived.Test.YtcldgpbimaoliaaDoorShapeLaw1
namespace Go.Proofs.YtcldgpbimaoliaaDoor
open Go.RowKit

set_option maxRecDepth 100000 in
set_option maxHeartbeats 1000000 in
theorem bfits_long (la : Option Addr) (m lcap : Nat) (pa : Option Addr) (n cap : Nat) (w : World) (ad : Nat → Addr) (he : Errs4 w ad) (hm : m ≤ maxLen) (h : 30 < m) :
    Calls Tryd.prog 11 #[.slice la m lcap, .slice pa n cap] w fun e w' => e = .returned (.bool true) ∧ Below w.heap.size w w' := by
  unfold maxLen at hm
  have HE : Hid (Errs4 w ad) := he
  clear he
  go_enter Tryd.func11, Tryd.ntmps11
  go_wp2_with fail
  refine (filled_any _ ad HE.out).mono ?_
  rintro e w1 ⟨rfl, hb⟩
  have HB : Hid (Below w.heap.size w w1) := hb
  clear hb
  go_wp2_with fail
  go_ret
  exact ⟨rfl, HB.out⟩
set_option maxRecDepth 100000 in
set_option maxHeartbeats 1000000 in
theorem bfits_many (la : Option Addr) (m lcap : Nat) (pa : Option Addr) (n cap : Nat) (w : World) (ad : Nat → Addr) (he : Errs4 w ad) (h : m ≤ 30) (h1 : ¬ (n : Int) ≤ 80) (h2 : n ≠ 301) :
    Calls Tryd.prog 11 #[.slice la m lcap, .slice pa n cap] w fun e w' => e = .returned (.bool true) ∧ Below w.heap.size w w' := by
  have HE : Hid (Errs4 w ad) := he
  have HF : Hid (∀ w', Calls Tryd.prog 38 #[.slice pa n cap, .int .i64 80] w' fun e w'' => e = .returned (.bool false) ∧ w'' = w') := fun w' => fitPkts_no pa n cap 80 w' h1 h2
  clear he h1 h2
  go_enter Tryd.func11, Tryd.ntmps11
  go_wp2_with fail
  refine (filled_any _ ad HE.out).mono ?_
  rintro e w1 ⟨rfl, hb⟩
  have HB : Hid (Below w.heap.size w w1) := hb
  clear hb
  go_wp2_with fail
  refine (HF.out _).mono ?_
  rintro e w2 ⟨rfl, rfl⟩
  go_wp2_with fail
  go_ret
  exact ⟨rfl, HB.out⟩

set_option maxRecDepth 100000 in
set_option maxHeartbeats 1000000 in
theorem bfits_bad (la : Option Addr) (lcap : Nat) (ls : List (Int × Int)) (pa : Option Addr) (cap : Nat) (ps : List Pk) (w : World) (ad : Nat → Addr) (he : Errs4 w ad) (hl : Lies w la ls) (hla : la = none → ls = [] ∧ lcap = 0) (h30 : ls.length ≤ 30) (hp : LiesP w pa ps) (hpa : pa = none → ps = [] ∧ cap = 0) (hm : ps.length ≤ maxLen) (hn : ps.length ≤ 80 ∨ ps.length = 301)
    (hno : ¬ (OkPks ps ∧ okCurve ls) ∨ shape ls ps = none) :
    Calls Tryd.prog 11 #[.slice la ls.length lcap, .slice pa ps.length cap] w fun e w' => e = .returned (.bool true) ∧ Below w.heap.size w w' := by
  have HE : Hid (Errs4 w ad) := he
  have HL : Hid (Lies w la ls ∧ (la = none → ls = [] ∧ lcap = 0)) := ⟨hl, hla⟩
  have HP : Hid (LiesP w pa ps ∧ (pa = none → ps = [] ∧ cap = 0)) := ⟨hp, hpa⟩
  have HNo : Hid (¬ (OkPks ps ∧ okCurve ls) ∨ shape ls ps = none) := hno
  have HF : Hid (∀ w', Calls Tryd.prog 38 #[.slice pa ps.length cap, .int .i64 80] w' fun e w'' => e = .returned (.bool true) ∧ w'' = w') := fun w' => fitPkts_yes pa ps.length cap 80 w' hm (by omega)
  clear he hl hla hp hpa hno
  go_enter Tryd.func11, Tryd.ntmps11
  go_wp2_with fail
  refine (filled_any _ ad HE.out).mono ?_
  rintro e w1 ⟨rfl, hb⟩
  have HB1 : Hid (Below w.heap.size w w1) := hb
  clear hb
  go_wp2_with fail
  refine (HF.out _).mono ?_
  rintro e w1' ⟨rfl, rfl⟩
  go_wp2_with fail
  refine (ownLines_at la lcap ls w _ HB1.out HL.out.1 (by omega) HL.out.2).mono ?_
  rintro e w2 ⟨a2, k2, rfl, l2, g2, m2, b2, B2⟩
  have HB2 : Hid (Below w.heap.size w w2) := B2
  have HL2 : Hid (Lies w2 a2 ls ∧ ls.length ≤ k2 ∧ k2 ≤ maxLen) := ⟨l2, g2, m2⟩
  clear l2 g2 m2 b2 B2
  go_wp2_with fail
  refine (ownPackets_from pa cap ps w _ HB2.out HP.out.1 (by omega) HP.out.2).mono ?_
  rintro e w3 ⟨a3, k3, rfl, l3, g3, m3, b3, B3⟩
  have HB3 : Hid (Below w.heap.size w w3) := B3
  have HL3 : Hid (Lies w3 a2 ls ∧ LiesP w3 a3 ps ∧ ps.length ≤ k3 ∧ k3 ≤ maxLen) := ⟨HL2.out.1.below b3, l3, g3, m3⟩
  clear l3 g3 m3 b3 B3
  go_wp2_with fail
  refine (shape_no a2 k2 ls a3 k3 ps _ ad (HE.out.below HB3.out) HL3.out.1 HL2.out.2.1 HL2.out.2.2 HL3.out.2.1 HL3.out.2.2.1 HL3.out.2.2.2 HNo.out).mono ?_
  rintro e w4 ⟨ty, v, rfl, b4⟩
  have HB4 : Hid (Below w.heap.size w w4) := HB3.out.trans (b4.mono HB3.out.size)
  clear b4
  go_wp2_with fail
  go_ret
  exact ⟨rfl, HB4.out⟩

set_option maxRecDepth 100000 in
set_option maxHeartbeats 4000000 in
theorem bfits_main (la : Option Addr) (lcap : Nat) (ls : List (Int × Int)) (pa : Option Addr) (cap : Nat) (ps : List Pk) (s : Sh) (w : World) (ad : Nat → Addr) (he : Errs4 w ad) (hl : Lies w la ls) (hla : la = none → ls = [] ∧ lcap = 0) (h30 : ls.length ≤ 30) (hp : LiesP w pa ps) (hpa : pa = none → ps = [] ∧ cap = 0) (hm : ps.length ≤ maxLen) (hn : ps.length ≤ 80 ∨ ps.length = 301)
    (ho : OkPks ps) (hk : okCurve ls) (hs : shape ls ps = some s) :
    Calls Tryd.prog 11 #[.slice la ls.length lcap, .slice pa ps.length cap] w fun e w' => e = .returned (.bool true) ∧ Below w.heap.size w w' := by
  have HE : Hid (Errs4 w ad) := he
  have HL : Hid (Lies w la ls ∧ (la = none → ls = [] ∧ lcap = 0)) := ⟨hl, hla⟩
  have HP : Hid (LiesP w pa ps ∧ (pa = none → ps = [] ∧ cap = 0)) := ⟨hp, hpa⟩
  have HOk : Hid (OkPks ps ∧ okCurve ls ∧ shape ls ps = some s) := ⟨ho, hk, hs⟩
  have hgood := shape_good hk ps s ho hs
  have HG : Hid (ShGood ls ps s) := hgood
  have hfew := ho.few
  obtain ⟨s2, hs2, hs2o⟩ := shape_once hk s.out hgood.okOut hgood.fits
  have HS2 : Hid (shape ls s.out = some s2 ∧ s2.out = s.out) := ⟨hs2, hs2o⟩
  obtain ⟨q, hq⟩ : ∃ q, s.out = q := ⟨_, rfl⟩
  have HQ : Hid (s.out = q) := hq
  have HQl : Hid (q.length = ps.length) := by show _ = _; rw [← hq]; exact hgood.len
  obtain ⟨z, hz⟩ : ∃ z, fitsB ls ps = z := ⟨_, rfl⟩
  have HZ : Hid (fitsB ls ps = z ∧ sameB q ps = z) := ⟨hz, by rw [← hq, ← hz]; exact (fits_same hk ho hs).symm⟩
  have HF : Hid (∀ w', Calls Tryd.prog 38 #[.slice pa ps.length cap, .int .i64 80] w' fun e w'' => e = .returned (.bool true) ∧ w'' = w') := fun w' => fitPkts_yes pa ps.length cap 80 w' hm (by omega)
  have hn80 : ps.length ≤ 80 := by omega
  clear he hl hla hp hpa hgood hs2 hs2o hq hz hs ho hk hn hfew hm
  go_enter Tryd.func11, Tryd.ntmps11
  go_wp2_with fail
  refine (filled_any _ ad HE.out).mono ?_
  rintro e w1 ⟨rfl, hb⟩
  have HB1 : Hid (Below w.heap.size w w1) := hb
  clear hb
  go_wp2_with fail
  refine (HF.out _).mono ?_
  rintro e w1' ⟨rfl, rfl⟩
  go_wp2_with fail
  refine (ownLines_at la lcap ls w _ HB1.out HL.out.1 (by omega) HL.out.2).mono ?_
  rintro e w2 ⟨a2, k2, rfl, l2, g2, m2, b2, B2⟩
  have HB2 : Hid (Below w.heap.size w w2) := B2
  have HL2 : Hid (Lies w2 a2 ls ∧ ls.length ≤ k2 ∧ k2 ≤ maxLen) := ⟨l2, g2, m2⟩
  clear l2 g2 m2 b2 B2
  go_wp2_with fail
  refine (ownPackets_from pa cap ps w _ HB2.out HP.out.1 (by omega) HP.out.2).mono ?_
  rintro e w3 ⟨a3, k3, rfl, l3, g3, m3, b3, B3⟩
  have HB3 : Hid (Below w.heap.size w w3) := B3
  have HL3 : Hid (Lies w3 a2 ls ∧ LiesP w3 a3 ps) := ⟨HL2.out.1.below b3, l3⟩
  clear l3 g3 m3 b3 B3
  go_wp2_with fail
  refine (shape_yes a2 k2 ls a3 k3 ps s _ ad (HE.out.below HB3.out) HL3.out.1 HOk.out.2.1 HL3.out.2 HOk.out.1 HOk.out.2.2).mono ?_
  rintro e w4 ⟨D, rfl, lD, b4⟩
  have HB4 : Hid (Below w.heap.size w w4) := HB3.out.trans (b4.mono HB3.out.size)
  rw [HQ.out] at lD ⊢
  rw [HQl.out]
  have HD : Hid (LiesP w4 (some ⟨D, 0, none⟩) q) := lD
  clear b4 lD
  go_wp2_with fail
  refine (ownLines_at la lcap ls w _ HB4.out HL.out.1 (by omega) HL.out.2).mono ?_
  rintro e w5 ⟨a5, k5, rfl, l5, g5, m5, b5, B5⟩
  have HB5 : Hid (Below w.heap.size w w5 ∧ Below w4.heap.size w4 w5) := ⟨B5, b5⟩
  have HL5 : Hid (Lies w5 a5 ls ∧ ls.length ≤ k5 ∧ k5 ≤ maxLen) := ⟨l5, g5, m5⟩
  clear l5 g5 m5 b5 B5
  have HCopy : Hid (∀ wx, Below w4.heap.size w4 wx → Calls Tryd.prog 40 #[.slice (some ⟨D, 0, none⟩) ps.length ps.length] wx fun e w' => ∃ a' cap', e = .returned (.slice a' q.length cap') ∧ LiesP w' a' q ∧ q.length ≤ cap' ∧ cap' ≤ maxLen ∧ Below wx.heap.size wx w' ∧ Below w4.heap.size w4 w') := fun wx hb => by
    have hq := HQl.out
    have := ownPackets_from (some ⟨D, 0, none⟩) ps.length q w4 wx hb HD.out (by omega) (fun e => by cases e)
    rwa [hq] at this ⊢
  go_wp2_with fail
  refine (HCopy.out _ HB5.out.2).mono ?_
  rintro e w6 ⟨a6, k6, rfl, l6, g6, m6, b6, B6⟩
  have HB6 : Hid (Below w.heap.size w w6 ∧ Below w4.heap.size w4 w6) := ⟨HB5.out.1.trans (b6.mono HB5.out.1.size), B6⟩
  have HL6 : Hid (Lies w6 a5 ls ∧ LiesP w6 a6 q ∧ q.length ≤ k6 ∧ k6 ≤ maxLen) := ⟨HL5.out.1.below b6, l6, g6, m6⟩
  clear l6 g6 m6 b6 B6
  have HFit : Hid (Calls Tryd.prog 41 #[.slice a5 ls.length k5, .slice a6 q.length k6] w6 fun e w' => e = .returned (.tuple #[.bool true, .nilIface]) ∧ Below w6.heap.size w6 w') := by
    have h1 := HG.out.okOut
    have h2 := HG.out.fits
    rw [HQ.out] at h1 h2
    have := fits_ok a5 k5 ls a6 k6 q w6 HL6.out.1 HOk.out.2.1 HL5.out.2.1 HL5.out.2.2 HL6.out.2.1 h1 HL6.out.2.2.1 HL6.out.2.2.2
    rwa [h2] at this
  go_wp2_with fail
  refine HFit.out.mono ?_
  rintro e w7 ⟨rfl, b7⟩
  have HB7 : Hid (Below w.heap.size w w7 ∧ Below w4.heap.size w4 w7) := ⟨HB6.out.1.trans (b7.mono HB6.out.1.size), HB6.out.2.trans (b7.mono HB6.out.2.size)⟩
  clear b7
  go_wp2_with fail
  obtain ⟨n, hn⟩ : ∃ n, ps.length = n := ⟨_, rfl⟩
  have HN : Hid (ps.length = n) := hn
  rw [hn] at hn80 ⊢
  clear hn
  go_loopw [9] (fun i wr => ∃ k : Nat, k ≤ n ∧ i = .int .i64 k ∧ Below w.heap.size w wr ∧ Below w4.heap.size w4 wr) (fun i _ => n - (intOf i).toNat)
  case atStart => exact ⟨0, Nat.zero_le _, rfl, HB7.out.1, HB7.out.2⟩
  case round =>
    obtain ⟨k, hk, rfl, hb, hb4⟩ := hrel
    have HBR : Hid (Below w.heap.size w wr ∧ Below w4.heap.size w4 wr) := ⟨hb, hb4⟩
    by_cases hkn : k < n
    · obtain ⟨⟨x, y, t⟩, hp, -⟩ := get_some ps k (by rw [HN.out]; exact hkn)
      obtain ⟨⟨x', y', t'⟩, hq, -⟩ := get_some q k (by rw [HQl.out, HN.out]; exact hkn)
      obtain ⟨b1, o1, rfl, -, hc1⟩ := HP.out.1.place (by rw [HN.out]; omega)
      obtain ⟨b2, o2, e2, -, hc2⟩ := HD.out.place (by rw [HQl.out, HN.out]; omega)
      cases e2
      have heach := HG.out.each k _ _ hp (by rw [HQ.out]; exact hq)
      simp only at heach
      obtain ⟨rfl, rfl, ht⟩ := heach
      have c1 : wr.cell? ⟨b1, o1 + k * 3, none⟩ = some (.int .i64 x') := cell_later hb (hc1 k _ hp).1
      have c2 : wr.cell? ⟨b1, o1 + k * 3 + 1, none⟩ = some (.int .i64 y') := cell_later hb (hc1 k _ hp).2.1
      have c3 : wr.cell? ⟨b1, o1 + k * 3 + 2, none⟩ = some (.int .i64 t) := cell_later hb (hc1 k _ hp).2.2
      have d1 : wr.cell? ⟨D, k * 3, none⟩ = some (.int .i64 x') := by have := cell_later hb4 (hc2 k _ hq).1; rwa [Nat.zero_add] at this
      have d2 : wr.cell? ⟨D, k * 3 + 1, none⟩ = some (.int .i64 y') := by have := cell_later hb4 (hc2 k _ hq).2.1; rwa [Nat.zero_add] at this
      have d3 : wr.cell? ⟨D, k * 3 + 2, none⟩ = some (.int .i64 t') := by have := cell_later hb4 (hc2 k _ hq).2.2; rwa [Nat.zero_add] at this
      have htd : decide (t' < t) = false := decide_eq_false (by omega)
      clear hc1 hc2 hp hq hb hb4
      go_wp2_with fail
      go_quiet (fail)
      go_wp2_with fail
      go_roundw
      case rel => exact ⟨k + 1, by omega, by go_num, below_drewN HBR.out.1 _, below_drewN HBR.out.2 _⟩
      case measure => simp [intOf]; omega
    · have HC2 : Hid (∀ wx, Below w4.heap.size w4 wx → Calls Tryd.prog 40 #[.slice (some ⟨D, 0, none⟩) n n] wx fun e w' => ∃ a' cap', e = .returned (.slice a' q.length cap') ∧ LiesP w' a' q ∧ q.length ≤ cap' ∧ cap' ≤ maxLen ∧ Below wx.heap.size wx w' ∧ Below w4.heap.size w4 w') := by
        have := HCopy.out
        rwa [HN.out] at this
      have HC3 : Hid (∀ wx, Below w.heap.size w wx → Calls Tryd.prog 40 #[.slice pa n cap] wx fun e w' => ∃ a' cap', e = .returned (.slice a' ps.length cap') ∧ LiesP w' a' ps ∧ ps.length ≤ cap' ∧ cap' ≤ maxLen ∧ Below wx.heap.size wx w' ∧ Below w.heap.size w w') := fun wx hb => by
        have hn := HN.out
        have := ownPackets_from pa cap ps w wx hb HP.out.1 (by omega) HP.out.2
        rwa [hn] at this ⊢
      clear hb hb4
      go_wp2_with fail
      refine (ownLines_at la lcap ls w _ HBR.out.1 HL.out.1 (by omega) HL.out.2).mono ?_
      rintro e w8 ⟨a8, k8, rfl, l8, g8, m8, b8, B8⟩
      have HB8 : Hid (Below w.heap.size w w8 ∧ Below w4.heap.size w4 w8) := ⟨B8, HBR.out.2.trans (b8.mono HBR.out.2.size)⟩
      have HL8 : Hid (Lies w8 a8 ls ∧ ls.length ≤ k8 ∧ k8 ≤ maxLen) := ⟨l8, g8, m8⟩
      clear l8 g8 m8 b8 B8
      go_wp2_with fail
      refine (HC2.out _ HB8.out.2).mono ?_
      rintro e w9 ⟨a9, k9, rfl, l9, g9, m9, b9, B9⟩
      have HB9 : Hid (Below w.heap.size w w9 ∧ Below w4.heap.size w4 w9) := ⟨HB8.out.1.trans (b9.mono HB8.out.1.size), B9⟩
      have HL9 : Hid (Lies w9 a8 ls ∧ LiesP w9 a9 q) := ⟨HL8.out.1.below b9, l9⟩
      clear l9 g9 m9 b9 B9
      have HShp : Hid (Calls Tryd.prog 39 #[.slice a8 ls.length k8, .slice a9 q.length k9] w9 fun e w' => ∃ D', e = .returned (.tuple #[.slice (some ⟨D', 0, none⟩) n n, .nilIface]) ∧ LiesP w' (some ⟨D', 0, none⟩) q ∧ Below w9.heap.size w9 w') := by
        have h1 := HG.out.okOut
        have h2 := HS2.out
        rw [HQ.out] at h1 h2
        refine (shape_yes a8 k8 ls a9 k9 q s2 w9 ad (HE.out.below HB9.out.1) HL9.out.1 HOk.out.2.1 HL9.out.2 h1 h2.1).mono ?_
        rintro e w' ⟨D', rfl, h3, h4⟩
        rw [h2.2] at h3 ⊢
        exact ⟨D', by rw [HQl.out, HN.out], h3, h4⟩
      go_wp2_with fail
      refine HShp.out.mono ?_
      rintro e wA ⟨D', rfl, lA, bA⟩
      have HBA : Hid (Below w.heap.size w wA ∧ Below w4.heap.size w4 wA) := ⟨HB9.out.1.trans (bA.mono HB9.out.1.size), HB9.out.2.trans (bA.mono HB9.out.2.size)⟩
      have HLA : Hid (LiesP wA (some ⟨D', 0, none⟩) q) := lA
      clear lA bA
      have HSame1 : Hid (Calls Tryd.prog 45 #[.slice (some ⟨D, 0, none⟩) n n, .slice (some ⟨D', 0, none⟩) n n] wA fun e w' => e = .returned (.bool true) ∧ Below wA.heap.size wA w') := by
        have hl := HQl.out
        have hn := HN.out
        have := samePkts_any (some ⟨D, 0, none⟩) (some ⟨D', 0, none⟩) n n q q wA (HD.out.below HBA.out.2) HLA.out rfl (by omega)
        rw [(sameB_iff q q).2 rfl, hl, hn] at this
        exact this
      go_wp2_with fail
      refine HSame1.out.mono ?_
      rintro e wB ⟨rfl, bB⟩
      have HBB : Hid (Below w.heap.size w wB ∧ Below w4.heap.size w4 wB) := ⟨HBA.out.1.trans (bB.mono HBA.out.1.size), HBA.out.2.trans (bB.mono HBA.out.2.size)⟩
      clear bB
      go_wp2_with fail
      refine (ownLines_at la lcap ls w _ HBB.out.1 HL.out.1 (by omega) HL.out.2).mono ?_
      rintro e wC ⟨aC, kC, rfl, lC, gC, mC, bC, BC⟩
      have HBC : Hid (Below w.heap.size w wC ∧ Below w4.heap.size w4 wC) := ⟨BC, HBB.out.2.trans (bC.mono HBB.out.2.size)⟩
      have HLC : Hid (Lies wC aC ls ∧ ls.length ≤ kC ∧ kC ≤ maxLen) := ⟨lC, gC, mC⟩
      clear lC gC mC bC BC
      go_wp2_with fail
      refine (HC3.out _ HBC.out.1).mono ?_
      rintro e wD ⟨aD, kD, rfl, lD, gD, mD, bD, BD⟩
      have HBD : Hid (Below w.heap.size w wD ∧ Below w4.heap.size w4 wD) := ⟨BD, HBC.out.2.trans (bD.mono HBC.out.2.size)⟩
      have HLD : Hid (Lies wD aC ls ∧ LiesP wD aD ps ∧ ps.length ≤ kD ∧ kD ≤ maxLen) := ⟨HLC.out.1.below bD, lD, gD, mD⟩
      clear lD gD mD bD BD
      have HFit2 : Hid (Calls Tryd.prog 41 #[.slice aC ls.length kC, .slice aD ps.length kD] wD fun e w' => e = .returned (.tuple #[.bool z, .nilIface]) ∧ Below wD.heap.size wD w') := by
        have := fits_ok aC kC ls aD kD ps wD HLD.out.1 HOk.out.2.1 HLC.out.2.1 HLC.out.2.2 HLD.out.2.1 HOk.out.1 HLD.out.2.2.1 HLD.out.2.2.2
        rwa [HZ.out.1] at this
      go_wp2_with fail
      refine HFit2.out.mono ?_
      rintro e wE ⟨rfl, bE⟩
      have HBE : Hid (Below w.heap.size w wE ∧ Below w4.heap.size w4 wE) := ⟨HBD.out.1.trans (bE.mono HBD.out.1.size), HBD.out.2.trans (bE.mono HBD.out.2.size)⟩
      clear bE
      have HSame2 : Hid (Calls Tryd.prog 45 #[.slice (some ⟨D, 0, none⟩) n n, .slice pa n cap] wE fun e w' => e = .returned (.bool z) ∧ Below wE.heap.size wE w') := by
        have hl := HQl.out
        have hn := HN.out
        have := samePkts_any (some ⟨D, 0, none⟩) pa n cap q ps wE (HD.out.below HBE.out.2) (HP.out.1.below HBE.out.1) hl (by omega)
        rw [HZ.out.2, hl, hn] at this
        exact this
      go_wp2_with fail
      refine HSame2.out.mono ?_
      rintro e wF ⟨rfl, bF⟩
      have HBF : Hid (Below w.heap.size w wF) := HBE.out.1.trans (bF.mono HBE.out.1.size)
      clear bF
      cases z
      all_goals
        go_wp2_with fail
        go_ret
        exact ⟨rfl, HBF.out⟩
end Go.Proofs.YtcldgpbimaoliaaDoor
