/- BucketShape: errors with their numbers; the ways on which something is amiss. -/
import Derived.Test.YtlknljbceppedaaDoorCShapeOf
import Derived.Test.YtlknljbceppedaaDoorCFitsOf
import Derived.Test.YtlknljbceppedaaDoorCActs1
import Derived.Test.YtlknljbceppedaaDoorCCurveAt
import Derived.Test.YtlknljbceppedaaDoorCPkts5
namespace Go.Proofs.YtlknljbceppedaaDoor
open Go.RowKit

/-- What is wrong with both, in the document's order. -/
def BothFault (ls : List (Int × Int)) (ps : List Pk) (c p : Int) : Prop := (PksFault ps c p ∧ 0 < c) ∨ (OkPks ps ∧ FaultIs ls c p ∧ 0 < c)

theorem checkBoth_is (la : Option Addr) (lcap : Nat) (ls : List (Int × Int)) (pa : Option Addr) (cap : Nat) (ps : List Pk) (w : World) (ad : Nat → Addr) (he : Errs9 w ad) (hl : Lies w la ls) (hlc : ls.length ≤ lcap) (hlm : lcap ≤ maxLen) (hp : LiesP w pa ps) (hcap : ps.length ≤ cap) (hm : cap ≤ maxLen) (c p : Int) (h : BothFault ls ps c p) :
    Calls Tryd.prog 69 #[.slice la ls.length lcap, .slice pa ps.length cap] w fun e w' => ∃ ty v, e = .returned (.iface ty v) ∧ (ErrIs w' (.iface ty v) c p ∧ Below w.heap.size w w') := by
  rcases h with ⟨h, hc⟩ | ⟨ho, h, hc⟩
  · refine checkBoth_perr (R := fun ty v w' => ErrIs w' (.iface ty v) c p ∧ Below w.heap.size w w') _ pa cap ps.length w ((pcheck_is pa cap ps w ad he hp hcap hm c p h).mono ?_)
    rintro e w' ⟨E, rfl, hE, hb⟩
    obtain ⟨ty, v, rfl⟩ := hE.some_ (by omega)
    exact ⟨ty, v, rfl, hE, hb⟩
  · refine checkBoth_lerr (R := fun ty v w' => ErrIs w' (.iface ty v) c p ∧ Below w.heap.size w w') la lcap ls.length pa cap ps w hp ho (fun w' hb => ?_)
    refine (check_is la lcap ls w' ad (he.below hb) (hl.below hb) hlc hlm c p h).mono ?_
    rintro e w'' ⟨E, rfl, hE, hb'⟩
    obtain ⟨ty, v, rfl⟩ := hE.some_ (by omega)
    exact ⟨ty, v, rfl, hE, hb.trans (hb'.mono hb.size)⟩

set_option maxRecDepth 100000 in
set_option maxHeartbeats 4000000 in
theorem bshape_fault (la : Option Addr) (lcap : Nat) (ls : List (Int × Int)) (pa : Option Addr) (cap : Nat) (ps : List Pk) (w : World) (ad : Nat → Addr) (he : Errs9 w ad) (hl : Lies w la ls) (hlc : ls.length ≤ lcap) (hlm : lcap ≤ maxLen) (hla : la = none → ls = [] ∧ lcap = 0) (h30 : ls.length ≤ 30) (hp : LiesP w pa ps) (hcap : ps.length ≤ cap) (hm : cap ≤ maxLen) (hpa : pa = none → ps = [] ∧ cap = 0) (hn : ps.length ≤ 60 ∨ ps.length = 301)
    (c0 p0 c p : Int) (hf : PksFault ps c0 p0) (hcase : (c0 = c ∧ p0 = p ∧ 0 < c) ∨ (c0 = 0 ∧ p0 = -1 ∧ OkPks ps ∧ FaultIs ls c p ∧ 0 < c)) :
    Calls Tryd.prog 10 #[.slice la ls.length lcap, .slice pa ps.length cap] w fun e w' => e = .returned (.bool true) ∧ Below w.heap.size w w' := by
  have HE : Hid (Errs9 w ad) := he
  have HL : Hid (Lies w la ls ∧ (la = none → ls = [] ∧ lcap = 0) ∧ ls.length ≤ lcap ∧ lcap ≤ maxLen) := ⟨hl, hla, hlc, hlm⟩
  have HP : Hid (LiesP w pa ps ∧ (pa = none → ps = [] ∧ cap = 0) ∧ ps.length ≤ cap ∧ cap ≤ maxLen) := ⟨hp, hpa, hcap, hm⟩
  have HBoth : Hid (BothFault ls ps c p) := by
    rcases hcase with ⟨rfl, rfl, h⟩ | ⟨-, -, h1, h2, h3⟩
    · exact .inl ⟨hf, h⟩
    · exact .inr ⟨h1, h2, h3⟩
  have HPF : Hid (PksFault ps c0 p0) := hf
  have hc : 0 < c := by rcases hcase with ⟨_, _, h⟩ | ⟨_, _, _, _, h⟩ <;> exact h
  have HF : Hid (∀ w', Calls Tryd.prog 38 #[.slice pa ps.length cap, .int .i64 60] w' fun e w'' => e = .returned (.bool true) ∧ w'' = w') := fun w' => fitPkts_yes pa ps.length cap 60 w' (Nat.le_trans hcap hm) (by omega)
  have hlen : ps.length ≤ 1000 := by omega
  have HCase := (show Hid ((c0 = c ∧ p0 = p ∧ 0 < c) ∨ (c0 = 0 ∧ p0 = -1 ∧ OkPks ps ∧ FaultIs ls c p ∧ 0 < c)) from hcase)
  clear he hl hla hlc hlm hp hpa hcap hm hf hcase hn
  go_enter Tryd.func10, Tryd.ntmps10
  go_wp2_with fail
  refine (filled_any _ ad HE.out.four).mono ?_
  rintro e w1 ⟨rfl, hb⟩
  have HB1 : Hid (Below w.heap.size w w1) := hb
  clear hb
  go_wp2_with fail
  refine (HF.out _).mono ?_
  rintro e w1' ⟨rfl, rfl⟩
  go_wp2_with fail
  refine (ownLines_at la lcap ls w _ HB1.out HL.out.1 (by omega) HL.out.2.1).mono ?_
  rintro e w2 ⟨a2, k2, rfl, l2, g2, m2, b2, B2⟩
  have HB2 : Hid (Below w.heap.size w w2) := B2
  have HL2 : Hid (Lies w2 a2 ls ∧ ls.length ≤ k2 ∧ k2 ≤ maxLen) := ⟨l2, g2, m2⟩
  clear l2 g2 m2 b2 B2
  go_wp2_with fail
  refine (ownPackets_from pa cap ps w _ HB2.out HP.out.1 hlen HP.out.2.1).mono ?_
  rintro e w3 ⟨a3, k3, rfl, l3, g3, m3, b3, B3⟩
  have HB3 : Hid (Below w.heap.size w w3) := B3
  have HL3 : Hid (Lies w3 a2 ls ∧ LiesP w3 a3 ps ∧ ps.length ≤ k3 ∧ k3 ≤ maxLen) := ⟨HL2.out.1.below b3, l3, g3, m3⟩
  clear l3 g3 m3 b3 B3
  go_wp2_with fail
  refine (shape_err (R := fun ty v w' => ErrIs w' (.iface ty v) c p ∧ Below w3.heap.size w3 w') a2 k2 ls.length a3 k3 ps.length _ (checkBoth_is a2 k2 ls a3 k3 ps _ ad (HE.out.below HB3.out) HL3.out.1 HL2.out.2.1 HL2.out.2.2 HL3.out.2.1 HL3.out.2.2.1 HL3.out.2.2.2 c p HBoth.out)).mono ?_
  rintro e w4 ⟨ty4, v4, rfl, x4, b4⟩
  have HB4 : Hid (Below w.heap.size w w4) := HB3.out.trans (b4.mono HB3.out.size)
  have HX4 : Hid (ErrIs w4 (.iface ty4 v4) c p) := x4
  clear x4 b4
  go_wp2_with fail
  refine (ownLines_at la lcap ls w _ HB4.out HL.out.1 (by omega) HL.out.2.1).mono ?_
  rintro e w5 ⟨a5, k5, rfl, l5, g5, m5, b5, B5⟩
  have HB5 : Hid (Below w.heap.size w w5 ∧ Below w4.heap.size w4 w5) := ⟨B5, b5⟩
  have HL5 : Hid (Lies w5 a5 ls ∧ ls.length ≤ k5 ∧ k5 ≤ maxLen) := ⟨l5, g5, m5⟩
  clear l5 g5 m5 b5 B5
  go_wp2_with fail
  refine (ownPackets_from pa cap ps w _ HB5.out.1 HP.out.1 hlen HP.out.2.1).mono ?_
  rintro e w6 ⟨a6, k6, rfl, l6, g6, m6, b6, B6⟩
  have HB6 : Hid (Below w.heap.size w w6 ∧ Below w4.heap.size w4 w6) := ⟨B6, HB5.out.2.trans (b6.mono HB5.out.2.size)⟩
  have HL6 : Hid (Lies w6 a5 ls ∧ LiesP w6 a6 ps ∧ ps.length ≤ k6 ∧ k6 ≤ maxLen) := ⟨HL5.out.1.below b6, l6, g6, m6⟩
  clear l6 g6 m6 b6 B6
  go_wp2_with fail
  refine (fits_err (R := fun ty v w' => ErrIs w' (.iface ty v) c p ∧ Below w6.heap.size w6 w') a5 k5 ls.length a6 k6 ps.length _ (checkBoth_is a5 k5 ls a6 k6 ps _ ad (HE.out.below HB6.out.1) HL6.out.1 HL5.out.2.1 HL5.out.2.2 HL6.out.2.1 HL6.out.2.2.1 HL6.out.2.2.2 c p HBoth.out)).mono ?_
  rintro e w7 ⟨ty7, v7, rfl, x7, b7⟩
  have HB7 : Hid (Below w.heap.size w w7) := HB6.out.1.trans (b7.mono HB6.out.1.size)
  have HX7 : Hid (ErrIs w7 (.iface ty4 v4) c p ∧ ErrIs w7 (.iface ty7 v7) c p) := ⟨HX4.out.below (HB6.out.2.trans (b7.mono HB6.out.2.size)), x7⟩
  clear x7 b7
  go_wp2_with fail
  refine (pfault_is pa cap ps _ (HP.out.1.below HB7.out) HP.out.2.2.1 HP.out.2.2.2 c0 p0 HPF.out).mono ?_
  rintro e w8 ⟨rfl, b8⟩
  have HB8 : Hid (Below w.heap.size w w8) := HB7.out.trans (b8.mono HB7.out.size)
  have HX8 : Hid (ErrIs w8 (.iface ty4 v4) c p ∧ ErrIs w8 (.iface ty7 v7) c p) := ⟨HX7.out.1.below b8, HX7.out.2.below b8⟩
  clear b8
  have h29 := two_new w8 (.int .i64 c0) (.int .i64 p0) 40
  have hb89 : Below w8.heap.size w8 (w8.alloc (.cells #[.int .i64 c0, .int .i64 p0] 40)) := (Below.refl _ _).alloc (Nat.le_refl _) _
  go_upto_region 7 with fail
  generalize w8.alloc (.cells #[.int .i64 c0, .int .i64 p0] 40) = w9 at *
  have HB9 : Hid (Below w.heap.size w w9) := HB8.out.trans (hb89.mono HB8.out.size)
  have HX9 : Hid (ErrIs w9 (.iface ty4 v4) c p ∧ ErrIs w9 (.iface ty7 v7) c p) := ⟨HX8.out.1.below hb89, HX8.out.2.below hb89⟩
  have H29 : Hid (Two w8 w9 (.int .i64 c0) (.int .i64 p0)) := h29
  have HY9 : Hid (Below w8.heap.size w8 w9) := hb89
  have e0 := h29.c0
  have e1 := h29.c1
  clear h29 hb89
  go_cut [50] (fun s50 wx => s50 = .bool false ∧ Below w9.heap.size w9 wx)
  case first =>
    go_region_with (first
      | (go_at_call 40; go_must (refine (ownPackets_from pa cap ps w _ ?_ HP.out.1 hlen HP.out.2.1).mono ?_; exact HB9.out.drew; rintro e wA ⟨aA, kA, rfl, lA, gA, mA, bA, BA⟩; have HBA : Hid (Below w9.heap.size w9 wA ∧ Below w.heap.size w wA) := ⟨below_undr bA, BA⟩; have eA0 := cell_later HBA.out.1 e0; have eA1 := cell_later HBA.out.1 e1; have HLA : Hid (LiesP wA aA ps ∧ ps.length ≤ kA ∧ kA ≤ maxLen) := ⟨lA, gA, mA⟩; clear lA gA mA bA BA))
      | (go_at_call 43; go_must (refine (pcheck_is aA kA ps _ ad (HE.out.below HBA.out.2) HLA.out.1 HLA.out.2.1 HLA.out.2.2 c0 p0 HPF.out).mono ?_; rintro e wB ⟨EB, rfl, xB, bB⟩; have HBB : Hid (Below w9.heap.size w9 wB) := HBA.out.1.trans (bB.mono HBA.out.1.size); have eB0 := cell_later HBB.out e0; have eB1 := cell_later HBB.out e1; have HXB : Hid (ErrIs wB EB c0 p0) := xB; clear xB bB))
      | (go_at_call 23; go_must (refine (faulted_yes EB c0 p0 _ HXB.out.code).mono ?_; rintro e wD ⟨rfl, bD⟩; have HBD : Hid (Below w9.heap.size w9 wD) := HBB.out.trans (bD.mono HBB.out.size); clear bD))
      | fail)
    all_goals (go_wp2_with fail; go_meet; exact ⟨rfl, HBD.out⟩)
  case rest =>
  obtain ⟨rfl, hbc⟩ := hcut
  have HXC : Hid (ErrIs wc (.iface ty4 v4) c p ∧ ErrIs wc (.iface ty7 v7) c p) := ⟨HX9.out.1.below hbc, HX9.out.2.below hbc⟩
  have HWC : Hid (Below w.heap.size w wc) := HB9.out.trans (hbc.mono HB9.out.size)
  have H2C : Hid (Two w8 wc (.int .i64 c0) (.int .i64 p0)) := H29.out.later hbc
  have HYC : Hid (Below w8.heap.size w8 wc) := HY9.out.trans (hbc.mono HY9.out.size)
  have hz : w.heap.size ≤ w8.heap.size := HB8.out.size
  clear hbc e0 e1
  rcases HCase.out with ⟨rfl, rfl, -⟩ | ⟨rfl, rfl, -, hfl, -⟩
  · obtain ⟨q0, q1, f0, f1⟩ := H2C.out
    have hc1 : (c0 == 0) = false := by simp; omega
    have hcd : decide (0 < c0) = true := decide_eq_true hc
    go_wp2_with fail
    refine (faulted_yes _ c0 p0 _ HXC.out.1.code).mono ?_
    rintro e wD ⟨rfl, bD⟩
    have HWD : Hid (Below w.heap.size w wD) := HWC.out.trans (bD.mono HWC.out.size)
    have HXD : Hid (ErrIs wD (.iface ty7 v7) c0 p0) := HXC.out.2.below bD
    have j0 := cell_later bD q0
    have j1 := cell_later bD q1
    clear bD q0 q1 f0 f1
    go_wp2_with fail
    refine (faulted_yes _ c0 p0 _ HXD.out.code).mono ?_
    rintro e wE ⟨rfl, bE⟩
    have HWE : Hid (Below w.heap.size w wE) := HWD.out.trans (bE.mono HWD.out.size)
    clear bE
    go_wp2_with fail
    go_ret
    exact ⟨rfl, HWE.out⟩
  · obtain ⟨q0, q1, f0, f1⟩ := H2C.out
    have HFl : Hid (FaultIs ls c p) := hfl
    clear hfl
    go_wp2_with fail
    refine (curveFault_is la lcap ls _ (HL.out.1.below HWC.out) HL.out.2.2.1 HL.out.2.2.2 c p HFl.out).mono ?_
    rintro e wF ⟨rfl, bF⟩
    have HWF : Hid (Below w.heap.size w wF) := HWC.out.trans (bF.mono HWC.out.size)
    have HXF : Hid (ErrIs wF (.iface ty4 v4) c p ∧ ErrIs wF (.iface ty7 v7) c p) := ⟨HXC.out.1.below bF, HXC.out.2.below bF⟩
    clear q0 q1 f0 f1
    have h2F := H2C.out.later bF
    have HG : Hid (Below w8.heap.size w8 ((wF.setCell ⟨w8.heap.size, 0, none⟩ (.int .i64 c)).setCell ⟨w8.heap.size, 1, none⟩ (.int .i64 p))) :=
      ((HYC.out.trans (bF.mono HYC.out.size)).setCell (Nat.le_refl _) _).setCell (Nat.le_refl _) _
    have HGw : Hid (Below w.heap.size w ((wF.setCell ⟨w8.heap.size, 0, none⟩ (.int .i64 c)).setCell ⟨w8.heap.size, 1, none⟩ (.int .i64 p))) := (HWF.out.setCell hz _).setCell hz _
    have HC2 : Hid (((wF.setCell ⟨w8.heap.size, 0, none⟩ (.int .i64 c)).setCell ⟨w8.heap.size, 1, none⟩ (.int .i64 p)).cell? ⟨w8.heap.size, 0, none⟩ = some (.int .i64 c) ∧ ((wF.setCell ⟨w8.heap.size, 0, none⟩ (.int .i64 c)).setCell ⟨w8.heap.size, 1, none⟩ (.int .i64 p)).cell? ⟨w8.heap.size, 1, none⟩ = some (.int .i64 p)) := by
      constructor
      · rw [World.cell?_setCell_other _ _ _ _ (by simp)]
        exact World.cell?_setCell_same _ _ _ h2F.c0
      · exact World.cell?_setCell_same (u := .int .i64 (-1)) _ _ _ (by rw [World.cell?_setCell_other _ _ _ _ (by simp)]; exact h2F.c1)
    obtain ⟨q0, q1, f0, f1⟩ := h2F
    clear bF
    have hcd : decide (0 < c) = true := decide_eq_true hc
    go_wp2_with fail
    refine (faulted_yes _ c p _ (HX8.out.1.below HG.out).code).mono ?_
    rintro e wD ⟨rfl, bD⟩
    have HWD : Hid (Below w.heap.size w wD) := HGw.out.trans (bD.mono HGw.out.size)
    have HXD : Hid (ErrIs wD (.iface ty7 v7) c p) := HX8.out.2.below (HG.out.trans (bD.mono HG.out.size))
    have j0 := cell_later bD HC2.out.1
    have j1 := cell_later bD HC2.out.2
    clear bD q0 q1 f0 f1
    go_wp2_with fail
    refine (faulted_yes _ c p _ HXD.out.code).mono ?_
    rintro e wE ⟨rfl, bE⟩
    have HWE : Hid (Below w.heap.size w wE) := HWD.out.trans (bE.mono HWD.out.size)
    clear bE
    go_wp2_with fail
    go_ret
    exact ⟨rfl, HWE.out⟩
end Go.Proofs.YtlknljbceppedaaDoor
