/- BucketShape: the ways on which nothing is amiss. -/
import Derived.Test.YtlknljbceppedaaDoorCShapeLaw2
namespace Go.Proofs.YtlknljbceppedaaDoor
open Go.RowKit

/-- Only one packet is the first that never leaves. -/
theorem never_one {ls : List (Int × Int)} {ps : List Pk} {j j' : Nat} {q q' : Pk} {s s' : Sh} (h1 : ps[j]? = some q) (h2 : shape ls (ps.take j) = some s) (h3 : shStep s q = none) (h1' : ps[j']? = some q') (h2' : shape ls (ps.take j') = some s') (h3' : shStep s' q' = none) : j = j' := by
  have key : ∀ (a b : Nat) (p : Pk) (u v : Sh), a < b → ps[a]? = some p → shape ls (ps.take a) = some u → shStep u p = none → shape ls (ps.take b) = some v → False := fun a b p u v hab e1 e2 e3 e4 => by
    have := shape_stuck (ls := ls) (ps := ps.take b) (j := a) (p := p) (s := u) (by rw [List.getElem?_take_of_lt hab]; exact e1) (by rw [List.take_take, Nat.min_eq_left (by omega)]; exact e2) e3
    rw [this] at e4; cases e4
  rcases Nat.lt_trichotomy j j' with h | h | h
  · exact (key j j' q s s' h h1 h2 h3 h2').elim
  · exact h
  · exact (key j' j q' s' s h h1' h2' h3' h2).elim

theorem shape_never (la : Option Addr) (lcap : Nat) (ls : List (Int × Int)) (pa : Option Addr) (cap : Nat) (ps : List Pk) (w : World) (ad : Nat → Addr) (he : Errs9 w ad) (hl : Lies w la ls) (hk : okCurve ls) (hp : LiesP w pa ps) (ho : OkPks ps) (j : Nat) (q : Pk) (s : Sh) (h1 : ps[j]? = some q) (h2 : shape ls (ps.take j) = some s) (h3 : shStep s q = none) :
    Calls Tryd.prog 39 #[.slice la ls.length lcap, .slice pa ps.length cap] w fun e w' => ∃ ty v, e = .returned (.tuple #[.slice none 0 0, .iface ty v]) ∧ ErrIs w' (.iface ty v) 4 j ∧ Below w.heap.size w w' := by
  refine (shape_any la lcap ls pa cap ps w ad he.four hl hk hp ho).mono ?_
  rintro e w' ⟨hb, ⟨s', D, e1, -⟩ | ⟨j', q', s', F, e1, e2, e3, rfl, c0, c1⟩⟩
  · rw [shape_stuck h1 h2 h3] at e1; cases e1
  · obtain rfl := never_one h1 h2 h3 e1 e2 e3
    exact ⟨_, _, rfl, ⟨codeIs_fault (he.below hb) 3 (by decide) j F c0 c1, (fun h => by omega), fun _ => ⟨_, _, rfl⟩⟩, hb⟩
theorem shapeOf_never (la : Option Addr) (lcap : Nat) (ls : List (Int × Int)) (pa : Option Addr) (cap : Nat) (ps : List Pk) (w : World) (hl : Lies w la ls) (hk : okCurve ls) (hp : LiesP w pa ps) (ho : OkPks ps) (j : Nat) (q : Pk) (s : Sh) (h1 : ps[j]? = some q) (h2 : shape ls (ps.take j) = some s) (h3 : shStep s q = none) :
    Calls Tryd.prog 44 #[.slice la ls.length lcap, .slice pa ps.length cap] w fun e w' => e = .returned (.tuple #[.slice none 0 0, .int .i64 j]) ∧ Below w.heap.size w w' := by
  refine (shapeOf_any la lcap ls pa cap ps w hl hk hp ho).mono ?_
  rintro e w' ⟨hb, ⟨s', v, e1, -⟩ | ⟨j', q', s', e1, e2, e3, rfl⟩⟩
  · rw [shape_stuck h1 h2 h3] at e1; cases e1
  · obtain rfl := never_one h1 h2 h3 e1 e2 e3
    exact ⟨rfl, hb⟩
theorem shapeOf_yes (la : Option Addr) (lcap : Nat) (ls : List (Int × Int)) (pa : Option Addr) (cap : Nat) (ps : List Pk) (w : World) (hl : Lies w la ls) (hk : okCurve ls) (hp : LiesP w pa ps) (ho : OkPks ps) (s : Sh) (hs : shape ls ps = some s) :
    Calls Tryd.prog 44 #[.slice la ls.length lcap, .slice pa ps.length cap] w fun e w' => ∃ a' cap', e = .returned (.tuple #[.slice a' s.out.length cap', .int .i64 (-1)]) ∧ LiesP w' a' s.out ∧ Below w.heap.size w w' := by
  refine (shapeOf_any la lcap ls pa cap ps w hl hk hp ho).mono ?_
  rintro e w' ⟨hb, ⟨s', v, e1, rfl, how⟩ | ⟨j', q', s', e1, e2, e3, -⟩⟩
  · obtain rfl : s = s' := Option.some.inj (hs.symm.trans e1)
    obtain ⟨a', cap', rfl, -, -, h, -, -⟩ := OwnP.open how
    exact ⟨a', cap', rfl, h, hb⟩
  · rw [shape_stuck e1 e2 e3] at hs; cases hs

set_option maxRecDepth 100000 in
set_option maxHeartbeats 1000000 in
theorem bshape_long (la : Option Addr) (m lcap : Nat) (pa : Option Addr) (n cap : Nat) (w : World) (ad : Nat → Addr) (he : Errs4 w ad) (hm : m ≤ maxLen) (h : 30 < m) :
    Calls Tryd.prog 10 #[.slice la m lcap, .slice pa n cap] w fun e w' => e = .returned (.bool true) ∧ Below w.heap.size w w' := by
  unfold maxLen at hm
  have HE : Hid (Errs4 w ad) := he
  clear he
  go_enter Tryd.func10, Tryd.ntmps10
  go_wp2_with fail
  refine (filled_any _ ad HE.out).mono ?_
  rintro e w1 ⟨rfl, hb⟩
  have HB : Hid (Below w.heap.size w w1) := hb
  clear hb
  go_wp2_with fail
  go_ret
  exact ⟨rfl, HB.out⟩
set_option maxRecDepth 100000 in
set_option maxHeartbeats 1000000 in
theorem bshape_many (la : Option Addr) (m lcap : Nat) (pa : Option Addr) (n cap : Nat) (w : World) (ad : Nat → Addr) (he : Errs4 w ad) (h : m ≤ 30) (h1 : ¬ (n : Int) ≤ 60) (h2 : n ≠ 301) :
    Calls Tryd.prog 10 #[.slice la m lcap, .slice pa n cap] w fun e w' => e = .returned (.bool true) ∧ Below w.heap.size w w' := by
  have HE : Hid (Errs4 w ad) := he
  have HF : Hid (∀ w', Calls Tryd.prog 38 #[.slice pa n cap, .int .i64 60] w' fun e w'' => e = .returned (.bool false) ∧ w'' = w') := fun w' => fitPkts_no pa n cap 60 w' h1 h2
  clear he h1 h2
  go_enter Tryd.func10, Tryd.ntmps10
  go_wp2_with fail
  refine (filled_any _ ad HE.out).mono ?_
  rintro e w1 ⟨rfl, hb⟩
  have HB : Hid (Below w.heap.size w w1) := hb
  clear hb
  go_wp2_with fail
  refine (HF.out _).mono ?_
  rintro e w2 ⟨rfl, rfl⟩
  go_wp2_with fail
  go_ret
  exact ⟨rfl, HB.out⟩


set_option maxRecDepth 100000 in
set_option maxHeartbeats 4000000 in
theorem bshape_never (la : Option Addr) (lcap : Nat) (ls : List (Int × Int)) (pa : Option Addr) (cap : Nat) (ps : List Pk) (w : World) (ad : Nat → Addr) (he : Errs9 w ad) (hl : Lies w la ls) (hlc : ls.length ≤ lcap) (hlm : lcap ≤ maxLen) (hla : la = none → ls = [] ∧ lcap = 0) (h30 : ls.length ≤ 30) (hp : LiesP w pa ps) (hcap : ps.length ≤ cap) (hm : cap ≤ maxLen) (hpa : pa = none → ps = [] ∧ cap = 0) (hn : ps.length ≤ 60 ∨ ps.length = 301)
    (ho : OkPks ps) (hk : okCurve ls) (j : Nat) (q : Pk) (s : Sh) (h1 : ps[j]? = some q) (h2 : shape ls (ps.take j) = some s) (h3 : shStep s q = none) :
    Calls Tryd.prog 10 #[.slice la ls.length lcap, .slice pa ps.length cap] w fun e w' => e = .returned (.bool true) ∧ Below w.heap.size w w' := by
  have HE : Hid (Errs9 w ad) := he
  have HL : Hid (Lies w la ls ∧ (la = none → ls = [] ∧ lcap = 0) ∧ ls.length ≤ lcap ∧ lcap ≤ maxLen) := ⟨hl, hla, hlc, hlm⟩
  have HP : Hid (LiesP w pa ps ∧ (pa = none → ps = [] ∧ cap = 0) ∧ ps.length ≤ cap ∧ cap ≤ maxLen) := ⟨hp, hpa, hcap, hm⟩
  have HPF : Hid (PksFault ps 0 (-1)) := .inr (.inr ⟨ho, rfl, rfl⟩)
  have HFl : Hid (FaultIs ls 0 (-1)) := .inr (.inr ⟨hk, rfl, rfl⟩)
  have HOk : Hid (OkPks ps ∧ okCurve ls) := ⟨ho, hk⟩
  have HJ : Hid (ps[j]? = some q ∧ shape ls (ps.take j) = some s ∧ shStep s q = none) := ⟨h1, h2, h3⟩
  clear h1 h2 h3
  have HF : Hid (∀ w', Calls Tryd.prog 38 #[.slice pa ps.length cap, .int .i64 60] w' fun e w'' => e = .returned (.bool true) ∧ w'' = w') := fun w' => fitPkts_yes pa ps.length cap 60 w' (Nat.le_trans hcap hm) (by omega)
  have hlen : ps.length ≤ 1000 := by omega
  obtain ⟨z, hz'⟩ : ∃ z, fitsB ls ps = z := ⟨_, rfl⟩
  have HZ : Hid (fitsB ls ps = z) := hz'
  clear he hl hla hlc hlm hp hpa hcap hm hn ho hk hz'
  go_enter Tryd.func10, Tryd.ntmps10
  go_wp2_with fail
  refine (filled_any _ ad HE.out.four).mono ?_
  rintro e w1 ⟨rfl, hb⟩
  have HB1 : Hid (Below w.heap.size w w1) := hb
  clear hb
  go_wp2_with fail
  refine (HF.out _).mono ?_
  rintro e w1' ⟨rfl, rfl⟩
  go_wp2_with fail
  refine (ownLines_at la lcap ls w _ HB1.out HL.out.1 (by omega) HL.out.2.1).mono ?_
  rintro e w2 ⟨a2, k2, rfl, l2, g2, m2, b2, B2⟩
  have HB2 : Hid (Below w.heap.size w w2) := B2
  have HL2 : Hid (Lies w2 a2 ls ∧ ls.length ≤ k2 ∧ k2 ≤ maxLen) := ⟨l2, g2, m2⟩
  clear l2 g2 m2 b2 B2
  go_wp2_with fail
  refine (ownPackets_from pa cap ps w _ HB2.out HP.out.1 hlen HP.out.2.1).mono ?_
  rintro e w3 ⟨a3, k3, rfl, l3, g3, m3, b3, B3⟩
  have HB3 : Hid (Below w.heap.size w w3) := B3
  have HL3 : Hid (Lies w3 a2 ls ∧ LiesP w3 a3 ps ∧ ps.length ≤ k3 ∧ k3 ≤ maxLen) := ⟨HL2.out.1.below b3, l3, g3, m3⟩
  clear l3 g3 m3 b3 B3
  go_wp2_with fail
  refine (shape_never a2 k2 ls a3 k3 ps _ ad (HE.out.below HB3.out) HL3.out.1 HOk.out.2 HL3.out.2.1 HOk.out.1 j q s HJ.out.1 HJ.out.2.1 HJ.out.2.2).mono ?_
  rintro e w4 ⟨ty4, v4, rfl, x4, b4⟩
  have HB4 : Hid (Below w.heap.size w w4) := HB3.out.trans (b4.mono HB3.out.size)
  have HX4 : Hid (ErrIs w4 (.iface ty4 v4) 4 j) := x4
  clear x4 b4
  go_wp2_with fail
  refine (ownLines_at la lcap ls w _ HB4.out HL.out.1 (by omega) HL.out.2.1).mono ?_
  rintro e w5 ⟨a5, k5, rfl, l5, g5, m5, b5, B5⟩
  have HB5 : Hid (Below w.heap.size w w5 ∧ Below w4.heap.size w4 w5) := ⟨B5, b5⟩
  have HL5 : Hid (Lies w5 a5 ls ∧ ls.length ≤ k5 ∧ k5 ≤ maxLen) := ⟨l5, g5, m5⟩
  clear l5 g5 m5 b5 B5
  go_wp2_with fail
  refine (ownPackets_from pa cap ps w _ HB5.out.1 HP.out.1 hlen HP.out.2.1).mono ?_
  rintro e w6 ⟨a6, k6, rfl, l6, g6, m6, b6, B6⟩
  have HB6 : Hid (Below w.heap.size w w6 ∧ Below w4.heap.size w4 w6) := ⟨B6, HB5.out.2.trans (b6.mono HB5.out.2.size)⟩
  have HL6 : Hid (Lies w6 a5 ls ∧ LiesP w6 a6 ps ∧ ps.length ≤ k6 ∧ k6 ≤ maxLen) := ⟨HL5.out.1.below b6, l6, g6, m6⟩
  clear l6 g6 m6 b6 B6
  go_wp2_with fail
  have HFit : Hid (Calls Tryd.prog 41 #[.slice a5 ls.length k5, .slice a6 ps.length k6] w6 fun e w' => e = .returned (.tuple #[.bool z, .nilIface]) ∧ Below w6.heap.size w6 w') := by
    have := fits_ok a5 k5 ls a6 k6 ps w6 HL6.out.1 HOk.out.2 HL5.out.2.1 HL5.out.2.2 HL6.out.2.1 HOk.out.1 HL6.out.2.2.1 HL6.out.2.2.2
    rwa [HZ.out] at this
  refine HFit.out.mono ?_
  rintro e w7 ⟨rfl, b7⟩
  have HB7 : Hid (Below w.heap.size w w7 ∧ Below w4.heap.size w4 w7) := ⟨HB6.out.1.trans (b7.mono HB6.out.1.size), HB6.out.2.trans (b7.mono HB6.out.2.size)⟩
  have HX7 : Hid (ErrIs w7 (.iface ty4 v4) 4 j) := HX4.out.below HB7.out.2
  clear b7
  go_wp2_with fail
  refine (pfault_is pa cap ps _ (HP.out.1.below HB7.out.1) HP.out.2.2.1 HP.out.2.2.2 0 (-1) HPF.out).mono ?_
  rintro e w8 ⟨rfl, b8⟩
  have HB8 : Hid (Below w.heap.size w w8) := HB7.out.1.trans (b8.mono HB7.out.1.size)
  have HX8 : Hid (ErrIs w8 (.iface ty4 v4) 4 j) := HX7.out.below b8
  clear b8
  have h29 := two_new w8 (.int .i64 0) (.int .i64 (-1)) 40
  have hb89 : Below w8.heap.size w8 (w8.alloc (.cells #[.int .i64 0, .int .i64 (-1)] 40)) := (Below.refl _ _).alloc (Nat.le_refl _) _
  go_upto_region 7 with fail
  generalize w8.alloc (.cells #[.int .i64 0, .int .i64 (-1)] 40) = w9 at *
  have HB9 : Hid (Below w.heap.size w w9) := HB8.out.trans (hb89.mono HB8.out.size)
  have H29 : Hid (Two w8 w9 (.int .i64 0) (.int .i64 (-1))) := h29
  have HY9 : Hid (Below w8.heap.size w8 w9) := hb89
  have e0 := h29.c0
  have e1 := h29.c1
  clear h29 hb89
  go_cut [50] (fun s50 wx => s50 = .bool false ∧ Below w9.heap.size w9 wx)
  case first =>
    go_region_with (first
      | (go_at_call 40; go_must (refine (ownPackets_from pa cap ps w _ ?_ HP.out.1 hlen HP.out.2.1).mono ?_; exact HB9.out.drew; rintro e wA ⟨aA, kA, rfl, lA, gA, mA, bA, BA⟩; have HBA : Hid (Below w9.heap.size w9 wA ∧ Below w.heap.size w wA) := ⟨below_undr bA, BA⟩; have eA0 := cell_later HBA.out.1 e0; have eA1 := cell_later HBA.out.1 e1; have HLA : Hid (LiesP wA aA ps ∧ ps.length ≤ kA ∧ kA ≤ maxLen) := ⟨lA, gA, mA⟩; clear lA gA mA bA BA))
      | (go_at_call 43; go_must (refine (pcheck_is aA kA ps _ ad (HE.out.below HBA.out.2) HLA.out.1 HLA.out.2.1 HLA.out.2.2 0 (-1) HPF.out).mono ?_; rintro e wB ⟨EB, rfl, xB, bB⟩; have HBB : Hid (Below w9.heap.size w9 wB) := HBA.out.1.trans (bB.mono HBA.out.1.size); have eB0 := cell_later HBB.out e0; have eB1 := cell_later HBB.out e1; have HXB : Hid (ErrIs wB EB 0 (-1)) := xB; clear xB bB))
      | (go_at_call 23; go_must (refine (faulted_yes EB 0 (-1) _ HXB.out.code).mono ?_; rintro e wD ⟨rfl, bD⟩; have HBD : Hid (Below w9.heap.size w9 wD) := HBB.out.trans (bD.mono HBB.out.size); clear bD))
      | fail)
    all_goals (go_wp2_with fail; go_meet; exact ⟨rfl, HBD.out⟩)
  case rest =>
  obtain ⟨rfl, hbc⟩ := hcut
  have HWC : Hid (Below w.heap.size w wc) := HB9.out.trans (hbc.mono HB9.out.size)
  have H2C : Hid (Two w8 wc (.int .i64 0) (.int .i64 (-1))) := H29.out.later hbc
  have HYC : Hid (Below w8.heap.size w8 wc) := HY9.out.trans (hbc.mono HY9.out.size)
  have hz : w.heap.size ≤ w8.heap.size := HB8.out.size
  clear hbc e0 e1
  obtain ⟨q0, q1, f0, f1⟩ := H2C.out
  go_wp2_with fail
  refine (curveFault_is la lcap ls _ (HL.out.1.below HWC.out) HL.out.2.2.1 HL.out.2.2.2 0 (-1) HFl.out).mono ?_
  rintro e wF ⟨rfl, bF⟩
  have HWF : Hid (Below w.heap.size w wF) := HWC.out.trans (bF.mono HWC.out.size)
  clear q0 q1 f0 f1
  have h2F := H2C.out.later bF
  have HG : Hid (Below w8.heap.size w8 ((wF.setCell ⟨w8.heap.size, 0, none⟩ (.int .i64 0)).setCell ⟨w8.heap.size, 1, none⟩ (.int .i64 (-1)))) :=
    ((HYC.out.trans (bF.mono HYC.out.size)).setCell (Nat.le_refl _) _).setCell (Nat.le_refl _) _
  have HGw : Hid (Below w.heap.size w ((wF.setCell ⟨w8.heap.size, 0, none⟩ (.int .i64 0)).setCell ⟨w8.heap.size, 1, none⟩ (.int .i64 (-1)))) := (HWF.out.setCell hz _).setCell hz _
  obtain ⟨q0, q1, f0, f1⟩ := h2F
  clear bF
  go_wp2_with fail
  refine (shapeOf_never la lcap ls pa cap ps _ (HL.out.1.below HGw.out) HOk.out.2 (HP.out.1.below HGw.out) HOk.out.1 j q s HJ.out.1 HJ.out.2.1 HJ.out.2.2).mono ?_
  rintro e wQ ⟨rfl, bQ⟩
  have HWQ : Hid (Below w.heap.size w wQ) := HGw.out.trans (bQ.mono HGw.out.size)
  have HXQ : Hid (ErrIs wQ (.iface ty4 v4) 4 j) := HX8.out.below (HG.out.trans (bQ.mono HG.out.size))
  clear bQ q0 q1 f0 f1
  go_wp2_with fail
  refine (faulted_yes _ 4 j _ HXQ.out.code).mono ?_
  rintro e wS ⟨rfl, bS⟩
  have HWS : Hid (Below w.heap.size w wS) := HWQ.out.trans (bS.mono HWQ.out.size)
  clear bS
  have HFO : Hid (∀ w', Below w.heap.size w w' → Calls Tryd.prog 46 #[.slice la ls.length lcap, .slice pa ps.length cap] w' fun e w'' => e = .returned (.bool z) ∧ Below w'.heap.size w' w'') := fun w' hb => by
    have := fitsOf_ok la lcap ls pa cap ps w' (HL.out.1.below hb) HOk.out.2 (HP.out.1.below hb) HOk.out.1
    rwa [HZ.out] at this
  go_wp2_with fail
  refine (HFO.out _ HWS.out).mono ?_
  rintro e wT ⟨rfl, bT⟩
  have HWT : Hid (Below w.heap.size w wT) := HWS.out.trans (bT.mono HWS.out.size)
  clear bT
  cases z
  all_goals
    go_wp2_with fail
    go_ret
    exact ⟨rfl, HWT.out⟩

set_option maxRecDepth 100000 in
set_option maxHeartbeats 4000000 in
theorem bshape_yes (la : Option Addr) (lcap : Nat) (ls : List (Int × Int)) (pa : Option Addr) (cap : Nat) (ps : List Pk) (w : World) (ad : Nat → Addr) (he : Errs9 w ad) (hl : Lies w la ls) (hlc : ls.length ≤ lcap) (hlm : lcap ≤ maxLen) (hla : la = none → ls = [] ∧ lcap = 0) (h30 : ls.length ≤ 30) (hp : LiesP w pa ps) (hcap : ps.length ≤ cap) (hm : cap ≤ maxLen) (hpa : pa = none → ps = [] ∧ cap = 0) (hn : ps.length ≤ 60 ∨ ps.length = 301)
    (ho : OkPks ps) (hk : okCurve ls) (s : Sh) (hs : shape ls ps = some s) :
    Calls Tryd.prog 10 #[.slice la ls.length lcap, .slice pa ps.length cap] w fun e w' => e = .returned (.bool true) ∧ Below w.heap.size w w' := by
  have HE : Hid (Errs9 w ad) := he
  have HL : Hid (Lies w la ls ∧ (la = none → ls = [] ∧ lcap = 0) ∧ ls.length ≤ lcap ∧ lcap ≤ maxLen) := ⟨hl, hla, hlc, hlm⟩
  have HP : Hid (LiesP w pa ps ∧ (pa = none → ps = [] ∧ cap = 0) ∧ ps.length ≤ cap ∧ cap ≤ maxLen) := ⟨hp, hpa, hcap, hm⟩
  have HPF : Hid (PksFault ps 0 (-1)) := .inr (.inr ⟨ho, rfl, rfl⟩)
  have HFl : Hid (FaultIs ls 0 (-1)) := .inr (.inr ⟨hk, rfl, rfl⟩)
  have HOk : Hid (OkPks ps ∧ okCurve ls) := ⟨ho, hk⟩
  have HS : Hid (shape ls ps = some s) := hs
  have HSl : Hid (s.out.length = ps.length) := (shape_good hk ps s ho hs).len
  clear hs
  have HF : Hid (∀ w', Calls Tryd.prog 38 #[.slice pa ps.length cap, .int .i64 60] w' fun e w'' => e = .returned (.bool true) ∧ w'' = w') := fun w' => fitPkts_yes pa ps.length cap 60 w' (Nat.le_trans hcap hm) (by omega)
  have hlen : ps.length ≤ 1000 := by omega
  obtain ⟨z, hz'⟩ : ∃ z, fitsB ls ps = z := ⟨_, rfl⟩
  have HZ : Hid (fitsB ls ps = z) := hz'
  clear he hl hla hlc hlm hp hpa hcap hm hn ho hk hz'
  go_enter Tryd.func10, Tryd.ntmps10
  go_wp2_with fail
  refine (filled_any _ ad HE.out.four).mono ?_
  rintro e w1 ⟨rfl, hb⟩
  have HB1 : Hid (Below w.heap.size w w1) := hb
  clear hb
  go_wp2_with fail
  refine (HF.out _).mono ?_
  rintro e w1' ⟨rfl, rfl⟩
  go_wp2_with fail
  refine (ownLines_at la lcap ls w _ HB1.out HL.out.1 (by omega) HL.out.2.1).mono ?_
  rintro e w2 ⟨a2, k2, rfl, l2, g2, m2, b2, B2⟩
  have HB2 : Hid (Below w.heap.size w w2) := B2
  have HL2 : Hid (Lies w2 a2 ls ∧ ls.length ≤ k2 ∧ k2 ≤ maxLen) := ⟨l2, g2, m2⟩
  clear l2 g2 m2 b2 B2
  go_wp2_with fail
  refine (ownPackets_from pa cap ps w _ HB2.out HP.out.1 hlen HP.out.2.1).mono ?_
  rintro e w3 ⟨a3, k3, rfl, l3, g3, m3, b3, B3⟩
  have HB3 : Hid (Below w.heap.size w w3) := B3
  have HL3 : Hid (Lies w3 a2 ls ∧ LiesP w3 a3 ps ∧ ps.length ≤ k3 ∧ k3 ≤ maxLen) := ⟨HL2.out.1.below b3, l3, g3, m3⟩
  clear l3 g3 m3 b3 B3
  go_wp2_with fail
  refine (shape_yes a2 k2 ls a3 k3 ps s _ ad (HE.out.below HB3.out).four HL3.out.1 HOk.out.2 HL3.out.2.1 HOk.out.1 HS.out).mono ?_
  rintro e w4 ⟨D, rfl, lD, b4⟩
  have HB4 : Hid (Below w.heap.size w w4) := HB3.out.trans (b4.mono HB3.out.size)
  have HD : Hid (LiesP w4 (some ⟨D, 0, none⟩) s.out) := lD
  clear lD b4
  go_wp2_with fail
  refine (ownLines_at la lcap ls w _ HB4.out HL.out.1 (by omega) HL.out.2.1).mono ?_
  rintro e w5 ⟨a5, k5, rfl, l5, g5, m5, b5, B5⟩
  have HB5 : Hid (Below w.heap.size w w5 ∧ Below w4.heap.size w4 w5) := ⟨B5, b5⟩
  have HL5 : Hid (Lies w5 a5 ls ∧ ls.length ≤ k5 ∧ k5 ≤ maxLen) := ⟨l5, g5, m5⟩
  clear l5 g5 m5 b5 B5
  go_wp2_with fail
  refine (ownPackets_from pa cap ps w _ HB5.out.1 HP.out.1 hlen HP.out.2.1).mono ?_
  rintro e w6 ⟨a6, k6, rfl, l6, g6, m6, b6, B6⟩
  have HB6 : Hid (Below w.heap.size w w6 ∧ Below w4.heap.size w4 w6) := ⟨B6, HB5.out.2.trans (b6.mono HB5.out.2.size)⟩
  have HL6 : Hid (Lies w6 a5 ls ∧ LiesP w6 a6 ps ∧ ps.length ≤ k6 ∧ k6 ≤ maxLen) := ⟨HL5.out.1.below b6, l6, g6, m6⟩
  clear l6 g6 m6 b6 B6
  go_wp2_with fail
  have HFit : Hid (Calls Tryd.prog 41 #[.slice a5 ls.length k5, .slice a6 ps.length k6] w6 fun e w' => e = .returned (.tuple #[.bool z, .nilIface]) ∧ Below w6.heap.size w6 w') := by
    have := fits_ok a5 k5 ls a6 k6 ps w6 HL6.out.1 HOk.out.2 HL5.out.2.1 HL5.out.2.2 HL6.out.2.1 HOk.out.1 HL6.out.2.2.1 HL6.out.2.2.2
    rwa [HZ.out] at this
  refine HFit.out.mono ?_
  rintro e w7 ⟨rfl, b7⟩
  have HB7 : Hid (Below w.heap.size w w7 ∧ Below w4.heap.size w4 w7) := ⟨HB6.out.1.trans (b7.mono HB6.out.1.size), HB6.out.2.trans (b7.mono HB6.out.2.size)⟩
  have HX7 : Hid (LiesP w7 (some ⟨D, 0, none⟩) s.out) := HD.out.below HB7.out.2
  clear b7
  go_wp2_with fail
  refine (pfault_is pa cap ps _ (HP.out.1.below HB7.out.1) HP.out.2.2.1 HP.out.2.2.2 0 (-1) HPF.out).mono ?_
  rintro e w8 ⟨rfl, b8⟩
  have HB8 : Hid (Below w.heap.size w w8) := HB7.out.1.trans (b8.mono HB7.out.1.size)
  have HX8 : Hid (LiesP w8 (some ⟨D, 0, none⟩) s.out) := HX7.out.below b8
  clear b8
  have h29 := two_new w8 (.int .i64 0) (.int .i64 (-1)) 40
  have hb89 : Below w8.heap.size w8 (w8.alloc (.cells #[.int .i64 0, .int .i64 (-1)] 40)) := (Below.refl _ _).alloc (Nat.le_refl _) _
  go_upto_region 7 with fail
  generalize w8.alloc (.cells #[.int .i64 0, .int .i64 (-1)] 40) = w9 at *
  have HB9 : Hid (Below w.heap.size w w9) := HB8.out.trans (hb89.mono HB8.out.size)
  have H29 : Hid (Two w8 w9 (.int .i64 0) (.int .i64 (-1))) := h29
  have HY9 : Hid (Below w8.heap.size w8 w9) := hb89
  have e0 := h29.c0
  have e1 := h29.c1
  clear h29 hb89
  go_cut [50] (fun s50 wx => s50 = .bool false ∧ Below w9.heap.size w9 wx)
  case first =>
    go_region_with (first
      | (go_at_call 40; go_must (refine (ownPackets_from pa cap ps w _ ?_ HP.out.1 hlen HP.out.2.1).mono ?_; exact HB9.out.drew; rintro e wA ⟨aA, kA, rfl, lA, gA, mA, bA, BA⟩; have HBA : Hid (Below w9.heap.size w9 wA ∧ Below w.heap.size w wA) := ⟨below_undr bA, BA⟩; have eA0 := cell_later HBA.out.1 e0; have eA1 := cell_later HBA.out.1 e1; have HLA : Hid (LiesP wA aA ps ∧ ps.length ≤ kA ∧ kA ≤ maxLen) := ⟨lA, gA, mA⟩; clear lA gA mA bA BA))
      | (go_at_call 43; go_must (refine (pcheck_is aA kA ps _ ad (HE.out.below HBA.out.2) HLA.out.1 HLA.out.2.1 HLA.out.2.2 0 (-1) HPF.out).mono ?_; rintro e wB ⟨EB, rfl, xB, bB⟩; have HBB : Hid (Below w9.heap.size w9 wB) := HBA.out.1.trans (bB.mono HBA.out.1.size); have eB0 := cell_later HBB.out e0; have eB1 := cell_later HBB.out e1; have HXB : Hid (ErrIs wB EB 0 (-1)) := xB; clear xB bB))
      | (go_at_call 23; go_must (refine (faulted_yes EB 0 (-1) _ HXB.out.code).mono ?_; rintro e wD ⟨rfl, bD⟩; have HBD : Hid (Below w9.heap.size w9 wD) := HBB.out.trans (bD.mono HBB.out.size); clear bD))
      | fail)
    all_goals (go_wp2_with fail; go_meet; exact ⟨rfl, HBD.out⟩)
  case rest =>
  obtain ⟨rfl, hbc⟩ := hcut
  have HWC : Hid (Below w.heap.size w wc) := HB9.out.trans (hbc.mono HB9.out.size)
  have H2C : Hid (Two w8 wc (.int .i64 0) (.int .i64 (-1))) := H29.out.later hbc
  have HYC : Hid (Below w8.heap.size w8 wc) := HY9.out.trans (hbc.mono HY9.out.size)
  have hz : w.heap.size ≤ w8.heap.size := HB8.out.size
  clear hbc e0 e1
  obtain ⟨q0, q1, f0, f1⟩ := H2C.out
  go_wp2_with fail
  refine (curveFault_is la lcap ls _ (HL.out.1.below HWC.out) HL.out.2.2.1 HL.out.2.2.2 0 (-1) HFl.out).mono ?_
  rintro e wF ⟨rfl, bF⟩
  have HWF : Hid (Below w.heap.size w wF) := HWC.out.trans (bF.mono HWC.out.size)
  clear q0 q1 f0 f1
  have h2F := H2C.out.later bF
  have HG : Hid (Below w8.heap.size w8 ((wF.setCell ⟨w8.heap.size, 0, none⟩ (.int .i64 0)).setCell ⟨w8.heap.size, 1, none⟩ (.int .i64 (-1)))) :=
    ((HYC.out.trans (bF.mono HYC.out.size)).setCell (Nat.le_refl _) _).setCell (Nat.le_refl _) _
  have HGw : Hid (Below w.heap.size w ((wF.setCell ⟨w8.heap.size, 0, none⟩ (.int .i64 0)).setCell ⟨w8.heap.size, 1, none⟩ (.int .i64 (-1)))) := (HWF.out.setCell hz _).setCell hz _
  obtain ⟨q0, q1, f0, f1⟩ := h2F
  clear bF
  go_wp2_with fail
  refine (shapeOf_yes la lcap ls pa cap ps _ (HL.out.1.below HGw.out) HOk.out.2 (HP.out.1.below HGw.out) HOk.out.1 s HS.out).mono ?_
  rintro e wQ ⟨aQ, kQ, rfl, lQ, bQ⟩
  have HWQ : Hid (Below w.heap.size w wQ) := HGw.out.trans (bQ.mono HGw.out.size)
  have HXQ : Hid (LiesP wQ (some ⟨D, 0, none⟩) s.out ∧ LiesP wQ aQ s.out) := ⟨HX8.out.below (HG.out.trans (bQ.mono HG.out.size)), lQ⟩
  clear bQ lQ q0 q1 f0 f1
  have HSame : Hid (Calls Tryd.prog 45 #[.slice (some ⟨D, 0, none⟩) s.out.length s.out.length, .slice aQ s.out.length kQ] wQ fun e w' => e = .returned (.bool true) ∧ Below wQ.heap.size wQ w') := by
    have := samePkts_any (some ⟨D, 0, none⟩) aQ s.out.length kQ s.out s.out wQ HXQ.out.1 HXQ.out.2 rfl (by rw [HSl.out]; exact hlen)
    rwa [(sameB_iff s.out s.out).2 rfl] at this
  go_wp2_with fail
  refine HSame.out.mono ?_
  rintro e wS ⟨rfl, bS⟩
  have HWS : Hid (Below w.heap.size w wS) := HWQ.out.trans (bS.mono HWQ.out.size)
  clear bS
  have HFO : Hid (∀ w', Below w.heap.size w w' → Calls Tryd.prog 46 #[.slice la ls.length lcap, .slice pa ps.length cap] w' fun e w'' => e = .returned (.bool z) ∧ Below w'.heap.size w' w'') := fun w' hb => by
    have := fitsOf_ok la lcap ls pa cap ps w' (HL.out.1.below hb) HOk.out.2 (HP.out.1.below hb) HOk.out.1
    rwa [HZ.out] at this
  go_wp2_with fail
  refine (HFO.out _ HWS.out).mono ?_
  rintro e wT ⟨rfl, bT⟩
  have HWT : Hid (Below w.heap.size w wT) := HWS.out.trans (bT.mono HWS.out.size)
  clear bT
  cases z
  all_goals
    go_wp2_with fail
    go_ret
    exact ⟨rfl, HWT.out⟩
end Go.Proofs.YtlknljbceppedaaDoor
