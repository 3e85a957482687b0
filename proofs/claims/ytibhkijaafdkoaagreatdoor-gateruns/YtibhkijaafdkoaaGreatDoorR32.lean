/- Own facts, put together: no statement of its own. -/
import Derived.Test.YtibhkijaafdkoaaGreatDoorR31
namespace Go.Proofs.YtibhkijaafdkoaaGreatDoor
open Go.RowKit
def RunEnd (cs : Nat → List (Int × Int)) (k : Nat) (per : Int) (ns : List Int) (ps : List Pk) (w : World) (e : Ending) (w' : World) : Prop :=
 Below w.heap.size w w' ∧ ((∃ i : Nat, NeverAt cs ps i ∧ (∀ j, j < i → ¬ NeverAt cs ps j) ∧ e = .returned (.tuple #[.slice none 0 0, .slice none 0 0, .agg #[.int .i64 4, .int .i64 (i : Int)]])) ∨
  ((∀ i, ¬ NeverAt cs ps i) ∧ ∃ qv lv qs l, e = .returned (.tuple #[qv, lv, .agg #[.int .i64 0, .int .i64 (-1)]]) ∧ OwnP w' w.heap.size qv qs ∧ OwnS w' w.heap.size lv l ∧ GateRun cs k per ns ps qs l))
set_option maxRecDepth 100000 in
set_option maxHeartbeats 1000000 in
theorem refRunOf_main (ca : Option Addr) (ccap : Nat) (cs : List (List (Int × Int))) (kb : ByteArray) (per : Int) (na : Option Addr) (ncap : Nat) (ns : List Int) (pa : Option Addr) (pcap : Nat) (ps : List Pk) (w : World) (hcl : LiesC w ca cs) (hnl : LiesN w na ns) (hnr : ns.length ≤ 1000) (hpl : LiesP w pa ps) (hpc : ps.length ≤ pcap) (hpm : pcap ≤ maxLen) (ho : OkPks ps) (hg : GateOk cs (kindOf kb.toList) per ns) :
  Calls Tryz.prog 30 #[.agg #[.slice ca cs.length ccap, .string kb, .int .i64 per, .slice na ns.length ncap], .slice pa ps.length pcap] w fun e w' => RunEnd (curveFl cs) (kindOf kb.toList) per ns ps w e w' := by
 have HG : Hid (∀ W, Below w.heap.size w W → Calls Tryz.prog 13 #[.agg #[.slice ca cs.length ccap, .string kb, .int .i64 per, .slice na ns.length ncap]] W fun e w' => GfEnd 0 (-1) W e w') := fun W hb => refGateFault_is ca ccap cs kb per na ncap ns W 0 (-1) (hcl.below hb) (by rw [hg.len]; omega) (hnl.below hb) hnr (.inr (.inr ⟨hg.len, hg.curves, rfl, .inr ⟨hg.kind.1, hg.kind.2, .inr ⟨hg.per.1, hg.per.2, 0, hg.nums, rfl⟩⟩⟩))
 have HPf : Hid (∀ W, Below w.heap.size w W → Calls Tryz.prog 62 #[.slice pa ps.length pcap] W fun e w' => e = .returned (.agg #[.int .i64 0, .int .i64 (-1)]) ∧ Below W.heap.size W w') := fun W hb => pfault_is pa pcap ps W (hpl.below hb) hpc hpm 0 (-1) (.inr (.inr ⟨ho, rfl, rfl⟩))
 have HLk : Hid (∀ W qa qcap qs, Below w.heap.size w W → LiesP W qa qs → OkPks qs → Calls Tryz.prog 64 #[.agg #[.slice ca cs.length ccap, .string kb, .int .i64 per, .slice na ns.length ncap], .slice qa qs.length qcap] W fun e w' => LinkEnd (kindOf kb.toList) per qs ns W e w') := fun W qa qcap qs hb hq hoq => refLinkOf_is (.slice ca cs.length ccap) kb per na ncap ns qa qcap qs W hg.kind.1 (hnl.below hb) hg.nums hq hoq hg.per.1 hg.per.2 ⟨_, _, _, rfl⟩
 have HL : Hid (LiesP w pa ps ∧ OkPks ps ∧ LiesC w ca cs ∧ CurvesTo cs 8) := ⟨hpl, ho, hcl, hg.curves⟩
 have hfew := ho.few
 obtain ⟨k, hk⟩ : ∃ k, kindOf kb.toList = k := ⟨_, rfl⟩
 obtain ⟨m, hm⟩ : ∃ m, cs.length = m := ⟨_, rfl⟩
 obtain ⟨r, hr⟩ : ∃ r, ns.length = r := ⟨_, rfl⟩
 obtain ⟨n, hn⟩ : ∃ n, ps.length = n := ⟨_, rfl⟩
 have HN : Hid (ps.length = n ∧ cs.length = 8) := ⟨hn, hg.len⟩
 have hm8 : m = 8 := by rw [← hm]; exact hg.len
 rw [hk] at HLk
 rw [hm, hr] at HG HLk
 rw [hn] at HPf hfew
 rw [hk, hm, hr, hn]
 have hmk : ∀ w' : World, (Instr.makeSlice 23 (.int .i64 n) (.int .i64 n)).run Tryz.prog w' = .ok (.slice (some ⟨w'.heap.size, 0, none⟩) n n) (w'.alloc (.cells (madeCells #[.int .i64 0] n) 3)) := fun w' => by
  obtain ⟨i0, hi, hz0, hz1, hz2⟩ := info_parts Tryz.infoInt
  have := run_make (P := Tryz.prog) w' 23 3 i0 (.int .i64 0) Tryz.underlying23 hi hz0 .i64 .i64 n n (by omega) (by omega) (by rw [hz2]; omega) (by omega)
  simpa [hz1, Value.cells] using this
 have hb1 : Below w.heap.size w ((w.alloc (.cells #[.slice ca m ccap, .string kb, .int .i64 per, .slice na r ncap] 25)).alloc (.cells #[.int .i64 0, .int .i64 0] 35)) := ((Below.refl _ _).alloc (Nat.le_refl _) _).alloc (by simp) _
 have hs1 : (w.alloc (.cells #[.slice ca m ccap, .string kb, .int .i64 per, .slice na r ncap] 25)).heap.size = w.heap.size + 1 := by simp
 have hga : GateAt ((w.alloc (.cells #[.slice ca m ccap, .string kb, .int .i64 per, .slice na r ncap] 25)).alloc (.cells #[.int .i64 0, .int .i64 0] 35)) w.heap.size (.slice ca m ccap) kb per (.slice na r ncap) := (gateAt_new w (.slice ca m ccap) kb per (.slice na r ncap) 25).later ((Below.refl _ _).alloc (Nat.le_refl _) _)
 have h2a : At2 ((w.alloc (.cells #[.slice ca m ccap, .string kb, .int .i64 per, .slice na r ncap] 25)).alloc (.cells #[.int .i64 0, .int .i64 0] 35)) (w.heap.size + 1) (.int .i64 0) (.int .i64 0) := by
  have := at2_new (w.alloc (.cells #[.slice ca m ccap, .string kb, .int .i64 per, .slice na r ncap] 25)) (.int .i64 0) (.int .i64 0) 35
  rwa [hs1] at this
 obtain ⟨V, hV⟩ : ∃ V, (w.alloc (.cells #[.slice ca m ccap, .string kb, .int .i64 per, .slice na r ncap] 25)).alloc (.cells #[.int .i64 0, .int .i64 0] 35) = V := ⟨_, rfl⟩
 rw [hV] at hb1 hga h2a
 have HV : Hid (Below w.heap.size w V ∧ At2 V (w.heap.size + 1) (.int .i64 0) (.int .i64 0) ∧ GateAt V w.heap.size (.slice ca m ccap) kb per (.slice na r ncap)) := ⟨hb1, h2a, hga⟩
 obtain ⟨x0, x1, x2, x3⟩ := hga
 clear hcl hnl hpl hpc hpm ho hg hk hm hr hn hb1 h2a hs1
 have HM8 : Hid (m = 8) := hm8
 clear hm8
 go_enter Tryz.func30, Tryz.ntmps30
 go_wp2_with fail
 refine (HG.out _ HV.out.1).mono ?_
 rintro e w2 ⟨rfl, hb2⟩
 have hb3 : Below V.heap.size V (w2.alloc (.cells #[.int .i64 0, .int .i64 (-1)] 35)) := hb2.alloc hb2.size _
 have HB3 : Hid (Below w.heap.size w (w2.alloc (.cells #[.int .i64 0, .int .i64 (-1)] 35)) ∧ At2 (w2.alloc (.cells #[.int .i64 0, .int .i64 (-1)] 35)) (w.heap.size + 1) (.int .i64 0) (.int .i64 0) ∧ At2 (w2.alloc (.cells #[.int .i64 0, .int .i64 (-1)] 35)) w2.heap.size (.int .i64 0) (.int .i64 (-1)) ∧ w.heap.size + 1 < w2.heap.size ∧ GateAt (w2.alloc (.cells #[.int .i64 0, .int .i64 (-1)] 35)) w.heap.size (.slice ca m ccap) kb per (.slice na r ncap)) := ⟨HV.out.1.trans (hb3.mono HV.out.1.size), HV.out.2.1.later hb3, at2_new w2 _ _ _, Nat.lt_of_lt_of_le (cell_lt HV.out.2.1.c0) hb2.size, HV.out.2.2.later hb3⟩
 clear hb2 hb3 x0 x1 x2 x3
 go_wp2_with fail
 refine (HPf.out _ HB3.out.1).mono ?_
 rintro e w4 ⟨rfl, hb4⟩
 obtain ⟨F, hF⟩ : ∃ F, w2.heap.size = F := ⟨_, rfl⟩
 rw [hF] at HB3 ⊢
 have hF1 := HB3.out.2.2.2.1
 have hz := HB3.out.2.1.later hb4
 have hf := HB3.out.2.2.1.later hb4
 have hgt := HB3.out.2.2.2.2.later hb4
 have hb4w : Below w.heap.size w w4 := HB3.out.1.trans (hb4.mono HB3.out.1.size)
 have hb5 : Below w.heap.size w ((w4.setCell ⟨F, 0, none⟩ (.int .i64 0)).setCell ⟨F, 1, none⟩ (.int .i64 (-1))) := (hb4w.setCell (p := ⟨F, 0, none⟩) (by show w.heap.size ≤ F; omega) _).setCell (p := ⟨F, 1, none⟩) (by show w.heap.size ≤ F; omega) _
 have hz5 := hz.other (Nat.ne_of_gt hF1) (.int .i64 0) (.int .i64 (-1))
 have hf5 := hf.set (.int .i64 0) (.int .i64 (-1))
 have hg5 : GateAt ((w4.setCell ⟨F, 0, none⟩ (.int .i64 0)).setCell ⟨F, 1, none⟩ (.int .i64 (-1))) w.heap.size (.slice ca m ccap) kb per (.slice na r ncap) := by
  have ne : ∀ (o o' : Nat), (⟨F, o, none⟩ : Addr) ≠ ⟨w.heap.size, o', none⟩ := fun o o' e => by injection e with e1; omega
  refine ⟨?_, ?_, ?_, ?_⟩
  · rw [World.cell?_setCell_other _ _ _ _ (ne 1 0), World.cell?_setCell_other _ _ _ _ (ne 0 0)]; exact hgt.c0
  · rw [World.cell?_setCell_other _ _ _ _ (ne 1 1), World.cell?_setCell_other _ _ _ _ (ne 0 1)]; exact hgt.c1
  · rw [World.cell?_setCell_other _ _ _ _ (ne 1 2), World.cell?_setCell_other _ _ _ _ (ne 0 2)]; exact hgt.c2
  · rw [World.cell?_setCell_other _ _ _ _ (ne 1 3), World.cell?_setCell_other _ _ _ _ (ne 0 3)]; exact hgt.c3
 obtain ⟨y0, y1, yf0, yf1⟩ := hf
 obtain ⟨V3, hV3⟩ : ∃ V3, (w4.setCell ⟨F, 0, none⟩ (.int .i64 0)).setCell ⟨F, 1, none⟩ (.int .i64 (-1)) = V3 := ⟨_, rfl⟩
 rw [hV3] at hb5 hz5 hf5 hg5
 have hb6 : Below V3.heap.size V3 (V3.alloc (.cells (madeCells #[.int .i64 0] n) 3)) := (Below.refl _ _).alloc (Nat.le_refl _) _
 have hF3 : F < V3.heap.size := cell_lt hf5.c0
 have HS : Hid (FillAt w (V3.alloc (.cells (madeCells #[.int .i64 0] n) 3)) (V3.alloc (.cells (madeCells #[.int .i64 0] n) 3)) V3.heap.size n (fun _ => 0) ∧ GateAt (V3.alloc (.cells (madeCells #[.int .i64 0] n) 3)) w.heap.size (.slice ca m ccap) kb per (.slice na r ncap) ∧ At2 (V3.alloc (.cells (madeCells #[.int .i64 0] n) 3)) (w.heap.size + 1) (.int .i64 0) (.int .i64 0) ∧ At2 (V3.alloc (.cells (madeCells #[.int .i64 0] n) 3)) F (.int .i64 0) (.int .i64 (-1)) ∧ F < V3.heap.size ∧ w.heap.size + 1 < F) := ⟨⟨But.refl _ _, nums_made V3 n _, hb5.trans (hb6.mono hb5.size), hb5.size⟩, hg5.later hb6, hz5.later hb6, hf5.later hb6, hF3, hF1⟩
 obtain ⟨f0, f1, -, -⟩ := hf5
 clear hb4 hz hgt hb4w hb5 hz5 hg5 hb6 hF3 hF
 go_wp2_with fail
 obtain ⟨D, hD⟩ : ∃ D, V3.heap.size = D := ⟨_, rfl⟩
 obtain ⟨W3, hW3⟩ : ∃ W3, V3.alloc (.cells (madeCells #[.int .i64 0] n) 3) = W3 := ⟨_, rfl⟩
 rw [hD, hW3] at HS
 rw [hD, hW3]
 clear hmk f0 f1 y0 y1 yf0 yf1 hD hW3 hV3 HB3 HV HG HPf hF1
 go_loopg [8, 10] 8 (fun gk nv fv wr => ∃ f : Nat, gk + f = 8 ∧ fv = .int .i64 f ∧ ∃ z a, nv = .int .i64 z ∧ FlowsDone (curveFl cs) ps f z a ∧ FillAt w W3 wr D n a)
 case atStart => exact ⟨0, rfl, rfl, -1, _, rfl, flowsDone_none _, HS.out.1⟩
 case round =>
  obtain ⟨f, hf8, rfl, z, a, rfl, hfd, hfa⟩ := hrel
  have HR : Hid (FlowsDone (curveFl cs) ps f z a ∧ FillAt w W3 wr D n a) := ⟨hfd, hfa⟩
  have HZ : Hid (z = -1 ∨ ∃ i : Nat, z = i ∧ i < n) := by
   have := hfd.range
   rwa [HN.out.1] at this
  clear hfd hfa
  by_cases hf : f < 8
  ·
   obtain ⟨WF, hWF⟩ : ∃ W, W = wr := ⟨_, rfl⟩
   subst hWF
   obtain ⟨G1, hG1⟩ : ∃ G1, G1 = gk := ⟨_, rfl⟩
   subst hG1
   have hf38 : decide ((f : Int) < 8) = true := by simpa using (show (f : Int) < 8 by omega)
   go_wp2_with fail
   go_loopg [11, 12, 13] n (fun gk v1 v2 iv wr => ∃ i : Nat, gk + i = n ∧ iv = .int .i64 i ∧ Both wr WF.heap.size v1 v2 (ownTo ps f i) (asInts (numTo ps f i)) ∧ Below WF.heap.size WF wr)
   case atStart => exact ⟨0, by omega, rfl, both_nil _ _, Below.refl _ _⟩
   case round =>
    obtain ⟨i, hi, rfl, hbo, hb⟩ := hrel
    have HI : Hid (Both wr WF.heap.size u11 u12 (ownTo ps f i) (asInts (numTo ps f i)) ∧ Below WF.heap.size WF wr) := ⟨hbo, hb⟩
    clear hbo hb
    by_cases hin : i < n
    ·
     obtain ⟨p, hp, -⟩ := get_some ps i (by rw [HN.out.1]; exact hin)
     obtain ⟨pb, po, rfl, -, hpc⟩ := HL.out.1.place (by rw [HN.out.1]; omega)
     have HBw : Hid (Below w.heap.size w wr) := HR.out.2.all.trans (HI.out.2.mono HR.out.2.all.size)
     have d0 := cell_later HBw.out (hpc i p hp).1
     have d1 := cell_later HBw.out (hpc i p hp).2.1
     have d2 := cell_later HBw.out (hpc i p hp).2.2
     have hfl := flow_is HL.out.2.1 hp f
     have hos := ownTo_succ (ps := ps) (f := f) hp
     have hns := numTo_succ (ps := ps) f i
     have HP : Hid (p = ⟨p.flow, p.size, p.tick⟩) := rfl
     obtain ⟨x0, hx0⟩ : ∃ x, p.flow = x := ⟨_, rfl⟩
     obtain ⟨x1, hx1⟩ : ∃ x, p.size = x := ⟨_, rfl⟩
     obtain ⟨x2, hx2⟩ : ∃ x, p.tick = x := ⟨_, rfl⟩
     rw [hx0] at d0 hfl hos HP
     rw [hx1] at d1 HP
     rw [hx2] at d2 HP
     clear hpc hp hx0 hx1 hx2
     by_cases hxf : x0 = (f : Int)
     ·
      rw [if_pos hxf] at hos
      rw [if_pos (hfl.1 hxf)] at hns
      have HOs : Hid (ownTo ps f (i + 1) = ownTo ps f i ++ [⟨x0, x1, x2⟩] ∧ numTo ps f (i + 1) = numTo ps f i ++ [i]) := ⟨by rw [← HP.out]; exact hos, hns⟩
      have hxf' : (x0 == (f : Int)) = true := by simpa using hxf
      have hlen1 : (ownTo ps f i).length ≤ 300 ∧ (asInts (numTo ps f i)).length ≤ 300 := by
       have h1 := (own_ok HL.out.2.1 f i (by rw [HN.out.1]; omega)).2.2
       have h2 := (own_num HL.out.2.1 f i (by rw [HN.out.1]; omega)).1
       rw [asInts_length]
       omega
      have HLen : Hid ((ownTo ps f i).length ≤ 1000 ∧ (asInts (numTo ps f i)).length ≤ 1000) := ⟨by omega, by omega⟩
      have HA : Hid (Both (wr.alloc (.cells #[.int .i64 x0, .int .i64 x1, .int .i64 x2] 52)) WF.heap.size u11 u12 (ownTo ps f i) (asInts (numTo ps f i)) ∧ LiesP (wr.alloc (.cells #[.int .i64 x0, .int .i64 x1, .int .i64 x2] 52)) (some ⟨wr.heap.size, 0, none⟩) [⟨x0, x1, x2⟩] ∧ WF.heap.size ≤ (wr.alloc (.cells #[.int .i64 x0, .int .i64 x1, .int .i64 x2] 52)).heap.size ∧ Below WF.heap.size WF (wr.alloc (.cells #[.int .i64 x0, .int .i64 x1, .int .i64 x2] 52))) := by
       have h1 : Below wr.heap.size wr (wr.alloc (.cells #[.int .i64 x0, .int .i64 x1, .int .i64 x2] 52)) := (Below.refl _ _).alloc (Nat.le_refl _) _
       refine ⟨HI.out.1.later h1, .inr ⟨wr.heap.size, 0, rfl, by simp, fun j q hj => ?_⟩, Nat.le_trans HI.out.2.size h1.size, HI.out.2.trans (h1.mono HI.out.2.size)⟩
       cases j with
       | zero =>
        obtain rfl := Option.some.inj hj
        exact ⟨by simp, by simp, by simp⟩
       | succ j => simp at hj
      clear hos hns hfl hxf hlen1
      go_wp2_with (first
       | (at_builtin; refine wpList_both_pk _ rfl _ _ rfl WF.heap.size u11 u12 (ownTo ps f i) (asInts (numTo ps f i)) ⟨x0, x1, x2⟩ ⟨wr.heap.size, 0, none⟩ rfl rfl HA.out.1 HA.out.2.1 HLen.out.1 HA.out.2.2.1 ?_; rintro v5 w5 ⟨hbo5, hb5⟩; have H5 : Hid (Both w5 WF.heap.size v5 u12 (ownTo ps f i ++ [⟨x0, x1, x2⟩]) (asInts (numTo ps f i)) ∧ Below WF.heap.size WF w5) := ⟨hbo5, HA.out.2.2.2.trans hb5⟩; have H6 : Hid (Both (w5.alloc (.cells #[.int .i64 (i : Int)] 3)) WF.heap.size v5 u12 (ownTo ps f i ++ [⟨x0, x1, x2⟩]) (asInts (numTo ps f i)) ∧ (w5.alloc (.cells #[.int .i64 (i : Int)] 3)).cell? ⟨w5.heap.size, 0, none⟩ = some (.int .i64 (i : Int)) ∧ WF.heap.size ≤ (w5.alloc (.cells #[.int .i64 (i : Int)] 3)).heap.size ∧ Below WF.heap.size WF (w5.alloc (.cells #[.int .i64 (i : Int)] 3))) := ⟨hbo5.later ((Below.refl _ _).alloc (Nat.le_refl _) _), by simp, by have := H5.out.2.size; simp; omega, H5.out.2.alloc H5.out.2.size _⟩; clear hbo5 hb5)
       | (at_builtin; go_must (refine wpList_both_num _ rfl _ _ rfl WF.heap.size v5 u12 (ownTo ps f i ++ [⟨x0, x1, x2⟩]) (asInts (numTo ps f i)) (i : Int) ⟨w5.heap.size, 0, none⟩ rfl rfl H6.out.1 H6.out.2.1 HLen.out.2 H6.out.2.2.1 ?_; rintro v7 w7 ⟨hbo7, hb7⟩; have H7 : Hid (Both w7 WF.heap.size v5 v7 (ownTo ps f (i + 1)) (asInts (numTo ps f (i + 1))) ∧ Below WF.heap.size WF w7) := ⟨by rw [HOs.out.1, HOs.out.2, asInts_more]; exact hbo7, H6.out.2.2.2.trans hb7⟩; clear hbo7 hb7)))
      go_roundg (gk - 1)
      case measure => omega
      case rel => exact ⟨i + 1, by omega, by go_num, H7.out.1, H7.out.2⟩
     ·
      rw [if_neg hxf] at hos
      rw [if_neg (fun h => hxf (hfl.2 h))] at hns
      have HOs : Hid (ownTo ps f (i + 1) = ownTo ps f i ∧ numTo ps f (i + 1) = numTo ps f i) := ⟨hos, hns⟩
      have hxf' : (x0 == (f : Int)) = false := by simpa using hxf
      clear hos hns hfl hxf
      go_wp2_with fail
      go_roundg (gk - 1)
      case measure => omega
      case rel => exact ⟨i + 1, by omega, by go_num, by rw [HOs.out.1, HOs.out.2]; exact HI.out.1, HI.out.2⟩
    ·
     obtain rfl : i = n := by omega
     obtain ⟨oa, ocap, rfl, hol, hom, hoL, hoB, hoN⟩ := OwnP.open HI.out.1.pks
     have hnum := HI.out.1.nums
     obtain ⟨nb', ncap', rfl, hnl1, hnl2, hnL⟩ := own_lies hnum
     have hnB : ∀ g, (Value.slice nb' (asInts (numTo ps f i)).length ncap').ownBlock = some g → WF.heap.size ≤ g := fun g hg => (ownsRow_lt hnum hg).1
     have hown := own_num HL.out.2.1 f i (by rw [HN.out.1]; exact Nat.le_refl _)
     have hownok := (own_ok HL.out.2.1 f i (by rw [HN.out.1]; exact Nat.le_refl _)).1
     have hrise := num_rises (ps := ps) f i
     have hfm : f < m := by have := HM8.out; omega
     obtain ⟨ls, hls, -⟩ := get_some cs f (by rw [HN.out.2]; exact hf)
     obtain ⟨cb, coff, rfl, -, hcc⟩ := HL.out.2.2.1.place (by rw [HN.out.2]; omega)
     obtain ⟨la, lcap, cj, hlies, hlc, hlm, -⟩ := hcc f ls hls
     have HBw : Hid (Below w.heap.size w wr) := HR.out.2.all.trans (HI.out.2.mono HR.out.2.all.size)
     have cj' := cell_later HBw.out cj
     have hDne : w.heap.size ≠ D := by have := HS.out.2.2.2.2; omega
     have g0 : wr.cell? ⟨w.heap.size, 0, none⟩ = some (.slice (some ⟨cb, coff, none⟩) m ccap) := cell_later HI.out.2 (HR.out.2.cell HS.out.2.1.c0 hDne)
     have hcur : curveFl cs f = ls := curveFl_get hls
     have hokc : ls = [] ∨ okCurve ls := HL.out.2.2.2 f ls hf hls
     have HFa : Hid (FillAt w W3 wr D i a) := HR.out.2.later HI.out.2
     have hDW : D < WF.heap.size := HR.out.2.at_.lt
     have HO : Hid ((ownTo ps f i).length = (numTo ps f i).length ∧ (∀ (r' i' : Nat), (numTo ps f i)[r']? = some i' → i' < i ∧ flowOf ps i' = f ∧ rankIn ps i' = r' ∧ (ownTo ps f i)[r']? = ps[i']?) ∧ OkPks (ownTo ps f i) ∧ (numTo ps f i).Pairwise (· < ·) ∧ curveFl cs f = ls ∧ D < WF.heap.size) := ⟨hown.1, hown.2, hownok, hrise, hcur, hDW⟩
     have HNl : Hid (∀ (r' i' : Nat), (numTo ps f i)[r']? = some i' → ∃ g, nb' = some ⟨g, 0, none⟩ ∧ WF.heap.size ≤ g ∧ g < wr.heap.size ∧ wr.cell? ⟨g, r', none⟩ = some (.int .i64 (i' : Int))) := fun r' i' hr' => by
      have hnum2 := hnum
      obtain ⟨h1, ⟨e, h0⟩ | ⟨g, cap, cur, e, hB, hgl, r⟩⟩ := hnum
      ·
       rw [asInts_length] at h0
       have := lt_of_get hr'
       omega
      ·
       injection e with e1 e2 e3
       subst e1
       refine ⟨g, rfl, hB, lt_of_block hgl, ?_⟩
       have hh : wr.ownsRow WF.heap.size 3 1 (.slice (some ⟨g, 0, none⟩) (asInts (numTo ps f i)).length ncap') (asInts (numTo ps f i)).length (ints (asInts (numTo ps f i))) := hnum2
       rw [hh.cellAt r' (by have := lt_of_get hr'; rw [asInts_length]; omega)]
       exact ints_get (asInts_get hr')
     have HOl : Hid (LiesP wr oa (ownTo ps f i) ∧ (∀ ad, oa = some ad → WF.heap.size ≤ ad.block) ∧ (oa = none → ownTo ps f i = [] ∧ ocap = 0)) := ⟨hoL, hoB, hoN⟩
     have HSh : Hid (okCurve ls → Calls Tryz.prog 63 #[.slice la ls.length lcap, .slice oa (ownTo ps f i).length ocap] wr fun e w' => ShapeOfEnd ls (ownTo ps f i) wr e w') := fun hk => shapeOf_any la lcap ls oa ocap (ownTo ps f i) wr (hlies.below HBw.out) hk hoL hownok
     have hq300 : (ownTo ps f i).length ≤ 300 := hownok.few
     have hnl3 : (asInts (numTo ps f i)).length = (ownTo ps f i).length := by rw [asInts_length]; exact hown.1.symm
     rw [hnl3]
     have hll : ls.length ≤ 9223372036854775807 := Nat.le_trans hlc (Nat.le_trans hlm (by unfold maxLen; omega))
     obtain ⟨q, hq⟩ : ∃ q, (ownTo ps f i).length = q := ⟨_, rfl⟩
     obtain ⟨ll, hlle⟩ : ∃ q, ls.length = q := ⟨_, rfl⟩
     have HQ : Hid ((ownTo ps f i).length = q ∧ ls.length = ll) := ⟨hq, hlle⟩
     rw [hq] at hq300 hol HSh ⊢
     rw [hlle] at cj' HSh hll
     clear hom hoL hoB hoN hnum hnl1 hnl2 hnL hnB hown hownok hrise hls hcc cj hlies hlc hlm hDne hcur hDW hnl3 hq hlle
     by_cases hl0 : ll = 0
     ·
      subst hl0
      have hnil : ls = [] := List.length_eq_zero_iff.1 HQ.out.2
      have HXs : Hid (shapedFl (curveFl cs) ps f = some (ownTo ps f i) ∧ (ownTo ps f i).length = q) := ⟨by
       unfold shapedFl
       rw [HO.out.2.2.2.2.1, if_pos hnil, HN.out.1], HQ.out.1⟩
      have HXf : Hid (FillAt w W3 wr D i a) := HFa.out
      have HXo : Hid (LiesP wr oa (ownTo ps f i) ∧ (∀ ad, oa = some ad → WF.heap.size ≤ ad.block)) := ⟨HOl.out.1, HOl.out.2.1⟩
      have HXn : Hid (∀ (r' i' : Nat), (numTo ps f i)[r']? = some i' → ∃ g, nb' = some ⟨g, 0, none⟩ ∧ WF.heap.size ≤ g ∧ g < wr.heap.size ∧ wr.cell? ⟨g, r', none⟩ = some (.int .i64 (i' : Int))) := HNl.out
      obtain ⟨WX, hWX⟩ : ∃ W, W = wr := ⟨_, rfl⟩
      subst hWX
      clear hnil hokc HSh
      go_wp2_with fail
      go_loopg [16] q (fun gk rv wr => ∃ r' : Nat, gk + r' = q ∧ rv = .int .i64 r' ∧ FillAt w W3 wr D i (fillTo a (numTo ps f i) (ownTo ps f i) r') ∧ But (fun b => b = D) WX wr)
      case atStart => exact ⟨0, by omega, rfl, HXf.out, But.refl _ _⟩
      case round =>
       obtain ⟨r', hr', rfl, hfa, hbut⟩ := hrel
       have HJ : Hid (FillAt w W3 wr D i (fillTo a (numTo ps f i) (ownTo ps f i) r') ∧ But (fun b => b = D) WX wr) := ⟨hfa, hbut⟩
       clear hfa hbut
       by_cases hrq : r' < q
       ·
        obtain ⟨i0, hi0, -⟩ := get_some (numTo ps f i) r' (by rw [← HO.out.1, HQ.out.1]; exact hrq)
        obtain ⟨pq, hpq, -⟩ := get_some (ownTo ps f i) r' (by rw [HXs.out.2]; exact hrq)
        obtain ⟨ng, rfl, hng1, hng2, hnc⟩ := HXn.out r' i0 hi0
        obtain ⟨ob, oo, rfl, hobl, hoc⟩ := HXo.out.1.place (by rw [HXs.out.2]; omega)
        have hDf := HO.out.2.2.2.2.2
        have hobD : ob ≠ D := by
         have : WF.heap.size ≤ ob := HXo.out.2 _ rfl
         omega
        have e1 : wr.cell? ⟨ng, r', none⟩ = some (.int .i64 (i0 : Int)) := by
         rw [HJ.out.2.cell (p := ⟨ng, r', none⟩) hng2 (by show ¬ ng = D; omega)]; exact hnc
        have e2 : wr.cell? ⟨ob, oo + r' * 3 + 2, none⟩ = some (.int .i64 pq.tick) := by
         rw [HJ.out.2.cell (p := ⟨ob, oo + r' * 3 + 2, none⟩) hobl hobD]; exact (hoc r' pq hpq).2.2
        have hi0n : i0 < i := (HO.out.2.1 r' i0 hi0).1
        have hi0n' : (i0 : Int) < (i : Int) := by omega
        have e3 := HJ.out.1.at_.cell i0 hi0n
        have e4 := HJ.out.1.at_.frozen i0
        have hfe : fillTo a (numTo ps f i) (ownTo ps f i) (r' + 1) = put1 (fillTo a (numTo ps f i) (ownTo ps f i) r') i0 pq.tick := by simp [fillTo, List.getD, hi0, tickOf_get hpq]
        have HPut : Hid (FillAt w W3 (wr.setCell ⟨D, i0, none⟩ (.int .i64 pq.tick)).drew D i (fillTo a (numTo ps f i) (ownTo ps f i) (r' + 1)) ∧ But (fun b => b = D) WX (wr.setCell ⟨D, i0, none⟩ (.int .i64 pq.tick)).drew) := ⟨by rw [hfe]; exact HJ.out.1.put hi0n pq.tick, (But.setCell (S := fun b => b = D) HJ.out.2 (p := ⟨D, i0, none⟩) rfl _).drew⟩
        obtain ⟨tk, htk⟩ : ∃ tk, pq.tick = tk := ⟨_, rfl⟩
        rw [htk] at e2 HPut
        obtain ⟨od, hod⟩ : ∃ od, fillTo a (numTo ps f i) (ownTo ps f i) r' i0 = od := ⟨_, rfl⟩
        rw [hod] at e3
        clear hi0 hpq hng1 hng2 hnc hobl hoc hDf hobD hfe htk hod
        go_wp2_with fail
        go_region
        go_wp2_with fail
        go_roundg (gk - 1)
        case measure => omega
        case rel => exact ⟨r' + 1, by omega, by go_num, HPut.out.1, HPut.out.2⟩
       ·
        obtain rfl : r' = q := by omega
        have HDn : Hid (FlowsDone (curveFl cs) ps (f + 1) z (fillTo a (numTo ps f i) (ownTo ps f i) r')) := by
         have hL : numTo ps f ps.length = numTo ps f i := by rw [HN.out.1]
         refine HR.out.1.shaped HL.out.2.1 HXs.out.1 (fun r1 i1 h1 => ?_) (fun i1 h1 => ?_)
         ·
          rw [hL] at h1
          exact fill_in HO.out.2.2.2.1 h1 r' (by rw [← HO.out.1, HQ.out.1]; exact Nat.le_refl _) (by have := lt_of_get h1; rw [← HO.out.1, HQ.out.1] at this; exact this)
         ·
          rw [hL] at h1
          exact fill_out h1 r' (by rw [← HO.out.1, HQ.out.1]; exact Nat.le_refl _)
        go_wp2_with fail
        go_roundg (G1 - 1)
        case measure => omega
        case rel => exact ⟨f + 1, by omega, by go_num, z, _, rfl, HDn.out, HJ.out.1⟩
     ·
      have hokc' : okCurve ls := by
       rcases hokc with h | h
       ·
        have := HQ.out.2
        rw [h] at this
        exact absurd this.symm hl0
       · exact h
      have HSh' : Hid (Calls Tryz.prog 63 #[.slice la ll lcap, .slice oa q ocap] wr fun e w' => ShapeOfEnd ls (ownTo ps f i) wr e w') := HSh.out hokc'
      have HNe : Hid (curveFl cs f ≠ []) := by
       show curveFl cs f ≠ []
       rw [HO.out.2.2.2.2.1]
       intro h
       have := HQ.out.2
       rw [h] at this
       exact hl0 this.symm
      have HSl : Hid (∀ s, shape ls (ownTo ps f i) = some s → s.out.length = q) := fun s hs => by
       rw [(shape_good hokc' _ s HO.out.2.2.1 hs).len, HQ.out.1]
      clear hokc hokc' HSh
      go_wp2_with fail
      refine HSh'.out.mono ?_
      rintro e w6 ⟨hb6, ⟨s, v, hsh, rfl, hov⟩ | ⟨j, p, s, hj1, hj2, hj3, rfl⟩⟩
      ·
       obtain ⟨xa, xcap, rfl, hx1, hx2, hxL, hxB, hxN⟩ := OwnP.open hov
       have HXs : Hid (shapedFl (curveFl cs) ps f = some s.out ∧ s.out.length = q) := ⟨by
        unfold shapedFl
        rw [if_neg HNe.out, HO.out.2.2.2.2.1, HN.out.1, hsh]
        rfl, HSl.out s hsh⟩
       have HXf : Hid (FillAt w W3 w6 D i a) := HFa.out.later hb6
       have HXo : Hid (LiesP w6 xa s.out ∧ (∀ ad, xa = some ad → WF.heap.size ≤ ad.block)) := ⟨hxL, fun ad had => Nat.le_trans HI.out.2.size (hxB ad had)⟩
       have HXn : Hid (∀ (r' i' : Nat), (numTo ps f i)[r']? = some i' → ∃ g, nb' = some ⟨g, 0, none⟩ ∧ WF.heap.size ≤ g ∧ g < w6.heap.size ∧ w6.cell? ⟨g, r', none⟩ = some (.int .i64 (i' : Int))) := fun r' i' hr' => by
        obtain ⟨g, h1, h2, h3, h4⟩ := HNl.out r' i' hr'
        exact ⟨g, h1, h2, Nat.lt_of_lt_of_le h3 hb6.size, cell_later hb6 h4⟩
       have hxlen := HXs.out.2
       rw [hxlen] at hx1 ⊢
       clear hsh hov hx2 hxL hxB hxN hb6 hxlen
       go_wp2_with fail
       go_loopg [16] q (fun gk rv wr => ∃ r' : Nat, gk + r' = q ∧ rv = .int .i64 r' ∧ FillAt w W3 wr D i (fillTo a (numTo ps f i) s.out r') ∧ But (fun b => b = D) w6 wr)
       case atStart => exact ⟨0, by omega, rfl, HXf.out, But.refl _ _⟩
       case round =>
        obtain ⟨r', hr', rfl, hfa, hbut⟩ := hrel
        have HJ : Hid (FillAt w W3 wr D i (fillTo a (numTo ps f i) s.out r') ∧ But (fun b => b = D) w6 wr) := ⟨hfa, hbut⟩
        clear hfa hbut
        by_cases hrq : r' < q
        ·
         obtain ⟨i0, hi0, -⟩ := get_some (numTo ps f i) r' (by rw [← HO.out.1, HQ.out.1]; exact hrq)
         obtain ⟨pq, hpq, -⟩ := get_some s.out r' (by rw [HXs.out.2]; exact hrq)
         obtain ⟨ng, rfl, hng1, hng2, hnc⟩ := HXn.out r' i0 hi0
         obtain ⟨ob, oo, rfl, hobl, hoc⟩ := HXo.out.1.place (by rw [HXs.out.2]; omega)
         have hDf := HO.out.2.2.2.2.2
         have hobD : ob ≠ D := by
          have : WF.heap.size ≤ ob := HXo.out.2 _ rfl
          omega
         have e1 : wr.cell? ⟨ng, r', none⟩ = some (.int .i64 (i0 : Int)) := by
          rw [HJ.out.2.cell (p := ⟨ng, r', none⟩) hng2 (by show ¬ ng = D; omega)]; exact hnc
         have e2 : wr.cell? ⟨ob, oo + r' * 3 + 2, none⟩ = some (.int .i64 pq.tick) := by
          rw [HJ.out.2.cell (p := ⟨ob, oo + r' * 3 + 2, none⟩) hobl hobD]; exact (hoc r' pq hpq).2.2
         have hi0n : i0 < i := (HO.out.2.1 r' i0 hi0).1
         have hi0n' : (i0 : Int) < (i : Int) := by omega
         have e3 := HJ.out.1.at_.cell i0 hi0n
         have e4 := HJ.out.1.at_.frozen i0
         have hfe : fillTo a (numTo ps f i) s.out (r' + 1) = put1 (fillTo a (numTo ps f i) s.out r') i0 pq.tick := by simp [fillTo, List.getD, hi0, tickOf_get hpq]
         have HPut : Hid (FillAt w W3 (wr.setCell ⟨D, i0, none⟩ (.int .i64 pq.tick)).drew D i (fillTo a (numTo ps f i) s.out (r' + 1)) ∧ But (fun b => b = D) w6 (wr.setCell ⟨D, i0, none⟩ (.int .i64 pq.tick)).drew) := ⟨by rw [hfe]; exact HJ.out.1.put hi0n pq.tick, (But.setCell (S := fun b => b = D) HJ.out.2 (p := ⟨D, i0, none⟩) rfl _).drew⟩
         obtain ⟨tk, htk⟩ : ∃ tk, pq.tick = tk := ⟨_, rfl⟩
         rw [htk] at e2 HPut
         obtain ⟨od, hod⟩ : ∃ od, fillTo a (numTo ps f i) s.out r' i0 = od := ⟨_, rfl⟩
         rw [hod] at e3
         clear hi0 hpq hng1 hng2 hnc hobl hoc hDf hobD hfe htk hod
         go_wp2_with fail
         go_region
         go_wp2_with fail
         go_roundg (gk - 1)
         case measure => omega
         case rel => exact ⟨r' + 1, by omega, by go_num, HPut.out.1, HPut.out.2⟩
        ·
         obtain rfl : r' = q := by omega
         have HDn : Hid (FlowsDone (curveFl cs) ps (f + 1) z (fillTo a (numTo ps f i) s.out r')) := by
          have hL : numTo ps f ps.length = numTo ps f i := by rw [HN.out.1]
          refine HR.out.1.shaped HL.out.2.1 HXs.out.1 (fun r1 i1 h1 => ?_) (fun i1 h1 => ?_)
          ·
           rw [hL] at h1
           exact fill_in HO.out.2.2.2.1 h1 r' (by rw [← HO.out.1, HQ.out.1]; exact Nat.le_refl _) (by have := lt_of_get h1; rw [← HO.out.1, HQ.out.1] at this; exact this)
          ·
           rw [hL] at h1
           exact fill_out h1 r' (by rw [← HO.out.1, HQ.out.1]; exact Nat.le_refl _)
         go_wp2_with fail
         go_roundg (G1 - 1)
         case measure => omega
         case rel => exact ⟨f + 1, by omega, by go_num, z, _, rfl, HDn.out, HJ.out.1⟩
      ·
       have hjl := lt_of_get hj1
       obtain ⟨i0, hi0, -⟩ := get_some (numTo ps f i) j (by rw [← HO.out.1]; exact hjl)
       obtain ⟨ng, rfl, hng1, hng2, hnc⟩ := HNl.out j i0 hi0
       have hnv := never_num (cs := curveFl cs) HL.out.2.1 (f := f) HNe.out (r := j) (i := i0) (p := p) (s := s) (by rw [HN.out.1]; exact hi0) (by rw [HN.out.1]; exact hj1) (by rw [HO.out.2.2.2.2.1, HN.out.1]; exact hj2) hj3
       have HSt : Hid (∀ a', FlowsDone (curveFl cs) ps (f + 1) (if z < 0 ∨ (i0 : Int) < z then (i0 : Int) else z) a') := fun a' => HR.out.1.stuck HL.out.2.1 hnv.1 hnv.2
       have e1 : w6.cell? ⟨ng, j, none⟩ = some (.int .i64 (i0 : Int)) := cell_later hb6 hnc
       have HF6 : Hid (FillAt w W3 w6 D i a) := HFa.out.later hb6
       have hjq : j < q := by rw [HQ.out.1] at hjl; exact hjl
       clear hj1 hj2 hj3 hjl hi0 hng1 hng2 hnc hnv hb6
       rcases HZ.out with rfl | ⟨i1, rfl, hi1⟩
       ·
        go_wp2_with fail
        go_roundg (G1 - 1)
        case measure => omega
        case rel => exact ⟨f + 1, by omega, by go_num, _, a, rfl, by have := HSt.out a; rwa [if_pos (.inl (by omega))] at this, HF6.out⟩
       ·
        by_cases hlt : i0 < i1
        ·
         have hlt' : decide ((i0 : Int) < (i1 : Int)) = true := by simpa using hlt
         go_wp2_with fail
         go_roundg (G1 - 1)
         case measure => omega
         case rel => exact ⟨f + 1, by omega, by go_num, _, a, rfl, by have := HSt.out a; rwa [if_pos (.inr (by omega))] at this, HF6.out⟩
        ·
         have hlt' : decide ((i0 : Int) < (i1 : Int)) = false := by simpa using hlt
         go_wp2_with fail
         go_roundg (G1 - 1)
         case measure => omega
         case rel => exact ⟨f + 1, by omega, by go_num, _, a, rfl, by have := HSt.out a; rwa [if_neg (by omega)] at this, HF6.out⟩
  ·
   obtain rfl : f = 8 := by omega
   have hzne : w.heap.size + 1 ≠ D := by have := HS.out.2.2.2.2; omega
   have hFne : F ≠ D := by have := HS.out.2.2.2.2; omega
   have hwne : w.heap.size ≠ D := by have := HS.out.2.2.2.2; omega
   rcases HR.out.1.all HL.out.2.1 with ⟨rfl, hsh, hno⟩ | ⟨i0, rfl, hnv, hfirst⟩
   rotate_left
   ·
    have HE : Hid (NeverAt (curveFl cs) ps i0 ∧ ∀ j, j < i0 → ¬ NeverAt (curveFl cs) ps j) := ⟨hnv, hfirst⟩
    have z0 := HR.out.2.cell HS.out.2.2.1.c0 hzne
    have z1 := HR.out.2.cell HS.out.2.2.1.c1 hzne
    have zf0 : wr.frozen? ⟨w.heap.size + 1, 0, none⟩ = false := (HR.out.2.frozen HS.out.2.2.1.c0 hzne).trans HS.out.2.2.1.f0
    have zf1 : wr.frozen? ⟨w.heap.size + 1, 1, none⟩ = false := (HR.out.2.frozen HS.out.2.2.1.c1 hzne).trans HS.out.2.2.1.f1
    have HBe : Hid (Below w.heap.size w wr) := HR.out.2.all
    clear hnv hfirst hzne hFne hwne
    go_wp2_with fail
    exact bodyPost_ret (v := .tuple #[.slice none 0 0, .slice none 0 0, .agg #[.int .i64 4, .int .i64 (i0 : Int)]]) (by simp [results, Tryz.results30, go_sem, z0, z1]) rfl ⟨(HBe.out.setCell (p := ⟨w.heap.size + 1, 0, none⟩) (Nat.le_succ _) _).setCell (p := ⟨w.heap.size + 1, 1, none⟩) (Nat.le_succ _) _, .inl ⟨i0, HE.out.1, HE.out.2, rfl⟩⟩
   ·
    have HSh : Hid (Shaped (curveFl cs) ps a ∧ ∀ i, ¬ NeverAt (curveFl cs) ps i) := ⟨hsh, hno⟩
    have HW4 : Hid (GateAt wr w.heap.size (.slice ca m ccap) kb per (.slice na r ncap) ∧ At2 wr (w.heap.size + 1) (.int .i64 0) (.int .i64 0) ∧ At2 wr F (.int .i64 0) (.int .i64 (-1)) ∧ NumsAt wr D n a ∧ Below w.heap.size w wr) := ⟨⟨HR.out.2.cell HS.out.2.1.c0 hwne, HR.out.2.cell HS.out.2.1.c1 hwne, HR.out.2.cell HS.out.2.1.c2 hwne, HR.out.2.cell HS.out.2.1.c3 hwne⟩, ⟨HR.out.2.cell HS.out.2.2.1.c0 hzne, HR.out.2.cell HS.out.2.2.1.c1 hzne, (HR.out.2.frozen HS.out.2.2.1.c0 hzne).trans HS.out.2.2.1.f0, (HR.out.2.frozen HS.out.2.2.1.c1 hzne).trans HS.out.2.2.1.f1⟩, ⟨HR.out.2.cell HS.out.2.2.2.1.c0 hFne, HR.out.2.cell HS.out.2.2.2.1.c1 hFne, (HR.out.2.frozen HS.out.2.2.2.1.c0 hFne).trans HS.out.2.2.2.1.f0, (HR.out.2.frozen HS.out.2.2.2.1.c1 hFne).trans HS.out.2.2.2.1.f1⟩, HR.out.2.at_, HR.out.2.all⟩
    obtain ⟨W4, hW4⟩ : ∃ W, W = wr := ⟨_, rfl⟩
    subst hW4
    clear hsh hno hzne hFne hwne
    go_wp2_with fail
    go_loopg [17, 18] n (fun gk ov iv wr => ∃ i : Nat, gk + i = n ∧ iv = .int .i64 i ∧ ∃ L, IsOrder a i L ∧ OwnP wr W4.heap.size ov (gatePks ps a L) ∧ (i = 0 → ov = .slice none 0 0) ∧ Below W4.heap.size W4 wr)
    case atStart => exact ⟨0, by omega, rfl, [], IsOrder.start a, World.ownsRow_nil _ _ _ _, fun _ => rfl, Below.refl _ _⟩
    case round =>
     obtain ⟨i, hi, rfl, L, hL, hown, hnil, hb⟩ := hrel
     have HI : Hid (IsOrder a i L ∧ OwnP wr W4.heap.size u17 (gatePks ps a L) ∧ Below W4.heap.size W4 wr) := ⟨hL, hown, hb⟩
     have HBw : Hid (Below w.heap.size w wr) := HW4.out.2.2.2.2.trans (hb.mono HW4.out.2.2.2.2.size)
     have hLl : L.length = i := hL.length
     by_cases hin : i < n
     ·
      obtain ⟨p, hp, -⟩ := get_some ps i (by rw [HN.out.1]; exact hin)
      obtain ⟨pb, po, rfl, -, hpc⟩ := HL.out.1.place (by rw [HN.out.1]; omega)
      have d0 := cell_later HBw.out (hpc i p hp).1
      have d1 := cell_later HBw.out (hpc i p hp).2.1
      have d2 := cell_later HBw.out (hpc i p hp).2.2
      have d3 := cell_later hb (HW4.out.2.2.2.1.cell i hin)
      have hput := gatePks_put ps a L
      obtain ⟨x0, hx0⟩ : ∃ x, p.flow = x := ⟨_, rfl⟩
      obtain ⟨x1, hx1⟩ : ∃ x, p.size = x := ⟨_, rfl⟩
      obtain ⟨x2, hx2⟩ : ∃ x, p.tick = x := ⟨_, rfl⟩
      obtain ⟨t, ht⟩ : ∃ t, a i = t := ⟨_, rfl⟩
      have HGp : Hid (∀ k, (gatePks ps a L).take k ++ [(⟨x0, x1, t⟩ : Pk)] ++ (gatePks ps a L).drop k = gatePks ps a (L.take k ++ i :: L.drop k)) := fun k => by
       have := hput k i hp
       rwa [hx0, hx1, ht] at this
      rw [hx0] at d0
      rw [hx1] at d1
      rw [hx2] at d2
      rw [ht] at d3
      have HT : Hid (a i = t) := ht
      obtain ⟨WR, hWR⟩ : ∃ W, W = wr := ⟨_, rfl⟩
      subst hWR
      obtain ⟨G4, hG4⟩ : ∃ G, G = gk := ⟨_, rfl⟩
      subst hG4
      have hbV : Below WR.heap.size WR (WR.alloc (.cells #[.int .i64 x0, .int .i64 x1, .int .i64 t] 52)) := (Below.refl _ _).alloc (Nat.le_refl _) _
      have HQc0 : Hid (∀ m' W, Below (WR.alloc (.cells #[.int .i64 x0, .int .i64 x1, .int .i64 t] 52)).heap.size ((WR.alloc (.cells #[.int .i64 x0, .int .i64 x1, .int .i64 t] 52)).drewN m') W → W.cell? ⟨WR.heap.size, 0, none⟩ = some (.int .i64 x0) ∧ W.cell? ⟨WR.heap.size, 1, none⟩ = some (.int .i64 x1) ∧ W.cell? ⟨WR.heap.size, 2, none⟩ = some (.int .i64 t)) := fun m' W hW => ⟨cell_later (w := (WR.alloc (.cells #[.int .i64 x0, .int .i64 x1, .int .i64 t] 52)).drewN m') hW (by simp), cell_later (w := (WR.alloc (.cells #[.int .i64 x0, .int .i64 x1, .int .i64 t] 52)).drewN m') hW (by simp), cell_later (w := (WR.alloc (.cells #[.int .i64 x0, .int .i64 x1, .int .i64 t] 52)).drewN m') hW (by simp)⟩
      have HV5 : Hid (Below W4.heap.size W4 (WR.alloc (.cells #[.int .i64 x0, .int .i64 x1, .int .i64 t] 52)) ∧ W4.heap.size ≤ (WR.alloc (.cells #[.int .i64 x0, .int .i64 x1, .int .i64 t] 52)).heap.size ∧ Below WR.heap.size WR (WR.alloc (.cells #[.int .i64 x0, .int .i64 x1, .int .i64 t] 52))) := ⟨hb.trans (hbV.mono hb.size), Nat.le_trans hb.size hbV.size, hbV⟩
      have d4 : (WR.alloc (.cells #[.int .i64 x0, .int .i64 x1, .int .i64 x2] 52)).cell? ⟨D, i, none⟩ = some (.int .i64 t) := cell_later ((Below.refl _ _).alloc (Nat.le_refl _) _) d3
      have q2 : (WR.alloc (.cells #[.int .i64 x0, .int .i64 x1, .int .i64 t] 52)).cell? ⟨WR.heap.size, 2, none⟩ = some (.int .i64 t) := by simp
      clear hp hpc hx0 hx1 hx2 ht hput hL hb hbV
      by_cases hi0 : i = 0
      ·
       obtain rfl : L = [] := List.length_eq_zero_iff.1 (by omega)
       obtain rfl := hnil hi0
       have HI0 : Hid (i = 0) := hi0
       have HPut : Hid (IsOrder a (i + 1) (([] : List Nat).take 0 ++ i :: ([] : List Nat).drop 0)) := HI.out.1.put (k := 0) (fun x y h => absurd h (Nat.not_lt_zero _)) (fun x y _ h => by simp at h)
       clear hown hLl hnil hi0
       go_wp2_with fail
       go_loopg [20] 0 (fun gk kv wr => kv = .int .i64 0 ∧ wr = (WR.alloc (.cells #[.int .i64 x0, .int .i64 x1, .int .i64 t] 52)))
       case atStart => exact ⟨rfl, rfl⟩
       case round =>
        obtain ⟨rfl, hwr⟩ := hrel
        subst hwr
        go_wp2_with fail
        go_quiet (fail)
        obtain ⟨V6, hV6⟩ : ∃ V, ((WR.alloc (.cells #[.int .i64 x0, .int .i64 x1, .int .i64 t] 52)).drewN nq) = V := ⟨_, rfl⟩
        obtain ⟨BB, hBB⟩ : ∃ B, (WR.alloc (.cells #[.int .i64 x0, .int .i64 x1, .int .i64 t] 52)).heap.size = B := ⟨_, rfl⟩
        have HBB : Hid (BB ≤ V6.heap.size) := by
         show BB ≤ V6.heap.size
         rw [← hV6, ← hBB]
         exact Nat.le_refl _
        have HQc : Hid (∀ W, Below BB V6 W → W.cell? ⟨WR.heap.size, 0, none⟩ = some (.int .i64 x0) ∧ W.cell? ⟨WR.heap.size, 1, none⟩ = some (.int .i64 x1) ∧ W.cell? ⟨WR.heap.size, 2, none⟩ = some (.int .i64 t)) := fun W hW => by
         rw [← hBB, ← hV6] at hW
         exact HQc0.out _ W hW
        have HBB4 : Hid (W4.heap.size ≤ BB ∧ Below W4.heap.size W4 V6) := by
         show _ ∧ _
         rw [← hBB, ← hV6]
         exact ⟨HV5.out.2.1, below_drewN HV5.out.1 _⟩
        have HTk : Hid (((gatePks ps a []).take 0).length = 0 ∧ LiesP V6 none ((gatePks ps a []).take 0) ∧ ((none : Option Addr) = none → (gatePks ps a []).take 0 = [] ∧ 0 = 0)) := ⟨rfl, .inl rfl, fun _ => ⟨rfl, rfl⟩⟩
        have HDr : Hid (((gatePks ps a []).drop 0).length = 0 ∧ (∀ W, Below BB V6 W → LiesP W none ((gatePks ps a []).drop 0)) ∧ ((none : Option Addr) = none → (gatePks ps a []).drop 0 = [] ∧ 0 = 0)) := ⟨rfl, fun _ _ => .inl rfl, fun _ => ⟨rfl, rfl⟩⟩
        have HTl : Hid (([] : List Pk).length + ((gatePks ps a []).take 0).length ≤ 1000 ∧ ((gatePks ps a []).take 0).length + [(⟨x0, x1, t⟩ : Pk)].length ≤ 1000 ∧ ((gatePks ps a []).take 0 ++ [(⟨x0, x1, t⟩ : Pk)]).length + ((gatePks ps a []).drop 0).length ≤ 1000) := ⟨by simp, by simp, by simp [gatePks]⟩
        rw [hV6]
        clear hV6 hBB
        go_wp2_with (first
         | (at_builtin; refine wpList_append_pks _ rfl _ _ rfl BB (.slice none 0 0) [] ((gatePks ps a []).take 0) none 0 0 HTk.out.1 rfl rfl (World.ownsRow_nil _ _ _ _) HTk.out.2.1 HTk.out.2.2 HTl.out.1 HBB.out ?_; rintro v7 w7 ⟨ho7, hb7⟩; have H7 : Hid (OwnP w7 BB v7 ((gatePks ps a []).take 0) ∧ Below BB V6 w7 ∧ BB ≤ w7.heap.size) := ⟨by simpa using ho7, hb7, Nat.le_trans HBB.out hb7.size⟩; obtain ⟨x7, y7, z7⟩ := HQc.out w7 hb7; have H8 : Hid (OwnP (w7.alloc (.cells #[.int .i64 x0, .int .i64 x1, .int .i64 t] 52)) BB v7 ((gatePks ps a []).take 0) ∧ LiesP (w7.alloc (.cells #[.int .i64 x0, .int .i64 x1, .int .i64 t] 52)) (some ⟨w7.heap.size, 0, none⟩) [⟨x0, x1, t⟩] ∧ Below BB V6 (w7.alloc (.cells #[.int .i64 x0, .int .i64 x1, .int .i64 t] 52)) ∧ BB ≤ (w7.alloc (.cells #[.int .i64 x0, .int .i64 x1, .int .i64 t] 52)).heap.size) := ⟨H7.out.1.later ((Below.refl _ _).alloc (Nat.le_refl _) _), liesP_new w7 x0 x1 t, H7.out.2.1.alloc H7.out.2.2 _, Nat.le_trans H7.out.2.2 (by simp)⟩; clear ho7 hb7)
         | (at_builtin; refine wpList_append_pks _ rfl _ _ rfl BB v7 ((gatePks ps a []).take 0) [⟨x0, x1, t⟩] (some ⟨w7.heap.size, 0, none⟩) 1 1 rfl rfl rfl H8.out.1 H8.out.2.1 (fun h => by cases h) HTl.out.2.1 H8.out.2.2.2 ?_; rintro v9 w9 ⟨ho9, hb9⟩; have H9 : Hid (OwnP w9 BB v9 (((gatePks ps a []).take 0) ++ [⟨x0, x1, t⟩]) ∧ Below BB V6 w9 ∧ BB ≤ w9.heap.size) := ⟨ho9, H8.out.2.2.1.trans hb9, Nat.le_trans H8.out.2.2.2 hb9.size⟩; clear ho9 hb9)
         | (at_builtin; go_must (refine wpList_append_pks _ rfl _ _ rfl BB v9 (((gatePks ps a []).take 0) ++ [⟨x0, x1, t⟩]) ((gatePks ps a []).drop 0) none 0 0 HDr.out.1 rfl rfl H9.out.1 (HDr.out.2.1 w9 H9.out.2.1) HDr.out.2.2 HTl.out.2.2 H9.out.2.2 ?_; rintro vA wA ⟨hoA, hbA⟩; have HA : Hid (OwnP wA W4.heap.size vA (gatePks ps a (([] : List Nat).take 0 ++ i :: ([] : List Nat).drop 0)) ∧ Below W4.heap.size W4 wA) := ⟨by rw [← HGp.out 0]; exact OwnP.mono hoA HBB4.out.1, HBB4.out.2.trans ((H9.out.2.1.trans hbA).mono HBB4.out.1)⟩; clear hoA hbA)))
        go_roundg (G4 - 1)
        case measure => omega
        case rel => exact ⟨i + 1, by omega, by go_num, _, HPut.out, HA.out.1, fun h => by omega, HA.out.2⟩
      ·
       obtain ⟨oa, ocap, rfl, hoc1, hoc2, hoL, hoB, -⟩ := OwnP.open hown
       have hlen : (gatePks ps a L).length = i := by rw [gatePks, List.length_map]; exact hLl
       obtain ⟨ob, oo, rfl, hobl, hocc⟩ := hoL.place (by rw [hlen]; omega)
       have HLen : Hid ((gatePks ps a L).length = i) := hlen
       have HGn : Hid (∀ m' W, Below (WR.alloc (.cells #[.int .i64 x0, .int .i64 x1, .int .i64 t] 52)).heap.size ((WR.alloc (.cells #[.int .i64 x0, .int .i64 x1, .int .i64 t] 52)).drewN m') W → LiesP W (some ⟨ob, oo, none⟩) (gatePks ps a L)) := fun m' W hW => hoL.below (HV5.out.2.2.trans ((below_drewN (Below.refl _ _) m' : Below (WR.alloc (.cells #[.int .i64 x0, .int .i64 x1, .int .i64 t] 52)).heap.size (WR.alloc (.cells #[.int .i64 x0, .int .i64 x1, .int .i64 t] 52)) ((WR.alloc (.cells #[.int .i64 x0, .int .i64 x1, .int .i64 t] 52)).drewN m')).trans hW |>.mono HV5.out.2.2.size))
       have HCy : Hid (∀ (k y : Nat), 0 < k → L[k - 1]? = some y → ∀ m', ((WR.alloc (.cells #[.int .i64 x0, .int .i64 x1, .int .i64 t] 52)).drewN m').cell? ⟨ob, oo + (k - 1) * 3 + 2, none⟩ = some (.int .i64 (a y))) := fun k y hk0 hy m' => by
        have hg : (gatePks ps a L)[k - 1]? = some (gatePk ps a y) := by rw [gatePks, List.getElem?_map, hy]; rfl
        have hyi := (HI.out.1.mem y).1 (List.mem_of_getElem? hy)
        obtain ⟨py, hpy, -⟩ := get_some ps y (by rw [HN.out.1]; omega)
        have hc := (hocc (k - 1) _ hg).2.2
        rw [gatePk_get hpy] at hc
        exact cell_later (w := WR) (below_drewN HV5.out.2.2 m') hc
       rw [hlen] at hoc1 ⊢
       unfold maxLen at hoc2
       clear hown hnil hoL hoB hobl hocc hlen
       go_wp2_with fail
       go_loopg [20] i (fun gk kv wr => ∃ k : Nat, gk = k ∧ k ≤ i ∧ kv = .int .i64 k ∧ (∀ (x y : Nat), k ≤ x → L[x]? = some y → t < a y) ∧ ∃ m', wr = (WR.alloc (.cells #[.int .i64 x0, .int .i64 x1, .int .i64 t] 52)).drewN m')
       case atStart => exact ⟨i, rfl, Nat.le_refl _, rfl, fun x y h1 h2 => by have := lt_of_get h2; omega, 0, rfl⟩
       case round =>
        obtain ⟨k, hgk, hki, rfl, hhi, m', hwr⟩ := hrel
        have HHi : Hid (∀ (x y : Nat), k ≤ x → L[x]? = some y → t < a y) := hhi
        have HWr : Hid (wr = (WR.alloc (.cells #[.int .i64 x0, .int .i64 x1, .int .i64 t] 52)).drewN m') := hwr
        have q2' : wr.cell? ⟨WR.heap.size, 2, none⟩ = some (.int .i64 t) := by rw [hwr]; exact q2
        clear hhi
        by_cases hk0 : 0 < k
        ·
         obtain ⟨y, hy, -⟩ := get_some L (k - 1) (by omega)
         have cy : wr.cell? ⟨ob, oo + (k - 1) * 3 + 2, none⟩ = some (.int .i64 (a y)) := by rw [hwr]; exact HCy.out k y hk0 hy m'
         have HY : Hid (L[k - 1]? = some y) := hy
         have dk : decide ((0 : Int) < (k : Int)) = true := by simpa using hk0
         obtain ⟨ty, hty⟩ : ∃ ty, a y = ty := ⟨_, rfl⟩
         rw [hty] at cy
         have HTy : Hid (a y = ty) := hty
         clear hy hty hwr
         by_cases hlt : t < ty
         ·
          have dl : decide (t < ty) = true := by simpa using hlt
          have HHi' : Hid (∀ (x z : Nat), k - 1 ≤ x → L[x]? = some z → t < a z) := fun x z h1 h2 => by
           rcases Nat.lt_or_ge x k with h | h
           ·
            obtain rfl : x = k - 1 := by omega
            obtain rfl := Option.some.inj (HY.out.symm.trans h2)
            rw [HTy.out]
            exact hlt
           · exact HHi.out x z h h2
          clear hlt
          go_wp2_with fail
          go_quiet (fail)
          go_wp2_with fail
          go_roundg (gk - 1)
          case measure => omega
          case rel => exact ⟨k - 1, by omega, by omega, by go_num, HHi'.out, m' + nq, by rw [HWr.out, World.drewN_drewN]⟩
         ·
          have dl : decide (t < ty) = false := by simpa using hlt
          have HLow : Hid (∀ (x z : Nat), x < k → L[x]? = some z → a z ≤ t) := fun x z h1 h2 => order_low HI.out.1 HY.out (by rw [HTy.out]; omega) x z (by omega) h2
          clear hlt
          go_wp2_with fail
          go_quiet (fail)
          have hW6 : wr.drewN nq = (WR.alloc (.cells #[.int .i64 x0, .int .i64 x1, .int .i64 t] 52)).drewN (m' + nq) := by rw [HWr.out, World.drewN_drewN]
          rw [hW6]
          clear hW6 dk dl cy
          have HPut : Hid (IsOrder a (i + 1) (L.take k ++ i :: L.drop k)) := HI.out.1.put (k := k) (fun x y h1 h2 => by rw [HT.out]; exact HLow.out x y h1 h2) (fun x y h1 h2 => by rw [HT.out]; exact HHi.out x y h1 h2)
          obtain ⟨V6, hV6⟩ : ∃ V, ((WR.alloc (.cells #[.int .i64 x0, .int .i64 x1, .int .i64 t] 52)).drewN (m' + nq)) = V := ⟨_, rfl⟩
          obtain ⟨BB, hBB⟩ : ∃ B, (WR.alloc (.cells #[.int .i64 x0, .int .i64 x1, .int .i64 t] 52)).heap.size = B := ⟨_, rfl⟩
          have HBB : Hid (BB ≤ V6.heap.size) := by
           show BB ≤ V6.heap.size
           rw [← hV6, ← hBB]
           exact Nat.le_refl _
          have HQc : Hid (∀ W, Below BB V6 W → W.cell? ⟨WR.heap.size, 0, none⟩ = some (.int .i64 x0) ∧ W.cell? ⟨WR.heap.size, 1, none⟩ = some (.int .i64 x1) ∧ W.cell? ⟨WR.heap.size, 2, none⟩ = some (.int .i64 t)) := fun W hW => by
           rw [← hBB, ← hV6] at hW
           exact HQc0.out _ W hW
          have HBB4 : Hid (W4.heap.size ≤ BB ∧ Below W4.heap.size W4 V6) := by
           show _ ∧ _
           rw [← hBB, ← hV6]
           exact ⟨HV5.out.2.1, below_drewN HV5.out.1 _⟩
          have HLP : Hid (∀ W, Below BB V6 W → LiesP W (some ⟨ob, oo, none⟩) (gatePks ps a L)) := fun W hW => by
           rw [← hBB, ← hV6] at hW
           exact HGn.out _ W hW
          have HTk : Hid (((gatePks ps a L).take k).length = k ∧ LiesP V6 (some ⟨ob, oo, none⟩) ((gatePks ps a L).take k) ∧ ((some ⟨ob, oo, none⟩ : Option Addr) = none → (gatePks ps a L).take k = [] ∧ ocap = 0)) := ⟨by rw [List.length_take, HLen.out]; omega, liesP_take (HLP.out V6 (Below.refl _ _)) k, fun h => by cases h⟩
          have HTl : Hid (([] : List Pk).length + ((gatePks ps a L).take k).length ≤ 1000 ∧ ((gatePks ps a L).take k).length + [(⟨x0, x1, t⟩ : Pk)].length ≤ 1000 ∧ ((gatePks ps a L).take k ++ [(⟨x0, x1, t⟩ : Pk)]).length + ((gatePks ps a L).drop k).length ≤ 1000) := by
           have h1 := HTk.out.1
           have h2 : ((gatePks ps a L).drop k).length = i - k := by rw [List.length_drop, HLen.out]
           refine ⟨?_, ?_, ?_⟩
           · rw [h1]; simp; omega
           · rw [h1]; simp; omega
           · rw [List.length_append, h1, h2]; simp; omega
          rw [hV6]
          by_cases hkc : k = ocap
          ·
           subst hkc
           obtain rfl : i = k := by omega
           have HDr : Hid (((gatePks ps a L).drop i).length = 0 ∧ (∀ W, Below BB V6 W → LiesP W (some ⟨ob, oo, none⟩) ((gatePks ps a L).drop i)) ∧ ((some ⟨ob, oo, none⟩ : Option Addr) = none → (gatePks ps a L).drop i = [] ∧ 0 = 0)) := ⟨by rw [List.length_drop, HLen.out]; omega, fun _ _ => .inl (List.drop_eq_nil_of_le (by rw [HLen.out]; omega)), fun h => by cases h⟩
           clear hV6 hBB
           go_wp2_with (first
            | (at_builtin; refine wpList_append_pks _ rfl _ _ rfl BB (.slice none 0 0) [] ((gatePks ps a L).take i) (some ⟨ob, oo, none⟩) i i HTk.out.1 rfl rfl (World.ownsRow_nil _ _ _ _) HTk.out.2.1 HTk.out.2.2 HTl.out.1 HBB.out ?_; rintro v7 w7 ⟨ho7, hb7⟩; have H7 : Hid (OwnP w7 BB v7 ((gatePks ps a L).take i) ∧ Below BB V6 w7 ∧ BB ≤ w7.heap.size) := ⟨by simpa using ho7, hb7, Nat.le_trans HBB.out hb7.size⟩; obtain ⟨x7, y7, z7⟩ := HQc.out w7 hb7; have H8 : Hid (OwnP (w7.alloc (.cells #[.int .i64 x0, .int .i64 x1, .int .i64 t] 52)) BB v7 ((gatePks ps a L).take i) ∧ LiesP (w7.alloc (.cells #[.int .i64 x0, .int .i64 x1, .int .i64 t] 52)) (some ⟨w7.heap.size, 0, none⟩) [⟨x0, x1, t⟩] ∧ Below BB V6 (w7.alloc (.cells #[.int .i64 x0, .int .i64 x1, .int .i64 t] 52)) ∧ BB ≤ (w7.alloc (.cells #[.int .i64 x0, .int .i64 x1, .int .i64 t] 52)).heap.size) := ⟨H7.out.1.later ((Below.refl _ _).alloc (Nat.le_refl _) _), liesP_new w7 x0 x1 t, H7.out.2.1.alloc H7.out.2.2 _, Nat.le_trans H7.out.2.2 (by simp)⟩; clear ho7 hb7)
            | (at_builtin; refine wpList_append_pks _ rfl _ _ rfl BB v7 ((gatePks ps a L).take i) [⟨x0, x1, t⟩] (some ⟨w7.heap.size, 0, none⟩) 1 1 rfl rfl rfl H8.out.1 H8.out.2.1 (fun h => by cases h) HTl.out.2.1 H8.out.2.2.2 ?_; rintro v9 w9 ⟨ho9, hb9⟩; have H9 : Hid (OwnP w9 BB v9 (((gatePks ps a L).take i) ++ [⟨x0, x1, t⟩]) ∧ Below BB V6 w9 ∧ BB ≤ w9.heap.size) := ⟨ho9, H8.out.2.2.1.trans hb9, Nat.le_trans H8.out.2.2.2 hb9.size⟩; clear ho9 hb9)
            | (at_builtin; go_must (refine wpList_append_pks _ rfl _ _ rfl BB v9 (((gatePks ps a L).take i) ++ [⟨x0, x1, t⟩]) ((gatePks ps a L).drop i) (some ⟨ob, oo, none⟩) 0 0 HDr.out.1 rfl rfl H9.out.1 (HDr.out.2.1 w9 H9.out.2.1) HDr.out.2.2 HTl.out.2.2 H9.out.2.2 ?_; rintro vA wA ⟨hoA, hbA⟩; have HA : Hid (OwnP wA W4.heap.size vA (gatePks ps a (L.take i ++ i :: L.drop i)) ∧ Below W4.heap.size W4 wA) := ⟨by rw [← HGp.out i]; exact OwnP.mono hoA HBB4.out.1, HBB4.out.2.trans ((H9.out.2.1.trans hbA).mono HBB4.out.1)⟩; clear hoA hbA)))
           go_roundg (G4 - 1)
           case measure => omega
           case rel => exact ⟨i + 1, by omega, by go_num, _, HPut.out, HA.out.1, fun h => by omega, HA.out.2⟩
          ·
           have hkc' : k < ocap := by omega
           have HDr : Hid (((gatePks ps a L).drop k).length = i - k ∧ (∀ W, Below BB V6 W → LiesP W (some ⟨ob, oo + k * 3, none⟩) ((gatePks ps a L).drop k)) ∧ ((some ⟨ob, oo + k * 3, none⟩ : Option Addr) = none → (gatePks ps a L).drop k = [] ∧ ocap - k = 0)) := ⟨by rw [List.length_drop, HLen.out], fun W hW => (HLP.out W hW).drop k, fun h => by cases h⟩
           clear hV6 hBB hkc
           go_wp2_with (first
            | (at_builtin; refine wpList_append_pks _ rfl _ _ rfl BB (.slice none 0 0) [] ((gatePks ps a L).take k) (some ⟨ob, oo, none⟩) k ocap HTk.out.1 rfl rfl (World.ownsRow_nil _ _ _ _) HTk.out.2.1 HTk.out.2.2 HTl.out.1 HBB.out ?_; rintro v7 w7 ⟨ho7, hb7⟩; have H7 : Hid (OwnP w7 BB v7 ((gatePks ps a L).take k) ∧ Below BB V6 w7 ∧ BB ≤ w7.heap.size) := ⟨by simpa using ho7, hb7, Nat.le_trans HBB.out hb7.size⟩; obtain ⟨x7, y7, z7⟩ := HQc.out w7 hb7; have H8 : Hid (OwnP (w7.alloc (.cells #[.int .i64 x0, .int .i64 x1, .int .i64 t] 52)) BB v7 ((gatePks ps a L).take k) ∧ LiesP (w7.alloc (.cells #[.int .i64 x0, .int .i64 x1, .int .i64 t] 52)) (some ⟨w7.heap.size, 0, none⟩) [⟨x0, x1, t⟩] ∧ Below BB V6 (w7.alloc (.cells #[.int .i64 x0, .int .i64 x1, .int .i64 t] 52)) ∧ BB ≤ (w7.alloc (.cells #[.int .i64 x0, .int .i64 x1, .int .i64 t] 52)).heap.size) := ⟨H7.out.1.later ((Below.refl _ _).alloc (Nat.le_refl _) _), liesP_new w7 x0 x1 t, H7.out.2.1.alloc H7.out.2.2 _, Nat.le_trans H7.out.2.2 (by simp)⟩; clear ho7 hb7)
            | (at_builtin; refine wpList_append_pks _ rfl _ _ rfl BB v7 ((gatePks ps a L).take k) [⟨x0, x1, t⟩] (some ⟨w7.heap.size, 0, none⟩) 1 1 rfl rfl rfl H8.out.1 H8.out.2.1 (fun h => by cases h) HTl.out.2.1 H8.out.2.2.2 ?_; rintro v9 w9 ⟨ho9, hb9⟩; have H9 : Hid (OwnP w9 BB v9 (((gatePks ps a L).take k) ++ [⟨x0, x1, t⟩]) ∧ Below BB V6 w9 ∧ BB ≤ w9.heap.size) := ⟨ho9, H8.out.2.2.1.trans hb9, Nat.le_trans H8.out.2.2.2 hb9.size⟩; clear ho9 hb9)
            | (at_builtin; go_must (refine wpList_append_pks _ rfl _ _ rfl BB v9 (((gatePks ps a L).take k) ++ [⟨x0, x1, t⟩]) ((gatePks ps a L).drop k) (some ⟨ob, oo + k * 3, none⟩) (i - k) (ocap - k) HDr.out.1 rfl rfl H9.out.1 (HDr.out.2.1 w9 H9.out.2.1) HDr.out.2.2 HTl.out.2.2 H9.out.2.2 ?_; rintro vA wA ⟨hoA, hbA⟩; have HA : Hid (OwnP wA W4.heap.size vA (gatePks ps a (L.take k ++ i :: L.drop k)) ∧ Below W4.heap.size W4 wA) := ⟨by rw [← HGp.out k]; exact OwnP.mono hoA HBB4.out.1, HBB4.out.2.trans ((H9.out.2.1.trans hbA).mono HBB4.out.1)⟩; clear hoA hbA)))
           go_roundg (G4 - 1)
           case measure => omega
           case rel => exact ⟨i + 1, by omega, by go_num, _, HPut.out, HA.out.1, fun h => by omega, HA.out.2⟩
        ·
         have dk : decide ((0 : Int) < (k : Int)) = false := by simpa using (show ¬ (0 : Int) < (k : Int) by omega)
         have dk' : decide (0 < k) = false := by simpa using hk0
         have HLow : Hid (∀ (x z : Nat), x < k → L[x]? = some z → a z ≤ t) := fun x z h1 h2 => by omega
         clear hwr
         go_wp2_with fail
         go_quiet (fail)
         have hW6 : wr.drewN nq = (WR.alloc (.cells #[.int .i64 x0, .int .i64 x1, .int .i64 t] 52)).drewN (m' + nq) := by rw [HWr.out, World.drewN_drewN]
         rw [hW6]
         clear hW6 dk dk'
         have HPut : Hid (IsOrder a (i + 1) (L.take k ++ i :: L.drop k)) := HI.out.1.put (k := k) (fun x y h1 h2 => by rw [HT.out]; exact HLow.out x y h1 h2) (fun x y h1 h2 => by rw [HT.out]; exact HHi.out x y h1 h2)
         obtain ⟨V6, hV6⟩ : ∃ V, ((WR.alloc (.cells #[.int .i64 x0, .int .i64 x1, .int .i64 t] 52)).drewN (m' + nq)) = V := ⟨_, rfl⟩
         obtain ⟨BB, hBB⟩ : ∃ B, (WR.alloc (.cells #[.int .i64 x0, .int .i64 x1, .int .i64 t] 52)).heap.size = B := ⟨_, rfl⟩
         have HBB : Hid (BB ≤ V6.heap.size) := by
          show BB ≤ V6.heap.size
          rw [← hV6, ← hBB]
          exact Nat.le_refl _
         have HQc : Hid (∀ W, Below BB V6 W → W.cell? ⟨WR.heap.size, 0, none⟩ = some (.int .i64 x0) ∧ W.cell? ⟨WR.heap.size, 1, none⟩ = some (.int .i64 x1) ∧ W.cell? ⟨WR.heap.size, 2, none⟩ = some (.int .i64 t)) := fun W hW => by
          rw [← hBB, ← hV6] at hW
          exact HQc0.out _ W hW
         have HBB4 : Hid (W4.heap.size ≤ BB ∧ Below W4.heap.size W4 V6) := by
          show _ ∧ _
          rw [← hBB, ← hV6]
          exact ⟨HV5.out.2.1, below_drewN HV5.out.1 _⟩
         have HLP : Hid (∀ W, Below BB V6 W → LiesP W (some ⟨ob, oo, none⟩) (gatePks ps a L)) := fun W hW => by
          rw [← hBB, ← hV6] at hW
          exact HGn.out _ W hW
         have HTk : Hid (((gatePks ps a L).take k).length = k ∧ LiesP V6 (some ⟨ob, oo, none⟩) ((gatePks ps a L).take k) ∧ ((some ⟨ob, oo, none⟩ : Option Addr) = none → (gatePks ps a L).take k = [] ∧ ocap = 0)) := ⟨by rw [List.length_take, HLen.out]; omega, liesP_take (HLP.out V6 (Below.refl _ _)) k, fun h => by cases h⟩
         have HTl : Hid (([] : List Pk).length + ((gatePks ps a L).take k).length ≤ 1000 ∧ ((gatePks ps a L).take k).length + [(⟨x0, x1, t⟩ : Pk)].length ≤ 1000 ∧ ((gatePks ps a L).take k ++ [(⟨x0, x1, t⟩ : Pk)]).length + ((gatePks ps a L).drop k).length ≤ 1000) := by
          have h1 := HTk.out.1
          have h2 : ((gatePks ps a L).drop k).length = i - k := by rw [List.length_drop, HLen.out]
          refine ⟨?_, ?_, ?_⟩
          · rw [h1]; simp; omega
          · rw [h1]; simp; omega
          · rw [List.length_append, h1, h2]; simp; omega
         rw [hV6]
         have hkc' : k < ocap := by omega
         have HDr : Hid (((gatePks ps a L).drop k).length = i - k ∧ (∀ W, Below BB V6 W → LiesP W (some ⟨ob, oo + k * 3, none⟩) ((gatePks ps a L).drop k)) ∧ ((some ⟨ob, oo + k * 3, none⟩ : Option Addr) = none → (gatePks ps a L).drop k = [] ∧ ocap - k = 0)) := ⟨by rw [List.length_drop, HLen.out], fun W hW => (HLP.out W hW).drop k, fun h => by cases h⟩
         clear hV6 hBB
         go_wp2_with (first
          | (at_builtin; refine wpList_append_pks _ rfl _ _ rfl BB (.slice none 0 0) [] ((gatePks ps a L).take k) (some ⟨ob, oo, none⟩) k ocap HTk.out.1 rfl rfl (World.ownsRow_nil _ _ _ _) HTk.out.2.1 HTk.out.2.2 HTl.out.1 HBB.out ?_; rintro v7 w7 ⟨ho7, hb7⟩; have H7 : Hid (OwnP w7 BB v7 ((gatePks ps a L).take k) ∧ Below BB V6 w7 ∧ BB ≤ w7.heap.size) := ⟨by simpa using ho7, hb7, Nat.le_trans HBB.out hb7.size⟩; obtain ⟨x7, y7, z7⟩ := HQc.out w7 hb7; have H8 : Hid (OwnP (w7.alloc (.cells #[.int .i64 x0, .int .i64 x1, .int .i64 t] 52)) BB v7 ((gatePks ps a L).take k) ∧ LiesP (w7.alloc (.cells #[.int .i64 x0, .int .i64 x1, .int .i64 t] 52)) (some ⟨w7.heap.size, 0, none⟩) [⟨x0, x1, t⟩] ∧ Below BB V6 (w7.alloc (.cells #[.int .i64 x0, .int .i64 x1, .int .i64 t] 52)) ∧ BB ≤ (w7.alloc (.cells #[.int .i64 x0, .int .i64 x1, .int .i64 t] 52)).heap.size) := ⟨H7.out.1.later ((Below.refl _ _).alloc (Nat.le_refl _) _), liesP_new w7 x0 x1 t, H7.out.2.1.alloc H7.out.2.2 _, Nat.le_trans H7.out.2.2 (by simp)⟩; clear ho7 hb7)
          | (at_builtin; refine wpList_append_pks _ rfl _ _ rfl BB v7 ((gatePks ps a L).take k) [⟨x0, x1, t⟩] (some ⟨w7.heap.size, 0, none⟩) 1 1 rfl rfl rfl H8.out.1 H8.out.2.1 (fun h => by cases h) HTl.out.2.1 H8.out.2.2.2 ?_; rintro v9 w9 ⟨ho9, hb9⟩; have H9 : Hid (OwnP w9 BB v9 (((gatePks ps a L).take k) ++ [⟨x0, x1, t⟩]) ∧ Below BB V6 w9 ∧ BB ≤ w9.heap.size) := ⟨ho9, H8.out.2.2.1.trans hb9, Nat.le_trans H8.out.2.2.2 hb9.size⟩; clear ho9 hb9)
          | (at_builtin; go_must (refine wpList_append_pks _ rfl _ _ rfl BB v9 (((gatePks ps a L).take k) ++ [⟨x0, x1, t⟩]) ((gatePks ps a L).drop k) (some ⟨ob, oo + k * 3, none⟩) (i - k) (ocap - k) HDr.out.1 rfl rfl H9.out.1 (HDr.out.2.1 w9 H9.out.2.1) HDr.out.2.2 HTl.out.2.2 H9.out.2.2 ?_; rintro vA wA ⟨hoA, hbA⟩; have HA : Hid (OwnP wA W4.heap.size vA (gatePks ps a (L.take k ++ i :: L.drop k)) ∧ Below W4.heap.size W4 wA) := ⟨by rw [← HGp.out k]; exact OwnP.mono hoA HBB4.out.1, HBB4.out.2.trans ((H9.out.2.1.trans hbA).mono HBB4.out.1)⟩; clear hoA hbA)))
         go_roundg (G4 - 1)
         case measure => omega
         case rel => exact ⟨i + 1, by omega, by go_num, _, HPut.out, HA.out.1, fun h => by omega, HA.out.2⟩
     ·
      obtain rfl : i = n := by omega
      obtain ⟨oa, ocap, rfl, hoc1, hoc2, hoL, hoB, -⟩ := OwnP.open hown
      have hok := HSh.out.1.ok HL.out.2.1 HL.out.2.2.2.ok (L := L) (by rw [HN.out.1]; exact hL)
      have HLc : Hid (Calls Tryz.prog 64 #[.agg #[.slice ca m ccap, .string kb, .int .i64 per, .slice na r ncap], .slice oa (gatePks ps a L).length ocap] wr fun e w' => LinkEnd k per (gatePks ps a L) ns wr e w') := HLk.out wr oa ocap (gatePks ps a L) HBw.out hoL hok
      obtain ⟨g0, g1, g2, g3⟩ := HW4.out.1.later hb
      have HRes : Hid (At2 wr (w.heap.size + 1) (.int .i64 0) (.int .i64 0) ∧ At2 wr F (.int .i64 0) (.int .i64 (-1)) ∧ w.heap.size + 1 < W4.heap.size) := ⟨HW4.out.2.1.later hb, HW4.out.2.2.1.later hb, cell_lt HW4.out.2.1.c0⟩
      have HOw : Hid (OwnP wr W4.heap.size (.slice oa (gatePks ps a L).length ocap) (gatePks ps a L)) := hown
      have HLI : Hid (IsOrder a ps.length L) := by rw [HN.out.1]; exact hL
      obtain ⟨ql, hql⟩ : ∃ q, (gatePks ps a L).length = q := ⟨_, rfl⟩
      rw [hql] at HLc HOw ⊢
      clear hL hown hnil hb hoc1 hoc2 hoL hoB hok hLl hql
      go_wp2_with fail
      refine HLc.out.mono ?_
      rintro e w5 ⟨v, l, rfl, hv, hls, hb5⟩
      obtain ⟨z0, z1, zf0, zf1⟩ := HRes.out.1.later hb5
      obtain ⟨f0, f1, ff0, ff1⟩ := HRes.out.2.1.later hb5
      have HE : Hid (OwnP w5 W4.heap.size (.slice oa ql ocap) (gatePks ps a L) ∧ OwnS w5 W4.heap.size v l ∧ LinkSends k per (gatePks ps a L) ns l ∧ Below w.heap.size w w5) := ⟨HOw.out.later hb5, ownsRow_mono hv HI.out.2.2.size, hls, HBw.out.trans (hb5.mono HBw.out.size)⟩
      have HKeep : Hid (∀ {e' sz n' : Nat} {v' : Value} {xs : List Value} (u1 u2 : Value), w5.ownsRow W4.heap.size e' sz v' n' xs → (((w5.setCell ⟨w.heap.size + 1, 0, none⟩ u1).setCell ⟨w.heap.size + 1, 1, none⟩ u2).drew).ownsRow w.heap.size e' sz v' n' xs) := fun {e' sz n' v' xs} u1 u2 h => by
       refine ownsRow_mono (ownsRow_of_block h fun g hg _ => ?_) (Nat.le_trans (Nat.le_succ _) (Nat.le_of_lt HRes.out.2.2))
       have hgB := (ownsRow_lt h hg).1
       have hne : g ≠ w.heap.size + 1 := by have := HRes.out.2.2; omega
       exact (Below.heap_setCell _ _ _ _ hne).trans (Below.heap_setCell _ _ _ _ hne)
      clear hv hls hb5 ff0 ff1 g0 g1 g2 g3
      go_wp2_with fail
      go_region
      go_wp2_with fail
      exact bodyPost_ret (v := .tuple #[.slice oa ql ocap, v, .agg #[.int .i64 0, .int .i64 (-1)]]) (by simp [results, Tryz.results30, go_sem, z0, z1]) rfl ⟨below_drewN ((HE.out.2.2.2.setCell (p := ⟨w.heap.size + 1, 0, none⟩) (Nat.le_succ _) _).setCell (p := ⟨w.heap.size + 1, 1, none⟩) (Nat.le_succ _) _) 1, .inr ⟨HSh.out.2, _, _, _, _, rfl, HKeep.out _ _ HE.out.1, HKeep.out _ _ HE.out.2.1, a, L, HSh.out.1, HLI.out, rfl, HE.out.2.2.1⟩⟩
end Go.Proofs.YtibhkijaafdkoaaGreatDoor
