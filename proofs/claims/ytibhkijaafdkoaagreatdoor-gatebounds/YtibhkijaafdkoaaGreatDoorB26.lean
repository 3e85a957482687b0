/- Own facts, put together: no statement of its own. -/
import Derived.Test.YtibhkijaafdkoaaGreatDoorB19
import Derived.Test.YtibhkijaafdkoaaGreatDoorB25
namespace Go.Proofs.YtibhkijaafdkoaaGreatDoor
open Go.RowKit
def GfEnd (c p : Int) (w : World) (e : Ending) (w' : World) : Prop := e = .returned (.agg #[.int .i64 c, .int .i64 p]) ∧ Below w.heap.size w w'
set_option maxRecDepth 100000 in
set_option maxHeartbeats 8000000 in
theorem refGateFault_is (ca : Option Addr) (ccap : Nat) (cs : List (List (Int × Int))) (kb : ByteArray) (per : Int) (na : Option Addr) (ncap : Nat) (ns : List Int) (w : World) (c p : Int) (hc : LiesC w ca cs) (hcs : cs.length ≤ 1000) (hn : LiesN w na ns) (hns : ns.length ≤ 1000) (h : GateIs cs (kindOf kb.toList) per ns c p) :
  Calls Tryz.prog 13 #[.agg #[.slice ca cs.length ccap, .string kb, .int .i64 per, .slice na ns.length ncap]] w fun e w' => GfEnd c p w e w' := by
 have HNum : Hid (∀ W lo hi d, Below w.heap.size w W → NumsFault lo hi ns d → Calls Tryz.prog 38 #[.slice na ns.length ncap, .int .i64 lo, .int .i64 hi] W fun e w' => e = .returned (.int .i64 d) ∧ w' = W) := fun W lo hi d hb hd => numbersError_is na ncap ns lo hi W (hn.below hb) d hd
 have HWt : Hid (∀ W d, Below w.heap.size w W → WtsFault ns d → Calls Tryz.prog 39 #[.slice na ns.length ncap] W fun e w' => e = .returned (.int .i64 d) ∧ w' = W) := fun W d hb hd => weightsError_is na ncap ns W (by omega) (hn.below hb) d hd
 have HC : Hid (LiesC w ca cs) := hc
 have HG : Hid (GateIs cs (kindOf kb.toList) per ns c p) := h
 have hkt := kindTests kb
 obtain ⟨k, hk⟩ : ∃ k, kindOf kb.toList = k := ⟨_, rfl⟩
 have hk5 : k ≤ 5 := by rw [← hk]; exact kindOf_le _
 rw [hk] at HG hkt
 obtain ⟨m, hm⟩ : ∃ m, cs.length = m := ⟨_, rfl⟩
 obtain ⟨r, hr⟩ : ∃ r, ns.length = r := ⟨_, rfl⟩
 have HM : Hid (cs.length = m ∧ ns.length = r) := ⟨hm, hr⟩
 rw [hm] at hcs
 rw [hr] at hns HNum HWt
 rw [hm, hr]
 clear hc hn h hk hm hr
 have hbV : Below w.heap.size w ((w.alloc (.cells #[.slice ca m ccap, .string kb, .int .i64 per, .slice na r ncap] 25)).alloc (.cells #[.int .i64 0, .int .i64 0] 35)) := ((Below.refl _ _).alloc (Nat.le_refl _) _).alloc (by simp) _
 have hs1 : (w.alloc (.cells #[.slice ca m ccap, .string kb, .int .i64 per, .slice na r ncap] 25)).heap.size = w.heap.size + 1 := by simp
 have hga : GateAt ((w.alloc (.cells #[.slice ca m ccap, .string kb, .int .i64 per, .slice na r ncap] 25)).alloc (.cells #[.int .i64 0, .int .i64 0] 35)) w.heap.size (.slice ca m ccap) kb per (.slice na r ncap) := (gateAt_new w (.slice ca m ccap) kb per (.slice na r ncap) 25).later ((Below.refl _ _).alloc (Nat.le_refl _) _)
 have h2a : At2 ((w.alloc (.cells #[.slice ca m ccap, .string kb, .int .i64 per, .slice na r ncap] 25)).alloc (.cells #[.int .i64 0, .int .i64 0] 35)) (w.heap.size + 1) (.int .i64 0) (.int .i64 0) := by
  have := at2_new (w.alloc (.cells #[.slice ca m ccap, .string kb, .int .i64 per, .slice na r ncap] 25)) (.int .i64 0) (.int .i64 0) 35
  rwa [hs1] at this
 obtain ⟨V, hV⟩ : ∃ V, ((w.alloc (.cells #[.slice ca m ccap, .string kb, .int .i64 per, .slice na r ncap] 25)).alloc (.cells #[.int .i64 0, .int .i64 0] 35)) = V := ⟨_, rfl⟩
 rw [hV] at hbV hga h2a
 have HV : Hid (Below w.heap.size w V ∧ GateAt V w.heap.size (.slice ca m ccap) kb per (.slice na r ncap) ∧ At2 V (w.heap.size + 1) (.int .i64 0) (.int .i64 0)) := ⟨hbV, hga, h2a⟩
 have HEnd : Hid (∀ W c' p', Below V.heap.size V W → c' = c → p' = p → GfEnd c p w (.returned (.agg #[.int .i64 c', .int .i64 p'])) ((W.setCell ⟨w.heap.size + 1, 0, none⟩ (.int .i64 c')).setCell ⟨w.heap.size + 1, 1, none⟩ (.int .i64 p'))) := fun W c' p' hW e1 e2 => by
  have hb : Below w.heap.size w W := hbV.trans (hW.mono hbV.size)
  rw [e1, e2]
  exact ⟨rfl, (hb.setCell (p := ⟨w.heap.size + 1, 0, none⟩) (Nat.le_succ _) _).setCell (p := ⟨w.heap.size + 1, 1, none⟩) (Nat.le_succ _) _⟩
 have g0 := hga.c0
 by_cases h8 : m = 8
 ·
  subst h8
  clear hbV hga h2a hs1
  go_enter Tryz.func13, Tryz.ntmps13
  go_wp2_with fail
  go_loopw [3] (fun i wr => ∃ j : Nat, j ≤ 8 ∧ i = .int .i64 j ∧ CurvesTo cs j ∧ Below V.heap.size V wr) (fun i _ => 8 - (intOf i).toNat)
  case atStart => exact ⟨0, Nat.zero_le _, rfl, fun i ls hi => absurd hi (Nat.not_lt_zero _), Below.refl _ _⟩
  case round =>
   obtain ⟨j, hj, rfl, hto, hb⟩ := hrel
   have HR : Hid (CurvesTo cs j ∧ Below V.heap.size V wr) := ⟨hto, hb⟩
   have x0 := cell_later hb HV.out.2.1.c0
   clear hto hb
   by_cases hj8 : j < 8
   ·
    obtain ⟨ls, hls, -⟩ := get_some cs j (by rw [HM.out.1]; exact hj8)
    obtain ⟨b, off, rfl, -, hcc⟩ := HC.out.place (by rw [HM.out.1]; omega)
    obtain ⟨a', cap, cj, hlies, hlc, hlm, -⟩ := hcc j ls hls
    have HBw : Hid (Below w.heap.size w wr) := HV.out.1.trans (HR.out.2.mono HV.out.1.size)
    have cj' := cell_later HBw.out cj
    have HCf : Hid (∀ W c' p', Below w.heap.size w W → FaultIs ls c' p' → Calls Tryz.prog 37 #[.slice a' ls.length cap] W fun e w' => e = .returned (.agg #[.int .i64 c', .int .i64 p']) ∧ Below W.heap.size W w') := fun W c' p' hb hf => curveFault_is a' cap ls W (hlies.below hb) hlc hlm c' p' hf
    have HLs : Hid (cs[j]? = some ls) := hls
    have hll : ls.length ≤ 9223372036854775807 := Nat.le_trans hlc (Nat.le_trans hlm (by unfold maxLen; omega))
    obtain ⟨q, hq⟩ : ∃ q, ls.length = q := ⟨_, rfl⟩
    have HQ : Hid (ls.length = q) := hq
    rw [hq] at cj' HCf hll
    clear hcc cj hlies hlc hlm hls hq
    by_cases hq0 : q = 0
    ·
     subst hq0
     have HTo : Hid (CurvesTo cs (j + 1)) := fun i l hi hl => by
      rcases Nat.lt_or_ge i j with h | h
      · exact HR.out.1 i l h hl
      ·
       obtain rfl : i = j := by omega
       obtain rfl := Option.some.inj (HLs.out.symm.trans hl)
       exact .inl (List.length_eq_zero_iff.1 HQ.out)
     go_wp2_with fail
     go_roundw
     case rel => exact ⟨j + 1, by omega, by go_num, HTo.out, HR.out.2⟩
     case measure => simp [intOf]; omega
    ·
     obtain ⟨c', p', hf⟩ := fault_is ls
     have hcn := hf.num
     have HF : Hid (FaultIs ls c' p') := hf
     clear hf
     go_wp2_with fail
     refine (HCf.out _ c' p' HBw.out HF.out).mono ?_
     rintro e w2 ⟨rfl, hb2⟩
     have hb3 : Below wr.heap.size wr (w2.alloc (.cells #[.int .i64 c', .int .i64 p'] 35)) := hb2.alloc hb2.size _
     have HB3 : Hid (Below V.heap.size V (w2.alloc (.cells #[.int .i64 c', .int .i64 p'] 35))) := HR.out.2.trans (hb3.mono HR.out.2.size)
     obtain ⟨z0, z1, zf0, zf1⟩ := HV.out.2.2.later HB3.out
     clear hb2 hb3
     by_cases hc0 : c' = 0
     ·
      subst hc0
      have HTo : Hid (CurvesTo cs (j + 1)) := fun i l hi hl => by
       rcases Nat.lt_or_ge i j with h | h
       · exact HR.out.1 i l h hl
       ·
        obtain rfl : i = j := by omega
        obtain rfl := Option.some.inj (HLs.out.symm.trans hl)
        exact .inr HF.out.ok.1
      clear z0 z1 zf0 zf1 hcn
      go_wp2_with fail
      go_roundw
      case rel => exact ⟨j + 1, by omega, by go_num, HTo.out, HB3.out⟩
      case measure => simp [intOf]; omega
     ·
      have hcp : 0 < c' := by omega
      have HCP : Hid (c' = c ∧ (j : Int) = p) := by
       rcases HG.out with ⟨h, -⟩ | ⟨-, i, ⟨ls', p'', e1, e2, e3, e4⟩, rfl, hto⟩ | ⟨-, hto, -⟩
       · exact absurd HM.out.1 h
       ·
        obtain rfl : i = j := by
         rcases Nat.lt_trichotomy i j with h | h | h
         ·
          rcases HR.out.1 i ls' h e1 with h' | h'
          · exact absurd h' e2
          ·
           have := e3.unique (.inr (.inr ⟨h', rfl, rfl⟩))
           omega
         · exact h
         ·
          rcases hto j ls h HLs.out with h' | h'
          ·
           rw [h'] at HQ
           exact absurd HQ.out.symm hq0
          ·
           have := HF.out.unique (.inr (.inr ⟨h', rfl, rfl⟩))
           omega
        obtain rfl := Option.some.inj (HLs.out.symm.trans e1)
        exact ⟨HF.out.unique e3, rfl⟩
       ·
        rcases hto j ls hj8 HLs.out with h' | h'
        ·
         rw [h'] at HQ
         exact absurd HQ.out.symm hq0
        ·
         have := HF.out.unique (.inr (.inr ⟨h', rfl, rfl⟩))
         omega
      clear hcn hc0
      go_wp2_with fail
      exact bodyPost_ret (v := .agg #[.int .i64 c', .int .i64 (j : Int)]) (by simp [results, Tryz.results13, go_sem, z0, z1]) rfl (HEnd.out _ c' j HB3.out HCP.out.1 HCP.out.2)
   ·
    obtain rfl : j = 8 := by omega
    have HGt : Hid (p = -1 ∧ ((k = 0 ∧ c = 9) ∨ (1 ≤ k ∧ k ≤ 5 ∧ ((¬ (1 ≤ per ∧ per ≤ 1000) ∧ c = 2) ∨ (1 ≤ per ∧ per ≤ 1000 ∧ ∃ d : Nat, KindFault k ns d ∧ c = d))))) := by
     rcases HG.out with ⟨h, -⟩ | ⟨-, i, ⟨ls', p'', e1, e2, e3, e4⟩, rfl, hto⟩ | ⟨-, -, h1, h2⟩
     · exact absurd HM.out.1 h
     ·
      rcases HR.out.1 i ls' (by have := lt_of_get e1; have := HM.out.1; omega) e1 with h' | h'
      · exact absurd h' e2
      ·
       have := e3.unique (.inr (.inr ⟨h', rfl, rfl⟩))
       omega
     · exact ⟨h1, h2⟩
    have x1 := cell_later HR.out.2 HV.out.2.1.c1
    have x2 := cell_later HR.out.2 HV.out.2.1.c2
    have x3 := cell_later HR.out.2 HV.out.2.1.c3
    have HBw : Hid (Below w.heap.size w wr) := HV.out.1.trans (HR.out.2.mono HV.out.1.size)
    obtain ⟨t1, t2, t3, t4, t5, u1, u2, u3, u4, u5⟩ := hkt
    rcases (show k = 0 ∨ k = 1 ∨ k = 2 ∨ k = 3 ∨ k = 4 ∨ k = 5 by omega) with rfl | rfl | rfl | rfl | rfl | rfl
    ·
     have HCP : Hid (9 = c ∧ -1 = p) := by
      rcases HGt.out with ⟨h1, ⟨-, h2⟩ | ⟨h2, -⟩⟩
      · exact ⟨h2.symm, h1.symm⟩
      · omega
     replace t1 : (kb.toList == [102, 105, 102, 111]) = false := t1
     replace u1 : (kb.toList == ByteArray.toList ⟨#[102, 105, 102, 111]⟩) = false := u1
     replace t2 : (kb.toList == [114, 97, 110, 107]) = false := t2
     replace u2 : (kb.toList == ByteArray.toList ⟨#[114, 97, 110, 107]⟩) = false := u2
     replace t3 : (kb.toList == [100, 117, 101]) = false := t3
     replace u3 : (kb.toList == ByteArray.toList ⟨#[100, 117, 101]⟩) = false := u3
     replace t4 : (kb.toList == [114, 111, 117, 110, 100]) = false := t4
     replace u4 : (kb.toList == ByteArray.toList ⟨#[114, 111, 117, 110, 100]⟩) = false := u4
     replace t5 : (kb.toList == [102, 97, 105, 114]) = false := t5
     replace u5 : (kb.toList == ByteArray.toList ⟨#[102, 97, 105, 114]⟩) = false := u5
     by_cases p1 : 1 ≤ per
     ·
      go_wp2_with fail
      refine (bare_any 9 _).mono ?_
      rintro e w3 ⟨rfl, hb3⟩
      have HB3 : Hid (Below V.heap.size V w3) := HR.out.2.trans (hb3.mono HR.out.2.size)
      obtain ⟨z0, z1, zf0, zf1⟩ := HV.out.2.2.later HB3.out
      clear hb3
      go_wp2_with fail
      exact bodyPost_ret (v := .agg #[.int .i64 9, .int .i64 (-1)]) (by simp [results, Tryz.results13, go_sem, z0, z1]) rfl (HEnd.out _ 9 (-1) HB3.out HCP.out.1 HCP.out.2)
     ·
      go_wp2_with fail
      refine (bare_any 9 _).mono ?_
      rintro e w3 ⟨rfl, hb3⟩
      have HB3 : Hid (Below V.heap.size V w3) := HR.out.2.trans (hb3.mono HR.out.2.size)
      obtain ⟨z0, z1, zf0, zf1⟩ := HV.out.2.2.later HB3.out
      clear hb3
      go_wp2_with fail
      exact bodyPost_ret (v := .agg #[.int .i64 9, .int .i64 (-1)]) (by simp [results, Tryz.results13, go_sem, z0, z1]) rfl (HEnd.out _ 9 (-1) HB3.out HCP.out.1 HCP.out.2)
    ·
     replace t1 : (kb.toList == [102, 105, 102, 111]) = true := t1
     replace u1 : (kb.toList == ByteArray.toList ⟨#[102, 105, 102, 111]⟩) = true := u1
     replace t2 : (kb.toList == [114, 97, 110, 107]) = false := t2
     replace u2 : (kb.toList == ByteArray.toList ⟨#[114, 97, 110, 107]⟩) = false := u2
     replace t3 : (kb.toList == [100, 117, 101]) = false := t3
     replace u3 : (kb.toList == ByteArray.toList ⟨#[100, 117, 101]⟩) = false := u3
     replace t4 : (kb.toList == [114, 111, 117, 110, 100]) = false := t4
     replace u4 : (kb.toList == ByteArray.toList ⟨#[114, 111, 117, 110, 100]⟩) = false := u4
     replace t5 : (kb.toList == [102, 97, 105, 114]) = false := t5
     replace u5 : (kb.toList == ByteArray.toList ⟨#[102, 97, 105, 114]⟩) = false := u5
     by_cases p1 : 1 ≤ per
     ·
      by_cases p2 : per ≤ 1000
      ·
       have HCP : Hid (p = -1 ∧ ((c = 3 ∧ ns ≠ []) ∨ (c = 0 ∧ ns = []))) := by
        rcases HGt.out with ⟨h1, ⟨h2, -⟩ | ⟨-, -, ⟨h2, -⟩ | ⟨-, -, d, hd, h2⟩⟩⟩
        · omega
        · exact absurd ⟨p1, p2⟩ h2
        ·
         rcases hd with ⟨-, ⟨rfl, h⟩ | ⟨rfl, h⟩⟩ | ⟨h, -⟩ | ⟨h, -⟩ | ⟨h, -⟩ | ⟨h, -⟩
         · exact ⟨h1, .inl ⟨h2, h⟩⟩
         · exact ⟨h1, .inr ⟨h2, h⟩⟩
         all_goals omega
       by_cases hr0 : 0 < r
       ·
        have HCP' : Hid (3 = c ∧ -1 = p) := by
         rcases HCP.out with ⟨h1, ⟨h2, -⟩ | ⟨-, h2⟩⟩
         · exact ⟨h2.symm, h1.symm⟩
         ·
          rw [h2] at HM
          have := HM.out.2
          simp at this
          omega
        go_wp2_with fail
        refine (bare_any 3 _).mono ?_
        rintro e w3 ⟨rfl, hb3⟩
        have HB3 : Hid (Below V.heap.size V w3) := HR.out.2.trans (hb3.mono HR.out.2.size)
        obtain ⟨z0, z1, zf0, zf1⟩ := HV.out.2.2.later HB3.out
        clear hb3
        go_wp2_with fail
        exact bodyPost_ret (v := .agg #[.int .i64 3, .int .i64 (-1)]) (by simp [results, Tryz.results13, go_sem, z0, z1]) rfl (HEnd.out _ 3 (-1) HB3.out HCP'.out.1 HCP'.out.2)
       ·
        have HCP' : Hid (0 = c ∧ -1 = p) := by
         rcases HCP.out with ⟨h1, ⟨-, h2⟩ | ⟨h2, -⟩⟩
         · exact absurd (List.length_eq_zero_iff.1 (by have := HM.out.2; omega)) h2
         · exact ⟨h2.symm, h1.symm⟩
        obtain rfl : r = 0 := by omega
        go_wp2_with fail
        refine (fine_any _).mono ?_
        rintro e w3 ⟨rfl, hb3⟩
        have HB3 : Hid (Below V.heap.size V w3) := HR.out.2.trans (hb3.mono HR.out.2.size)
        obtain ⟨z0, z1, zf0, zf1⟩ := HV.out.2.2.later HB3.out
        clear hb3
        go_wp2_with fail
        exact bodyPost_ret (v := .agg #[.int .i64 0, .int .i64 (-1)]) (by simp [results, Tryz.results13, go_sem, z0, z1]) rfl (HEnd.out _ 0 (-1) HB3.out HCP'.out.1 HCP'.out.2)
      ·
       have HCP : Hid (2 = c ∧ -1 = p) := by
        rcases HGt.out with ⟨h1, ⟨h2, -⟩ | ⟨-, -, ⟨-, h2⟩ | ⟨h3, h4, -⟩⟩⟩
        · omega
        · exact ⟨h2.symm, h1.symm⟩
        · omega
       by_cases hr0 : 0 < r
       ·
        go_wp2_with fail
        refine (bare_any 2 _).mono ?_
        rintro e w3 ⟨rfl, hb3⟩
        have HB3 : Hid (Below V.heap.size V w3) := HR.out.2.trans (hb3.mono HR.out.2.size)
        obtain ⟨z0, z1, zf0, zf1⟩ := HV.out.2.2.later HB3.out
        clear hb3
        go_wp2_with fail
        exact bodyPost_ret (v := .agg #[.int .i64 2, .int .i64 (-1)]) (by simp [results, Tryz.results13, go_sem, z0, z1]) rfl (HEnd.out _ 2 (-1) HB3.out HCP.out.1 HCP.out.2)
       ·
        obtain rfl : r = 0 := by omega
        go_wp2_with fail
        refine (bare_any 2 _).mono ?_
        rintro e w3 ⟨rfl, hb3⟩
        have HB3 : Hid (Below V.heap.size V w3) := HR.out.2.trans (hb3.mono HR.out.2.size)
        obtain ⟨z0, z1, zf0, zf1⟩ := HV.out.2.2.later HB3.out
        clear hb3
        go_wp2_with fail
        exact bodyPost_ret (v := .agg #[.int .i64 2, .int .i64 (-1)]) (by simp [results, Tryz.results13, go_sem, z0, z1]) rfl (HEnd.out _ 2 (-1) HB3.out HCP.out.1 HCP.out.2)
     ·
      have HCP : Hid (2 = c ∧ -1 = p) := by
       rcases HGt.out with ⟨h1, ⟨h2, -⟩ | ⟨-, -, ⟨-, h2⟩ | ⟨h3, h4, -⟩⟩⟩
       · omega
       · exact ⟨h2.symm, h1.symm⟩
       · omega
      by_cases hr0 : 0 < r
      ·
       go_wp2_with fail
       refine (bare_any 2 _).mono ?_
       rintro e w3 ⟨rfl, hb3⟩
       have HB3 : Hid (Below V.heap.size V w3) := HR.out.2.trans (hb3.mono HR.out.2.size)
       obtain ⟨z0, z1, zf0, zf1⟩ := HV.out.2.2.later HB3.out
       clear hb3
       go_wp2_with fail
       exact bodyPost_ret (v := .agg #[.int .i64 2, .int .i64 (-1)]) (by simp [results, Tryz.results13, go_sem, z0, z1]) rfl (HEnd.out _ 2 (-1) HB3.out HCP.out.1 HCP.out.2)
      ·
       obtain rfl : r = 0 := by omega
       go_wp2_with fail
       refine (bare_any 2 _).mono ?_
       rintro e w3 ⟨rfl, hb3⟩
       have HB3 : Hid (Below V.heap.size V w3) := HR.out.2.trans (hb3.mono HR.out.2.size)
       obtain ⟨z0, z1, zf0, zf1⟩ := HV.out.2.2.later HB3.out
       clear hb3
       go_wp2_with fail
       exact bodyPost_ret (v := .agg #[.int .i64 2, .int .i64 (-1)]) (by simp [results, Tryz.results13, go_sem, z0, z1]) rfl (HEnd.out _ 2 (-1) HB3.out HCP.out.1 HCP.out.2)
    ·
     replace t1 : (kb.toList == [102, 105, 102, 111]) = false := t1
     replace u1 : (kb.toList == ByteArray.toList ⟨#[102, 105, 102, 111]⟩) = false := u1
     replace t2 : (kb.toList == [114, 97, 110, 107]) = true := t2
     replace u2 : (kb.toList == ByteArray.toList ⟨#[114, 97, 110, 107]⟩) = true := u2
     replace t3 : (kb.toList == [100, 117, 101]) = false := t3
     replace u3 : (kb.toList == ByteArray.toList ⟨#[100, 117, 101]⟩) = false := u3
     replace t4 : (kb.toList == [114, 111, 117, 110, 100]) = false := t4
     replace u4 : (kb.toList == ByteArray.toList ⟨#[114, 111, 117, 110, 100]⟩) = false := u4
     replace t5 : (kb.toList == [102, 97, 105, 114]) = false := t5
     replace u5 : (kb.toList == ByteArray.toList ⟨#[102, 97, 105, 114]⟩) = false := u5
     by_cases p1 : 1 ≤ per
     ·
      by_cases p2 : per ≤ 1000
      ·
       obtain ⟨d, hd⟩ : ∃ d : Nat, NumsFault 0 100 ns d ∧ c = d ∧ p = -1 := by
        rcases HGt.out with ⟨h1, ⟨h2, -⟩ | ⟨-, -, ⟨h2, -⟩ | ⟨-, -, d, hd, h2⟩⟩⟩
        · omega
        · exact absurd ⟨p1, p2⟩ h2
        ·
         rcases hd with ⟨h, -⟩ | ⟨-, h⟩ | ⟨h, -⟩ | ⟨h, -⟩ | ⟨h, -⟩
         · omega
         · exact ⟨d, h, h2, h1⟩
         · omega
         · omega
         · omega
       have HD : Hid (NumsFault 0 100 ns d) := hd.1
       have HCP : Hid ((d : Int) = c ∧ -1 = p) := ⟨hd.2.1.symm, hd.2.2.symm⟩
       clear hd
       by_cases hd0 : 0 < d
       ·
        go_wp2_with fail
        refine (HNum.out _ 0 100 d HBw.out HD.out).mono ?_
        rintro e w2 ⟨rfl, rfl⟩
        go_wp2_with fail
        refine (bare_any (d : Int) _).mono ?_
        rintro e w3 ⟨rfl, hb3⟩
        have HB3 : Hid (Below V.heap.size V w3) := HR.out.2.trans (hb3.mono HR.out.2.size)
        obtain ⟨z0, z1, zf0, zf1⟩ := HV.out.2.2.later HB3.out
        clear hb3
        go_wp2_with fail
        exact bodyPost_ret (v := .agg #[.int .i64 (d : Int), .int .i64 (-1)]) (by simp [results, Tryz.results13, go_sem, z0, z1]) rfl (HEnd.out _ (d : Int) (-1) HB3.out HCP.out.1 HCP.out.2)
       ·
        obtain rfl : d = 0 := by omega
        go_wp2_with fail
        refine (HNum.out _ 0 100 0 HBw.out HD.out).mono ?_
        rintro e w2 ⟨rfl, rfl⟩
        go_wp2_with fail
        refine (fine_any _).mono ?_
        rintro e w3 ⟨rfl, hb3⟩
        have HB3 : Hid (Below V.heap.size V w3) := HR.out.2.trans (hb3.mono HR.out.2.size)
        obtain ⟨z0, z1, zf0, zf1⟩ := HV.out.2.2.later HB3.out
        clear hb3
        go_wp2_with fail
        exact bodyPost_ret (v := .agg #[.int .i64 0, .int .i64 (-1)]) (by simp [results, Tryz.results13, go_sem, z0, z1]) rfl (HEnd.out _ 0 (-1) HB3.out HCP.out.1 HCP.out.2)
      ·
       have HCP : Hid (2 = c ∧ -1 = p) := by
        rcases HGt.out with ⟨h1, ⟨h2, -⟩ | ⟨-, -, ⟨-, h2⟩ | ⟨h3, h4, -⟩⟩⟩
        · omega
        · exact ⟨h2.symm, h1.symm⟩
        · omega
       obtain ⟨d, hd⟩ := numsFault_is 0 100 ns
       have HD : Hid (NumsFault 0 100 ns d) := hd
       clear hd
       go_wp2_with fail
       refine (HNum.out _ 0 100 d HBw.out HD.out).mono ?_
       rintro e w2 ⟨rfl, rfl⟩
       go_wp2_with fail
       refine (bare_any 2 _).mono ?_
       rintro e w3 ⟨rfl, hb3⟩
       have HB3 : Hid (Below V.heap.size V w3) := HR.out.2.trans (hb3.mono HR.out.2.size)
       obtain ⟨z0, z1, zf0, zf1⟩ := HV.out.2.2.later HB3.out
       clear hb3
       go_wp2_with fail
       exact bodyPost_ret (v := .agg #[.int .i64 2, .int .i64 (-1)]) (by simp [results, Tryz.results13, go_sem, z0, z1]) rfl (HEnd.out _ 2 (-1) HB3.out HCP.out.1 HCP.out.2)
     ·
      have HCP : Hid (2 = c ∧ -1 = p) := by
       rcases HGt.out with ⟨h1, ⟨h2, -⟩ | ⟨-, -, ⟨-, h2⟩ | ⟨h3, h4, -⟩⟩⟩
       · omega
       · exact ⟨h2.symm, h1.symm⟩
       · omega
      obtain ⟨d, hd⟩ := numsFault_is 0 100 ns
      have HD : Hid (NumsFault 0 100 ns d) := hd
      clear hd
      go_wp2_with fail
      refine (HNum.out _ 0 100 d HBw.out HD.out).mono ?_
      rintro e w2 ⟨rfl, rfl⟩
      go_wp2_with fail
      refine (bare_any 2 _).mono ?_
      rintro e w3 ⟨rfl, hb3⟩
      have HB3 : Hid (Below V.heap.size V w3) := HR.out.2.trans (hb3.mono HR.out.2.size)
      obtain ⟨z0, z1, zf0, zf1⟩ := HV.out.2.2.later HB3.out
      clear hb3
      go_wp2_with fail
      exact bodyPost_ret (v := .agg #[.int .i64 2, .int .i64 (-1)]) (by simp [results, Tryz.results13, go_sem, z0, z1]) rfl (HEnd.out _ 2 (-1) HB3.out HCP.out.1 HCP.out.2)
    ·
     replace t1 : (kb.toList == [102, 105, 102, 111]) = false := t1
     replace u1 : (kb.toList == ByteArray.toList ⟨#[102, 105, 102, 111]⟩) = false := u1
     replace t2 : (kb.toList == [114, 97, 110, 107]) = false := t2
     replace u2 : (kb.toList == ByteArray.toList ⟨#[114, 97, 110, 107]⟩) = false := u2
     replace t3 : (kb.toList == [100, 117, 101]) = true := t3
     replace u3 : (kb.toList == ByteArray.toList ⟨#[100, 117, 101]⟩) = true := u3
     replace t4 : (kb.toList == [114, 111, 117, 110, 100]) = false := t4
     replace u4 : (kb.toList == ByteArray.toList ⟨#[114, 111, 117, 110, 100]⟩) = false := u4
     replace t5 : (kb.toList == [102, 97, 105, 114]) = false := t5
     replace u5 : (kb.toList == ByteArray.toList ⟨#[102, 97, 105, 114]⟩) = false := u5
     by_cases p1 : 1 ≤ per
     ·
      by_cases p2 : per ≤ 1000
      ·
       obtain ⟨d, hd⟩ : ∃ d : Nat, NumsFault 0 1099511627776 ns d ∧ c = d ∧ p = -1 := by
        rcases HGt.out with ⟨h1, ⟨h2, -⟩ | ⟨-, -, ⟨h2, -⟩ | ⟨-, -, d, hd, h2⟩⟩⟩
        · omega
        · exact absurd ⟨p1, p2⟩ h2
        ·
         rcases hd with ⟨h, -⟩ | ⟨h, -⟩ | ⟨-, h⟩ | ⟨h, -⟩ | ⟨h, -⟩
         · omega
         · omega
         · exact ⟨d, h, h2, h1⟩
         · omega
         · omega
       have HD : Hid (NumsFault 0 1099511627776 ns d) := hd.1
       have HCP : Hid ((d : Int) = c ∧ -1 = p) := ⟨hd.2.1.symm, hd.2.2.symm⟩
       clear hd
       by_cases hd0 : 0 < d
       ·
        go_wp2_with fail
        refine (HNum.out _ 0 1099511627776 d HBw.out HD.out).mono ?_
        rintro e w2 ⟨rfl, rfl⟩
        go_wp2_with fail
        refine (bare_any (d : Int) _).mono ?_
        rintro e w3 ⟨rfl, hb3⟩
        have HB3 : Hid (Below V.heap.size V w3) := HR.out.2.trans (hb3.mono HR.out.2.size)
        obtain ⟨z0, z1, zf0, zf1⟩ := HV.out.2.2.later HB3.out
        clear hb3
        go_wp2_with fail
        exact bodyPost_ret (v := .agg #[.int .i64 (d : Int), .int .i64 (-1)]) (by simp [results, Tryz.results13, go_sem, z0, z1]) rfl (HEnd.out _ (d : Int) (-1) HB3.out HCP.out.1 HCP.out.2)
       ·
        obtain rfl : d = 0 := by omega
        go_wp2_with fail
        refine (HNum.out _ 0 1099511627776 0 HBw.out HD.out).mono ?_
        rintro e w2 ⟨rfl, rfl⟩
        go_wp2_with fail
        refine (fine_any _).mono ?_
        rintro e w3 ⟨rfl, hb3⟩
        have HB3 : Hid (Below V.heap.size V w3) := HR.out.2.trans (hb3.mono HR.out.2.size)
        obtain ⟨z0, z1, zf0, zf1⟩ := HV.out.2.2.later HB3.out
        clear hb3
        go_wp2_with fail
        exact bodyPost_ret (v := .agg #[.int .i64 0, .int .i64 (-1)]) (by simp [results, Tryz.results13, go_sem, z0, z1]) rfl (HEnd.out _ 0 (-1) HB3.out HCP.out.1 HCP.out.2)
      ·
       have HCP : Hid (2 = c ∧ -1 = p) := by
        rcases HGt.out with ⟨h1, ⟨h2, -⟩ | ⟨-, -, ⟨-, h2⟩ | ⟨h3, h4, -⟩⟩⟩
        · omega
        · exact ⟨h2.symm, h1.symm⟩
        · omega
       obtain ⟨d, hd⟩ := numsFault_is 0 1099511627776 ns
       have HD : Hid (NumsFault 0 1099511627776 ns d) := hd
       clear hd
       go_wp2_with fail
       refine (HNum.out _ 0 1099511627776 d HBw.out HD.out).mono ?_
       rintro e w2 ⟨rfl, rfl⟩
       go_wp2_with fail
       refine (bare_any 2 _).mono ?_
       rintro e w3 ⟨rfl, hb3⟩
       have HB3 : Hid (Below V.heap.size V w3) := HR.out.2.trans (hb3.mono HR.out.2.size)
       obtain ⟨z0, z1, zf0, zf1⟩ := HV.out.2.2.later HB3.out
       clear hb3
       go_wp2_with fail
       exact bodyPost_ret (v := .agg #[.int .i64 2, .int .i64 (-1)]) (by simp [results, Tryz.results13, go_sem, z0, z1]) rfl (HEnd.out _ 2 (-1) HB3.out HCP.out.1 HCP.out.2)
     ·
      have HCP : Hid (2 = c ∧ -1 = p) := by
       rcases HGt.out with ⟨h1, ⟨h2, -⟩ | ⟨-, -, ⟨-, h2⟩ | ⟨h3, h4, -⟩⟩⟩
       · omega
       · exact ⟨h2.symm, h1.symm⟩
       · omega
      obtain ⟨d, hd⟩ := numsFault_is 0 1099511627776 ns
      have HD : Hid (NumsFault 0 1099511627776 ns d) := hd
      clear hd
      go_wp2_with fail
      refine (HNum.out _ 0 1099511627776 d HBw.out HD.out).mono ?_
      rintro e w2 ⟨rfl, rfl⟩
      go_wp2_with fail
      refine (bare_any 2 _).mono ?_
      rintro e w3 ⟨rfl, hb3⟩
      have HB3 : Hid (Below V.heap.size V w3) := HR.out.2.trans (hb3.mono HR.out.2.size)
      obtain ⟨z0, z1, zf0, zf1⟩ := HV.out.2.2.later HB3.out
      clear hb3
      go_wp2_with fail
      exact bodyPost_ret (v := .agg #[.int .i64 2, .int .i64 (-1)]) (by simp [results, Tryz.results13, go_sem, z0, z1]) rfl (HEnd.out _ 2 (-1) HB3.out HCP.out.1 HCP.out.2)
    ·
     replace t1 : (kb.toList == [102, 105, 102, 111]) = false := t1
     replace u1 : (kb.toList == ByteArray.toList ⟨#[102, 105, 102, 111]⟩) = false := u1
     replace t2 : (kb.toList == [114, 97, 110, 107]) = false := t2
     replace u2 : (kb.toList == ByteArray.toList ⟨#[114, 97, 110, 107]⟩) = false := u2
     replace t3 : (kb.toList == [100, 117, 101]) = false := t3
     replace u3 : (kb.toList == ByteArray.toList ⟨#[100, 117, 101]⟩) = false := u3
     replace t4 : (kb.toList == [114, 111, 117, 110, 100]) = true := t4
     replace u4 : (kb.toList == ByteArray.toList ⟨#[114, 111, 117, 110, 100]⟩) = true := u4
     replace t5 : (kb.toList == [102, 97, 105, 114]) = false := t5
     replace u5 : (kb.toList == ByteArray.toList ⟨#[102, 97, 105, 114]⟩) = false := u5
     by_cases p1 : 1 ≤ per
     ·
      by_cases p2 : per ≤ 1000
      ·
       obtain ⟨d, hd⟩ : ∃ d : Nat, NumsFault 1 3000 ns d ∧ c = d ∧ p = -1 := by
        rcases HGt.out with ⟨h1, ⟨h2, -⟩ | ⟨-, -, ⟨h2, -⟩ | ⟨-, -, d, hd, h2⟩⟩⟩
        · omega
        · exact absurd ⟨p1, p2⟩ h2
        ·
         rcases hd with ⟨h, -⟩ | ⟨h, -⟩ | ⟨h, -⟩ | ⟨-, h⟩ | ⟨h, -⟩
         · omega
         · omega
         · omega
         · exact ⟨d, h, h2, h1⟩
         · omega
       have HD : Hid (NumsFault 1 3000 ns d) := hd.1
       have HCP : Hid ((d : Int) = c ∧ -1 = p) := ⟨hd.2.1.symm, hd.2.2.symm⟩
       clear hd
       by_cases hd0 : 0 < d
       ·
        go_wp2_with fail
        refine (HNum.out _ 1 3000 d HBw.out HD.out).mono ?_
        rintro e w2 ⟨rfl, rfl⟩
        go_wp2_with fail
        refine (bare_any (d : Int) _).mono ?_
        rintro e w3 ⟨rfl, hb3⟩
        have HB3 : Hid (Below V.heap.size V w3) := HR.out.2.trans (hb3.mono HR.out.2.size)
        obtain ⟨z0, z1, zf0, zf1⟩ := HV.out.2.2.later HB3.out
        clear hb3
        go_wp2_with fail
        exact bodyPost_ret (v := .agg #[.int .i64 (d : Int), .int .i64 (-1)]) (by simp [results, Tryz.results13, go_sem, z0, z1]) rfl (HEnd.out _ (d : Int) (-1) HB3.out HCP.out.1 HCP.out.2)
       ·
        obtain rfl : d = 0 := by omega
        go_wp2_with fail
        refine (HNum.out _ 1 3000 0 HBw.out HD.out).mono ?_
        rintro e w2 ⟨rfl, rfl⟩
        go_wp2_with fail
        refine (fine_any _).mono ?_
        rintro e w3 ⟨rfl, hb3⟩
        have HB3 : Hid (Below V.heap.size V w3) := HR.out.2.trans (hb3.mono HR.out.2.size)
        obtain ⟨z0, z1, zf0, zf1⟩ := HV.out.2.2.later HB3.out
        clear hb3
        go_wp2_with fail
        exact bodyPost_ret (v := .agg #[.int .i64 0, .int .i64 (-1)]) (by simp [results, Tryz.results13, go_sem, z0, z1]) rfl (HEnd.out _ 0 (-1) HB3.out HCP.out.1 HCP.out.2)
      ·
       have HCP : Hid (2 = c ∧ -1 = p) := by
        rcases HGt.out with ⟨h1, ⟨h2, -⟩ | ⟨-, -, ⟨-, h2⟩ | ⟨h3, h4, -⟩⟩⟩
        · omega
        · exact ⟨h2.symm, h1.symm⟩
        · omega
       obtain ⟨d, hd⟩ := numsFault_is 1 3000 ns
       have HD : Hid (NumsFault 1 3000 ns d) := hd
       clear hd
       go_wp2_with fail
       refine (HNum.out _ 1 3000 d HBw.out HD.out).mono ?_
       rintro e w2 ⟨rfl, rfl⟩
       go_wp2_with fail
       refine (bare_any 2 _).mono ?_
       rintro e w3 ⟨rfl, hb3⟩
       have HB3 : Hid (Below V.heap.size V w3) := HR.out.2.trans (hb3.mono HR.out.2.size)
       obtain ⟨z0, z1, zf0, zf1⟩ := HV.out.2.2.later HB3.out
       clear hb3
       go_wp2_with fail
       exact bodyPost_ret (v := .agg #[.int .i64 2, .int .i64 (-1)]) (by simp [results, Tryz.results13, go_sem, z0, z1]) rfl (HEnd.out _ 2 (-1) HB3.out HCP.out.1 HCP.out.2)
     ·
      have HCP : Hid (2 = c ∧ -1 = p) := by
       rcases HGt.out with ⟨h1, ⟨h2, -⟩ | ⟨-, -, ⟨-, h2⟩ | ⟨h3, h4, -⟩⟩⟩
       · omega
       · exact ⟨h2.symm, h1.symm⟩
       · omega
      obtain ⟨d, hd⟩ := numsFault_is 1 3000 ns
      have HD : Hid (NumsFault 1 3000 ns d) := hd
      clear hd
      go_wp2_with fail
      refine (HNum.out _ 1 3000 d HBw.out HD.out).mono ?_
      rintro e w2 ⟨rfl, rfl⟩
      go_wp2_with fail
      refine (bare_any 2 _).mono ?_
      rintro e w3 ⟨rfl, hb3⟩
      have HB3 : Hid (Below V.heap.size V w3) := HR.out.2.trans (hb3.mono HR.out.2.size)
      obtain ⟨z0, z1, zf0, zf1⟩ := HV.out.2.2.later HB3.out
      clear hb3
      go_wp2_with fail
      exact bodyPost_ret (v := .agg #[.int .i64 2, .int .i64 (-1)]) (by simp [results, Tryz.results13, go_sem, z0, z1]) rfl (HEnd.out _ 2 (-1) HB3.out HCP.out.1 HCP.out.2)
    ·
     replace t1 : (kb.toList == [102, 105, 102, 111]) = false := t1
     replace u1 : (kb.toList == ByteArray.toList ⟨#[102, 105, 102, 111]⟩) = false := u1
     replace t2 : (kb.toList == [114, 97, 110, 107]) = false := t2
     replace u2 : (kb.toList == ByteArray.toList ⟨#[114, 97, 110, 107]⟩) = false := u2
     replace t3 : (kb.toList == [100, 117, 101]) = false := t3
     replace u3 : (kb.toList == ByteArray.toList ⟨#[100, 117, 101]⟩) = false := u3
     replace t4 : (kb.toList == [114, 111, 117, 110, 100]) = false := t4
     replace u4 : (kb.toList == ByteArray.toList ⟨#[114, 111, 117, 110, 100]⟩) = false := u4
     replace t5 : (kb.toList == [102, 97, 105, 114]) = true := t5
     replace u5 : (kb.toList == ByteArray.toList ⟨#[102, 97, 105, 114]⟩) = true := u5
     by_cases p1 : 1 ≤ per
     ·
      by_cases p2 : per ≤ 1000
      ·
       obtain ⟨d, hd⟩ : ∃ d : Nat, WtsFault ns d ∧ c = d ∧ p = -1 := by
        rcases HGt.out with ⟨h1, ⟨h2, -⟩ | ⟨-, -, ⟨h2, -⟩ | ⟨-, -, d, hd, h2⟩⟩⟩
        · omega
        · exact absurd ⟨p1, p2⟩ h2
        ·
         rcases hd with ⟨h, -⟩ | ⟨h, -⟩ | ⟨h, -⟩ | ⟨h, -⟩ | ⟨-, h⟩
         · omega
         · omega
         · omega
         · omega
         · exact ⟨d, h, h2, h1⟩
       have HD : Hid (WtsFault ns d) := hd.1
       have HCP : Hid ((d : Int) = c ∧ -1 = p) := ⟨hd.2.1.symm, hd.2.2.symm⟩
       clear hd
       by_cases hd0 : 0 < d
       ·
        go_wp2_with fail
        refine (HWt.out _ d HBw.out HD.out).mono ?_
        rintro e w2 ⟨rfl, rfl⟩
        go_wp2_with fail
        refine (bare_any (d : Int) _).mono ?_
        rintro e w3 ⟨rfl, hb3⟩
        have HB3 : Hid (Below V.heap.size V w3) := HR.out.2.trans (hb3.mono HR.out.2.size)
        obtain ⟨z0, z1, zf0, zf1⟩ := HV.out.2.2.later HB3.out
        clear hb3
        go_wp2_with fail
        exact bodyPost_ret (v := .agg #[.int .i64 (d : Int), .int .i64 (-1)]) (by simp [results, Tryz.results13, go_sem, z0, z1]) rfl (HEnd.out _ (d : Int) (-1) HB3.out HCP.out.1 HCP.out.2)
       ·
        obtain rfl : d = 0 := by omega
        go_wp2_with fail
        refine (HWt.out _ 0 HBw.out HD.out).mono ?_
        rintro e w2 ⟨rfl, rfl⟩
        go_wp2_with fail
        refine (fine_any _).mono ?_
        rintro e w3 ⟨rfl, hb3⟩
        have HB3 : Hid (Below V.heap.size V w3) := HR.out.2.trans (hb3.mono HR.out.2.size)
        obtain ⟨z0, z1, zf0, zf1⟩ := HV.out.2.2.later HB3.out
        clear hb3
        go_wp2_with fail
        exact bodyPost_ret (v := .agg #[.int .i64 0, .int .i64 (-1)]) (by simp [results, Tryz.results13, go_sem, z0, z1]) rfl (HEnd.out _ 0 (-1) HB3.out HCP.out.1 HCP.out.2)
      ·
       have HCP : Hid (2 = c ∧ -1 = p) := by
        rcases HGt.out with ⟨h1, ⟨h2, -⟩ | ⟨-, -, ⟨-, h2⟩ | ⟨h3, h4, -⟩⟩⟩
        · omega
        · exact ⟨h2.symm, h1.symm⟩
        · omega
       obtain ⟨d, hd⟩ := wtsFault_is ns
       have HD : Hid (WtsFault ns d) := hd
       clear hd
       go_wp2_with fail
       refine (HWt.out _ d HBw.out HD.out).mono ?_
       rintro e w2 ⟨rfl, rfl⟩
       go_wp2_with fail
       refine (bare_any 2 _).mono ?_
       rintro e w3 ⟨rfl, hb3⟩
       have HB3 : Hid (Below V.heap.size V w3) := HR.out.2.trans (hb3.mono HR.out.2.size)
       obtain ⟨z0, z1, zf0, zf1⟩ := HV.out.2.2.later HB3.out
       clear hb3
       go_wp2_with fail
       exact bodyPost_ret (v := .agg #[.int .i64 2, .int .i64 (-1)]) (by simp [results, Tryz.results13, go_sem, z0, z1]) rfl (HEnd.out _ 2 (-1) HB3.out HCP.out.1 HCP.out.2)
     ·
      have HCP : Hid (2 = c ∧ -1 = p) := by
       rcases HGt.out with ⟨h1, ⟨h2, -⟩ | ⟨-, -, ⟨-, h2⟩ | ⟨h3, h4, -⟩⟩⟩
       · omega
       · exact ⟨h2.symm, h1.symm⟩
       · omega
      obtain ⟨d, hd⟩ := wtsFault_is ns
      have HD : Hid (WtsFault ns d) := hd
      clear hd
      go_wp2_with fail
      refine (HWt.out _ d HBw.out HD.out).mono ?_
      rintro e w2 ⟨rfl, rfl⟩
      go_wp2_with fail
      refine (bare_any 2 _).mono ?_
      rintro e w3 ⟨rfl, hb3⟩
      have HB3 : Hid (Below V.heap.size V w3) := HR.out.2.trans (hb3.mono HR.out.2.size)
      obtain ⟨z0, z1, zf0, zf1⟩ := HV.out.2.2.later HB3.out
      clear hb3
      go_wp2_with fail
      exact bodyPost_ret (v := .agg #[.int .i64 2, .int .i64 (-1)]) (by simp [results, Tryz.results13, go_sem, z0, z1]) rfl (HEnd.out _ 2 (-1) HB3.out HCP.out.1 HCP.out.2)
 ·
  have HCP : Hid (3 = c ∧ -1 = p) := by
   rcases HG.out with ⟨-, h1, h2⟩ | ⟨h, -⟩ | ⟨h, -⟩
   · exact ⟨h1.symm, h2.symm⟩
   · exact absurd (HM.out.1.symm.trans h) h8
   · exact absurd (HM.out.1.symm.trans h) h8
  have h8' : ((m : Int) == 8) = false := by simpa using (show (m : Int) ≠ 8 by omega)
  clear hbV hga h2a hs1
  go_enter Tryz.func13, Tryz.ntmps13
  go_wp2_with fail
  refine (bare_any 3 _).mono ?_
  rintro e w3 ⟨rfl, hb3⟩
  have HB3 : Hid (Below V.heap.size V w3) := hb3
  obtain ⟨z0, z1, zf0, zf1⟩ := HV.out.2.2.later HB3.out
  clear hb3
  go_wp2_with fail
  exact bodyPost_ret (v := .agg #[.int .i64 3, .int .i64 (-1)]) (by simp [results, Tryz.results13, go_sem, z0, z1]) rfl (HEnd.out _ 3 (-1) HB3.out HCP.out.1 HCP.out.2)
end Go.Proofs.YtibhkijaafdkoaaGreatDoor
