/- Own facts, put together: no statement of its own. -/
import Derived.Test.YtibhkijaafdkoaaGreatDoorB19
import Derived.Test.YtibhkijaafdkoaaGreatDoorB09
namespace Go.Proofs.YtibhkijaafdkoaaGreatDoor
open Go.RowKit
def AddTo (S : List (Int × Int) → List (Int × Int) → Int → List (Int × Int) → Prop) (cs : List (List (Int × Int))) : Nat → List (Int × Int) → Prop
 | 0, _ => False
 | 1, L => L = curveFl cs 0
 | k + 2, L => ∃ M, AddTo S cs (k + 1) M ∧ curveFl cs (k + 1) ≠ [] ∧ S M (curveFl cs (k + 1)) 0 L
theorem addTo_next {S : List (Int × Int) → List (Int × Int) → Int → List (Int × Int) → Prop} {cs : List (List (Int × Int))} {k : Nat} {M L : List (Int × Int)} (h : AddTo S cs k M) (h1 : curveFl cs k ≠ []) (h2 : S M (curveFl cs k) 0 L) : AddTo S cs (k + 1) L := by
 cases k with
 | zero => exact h.elim
 | succ k => exact ⟨M, h, h1, h2⟩
def CurveAll (S : List (Int × Int) → List (Int × Int) → Int → List (Int × Int) → Prop) (cs : List (List (Int × Int))) (L : List (Int × Int)) : Prop := curveFl cs 0 ≠ [] ∧ ∃ k, 1 ≤ k ∧ k ≤ 8 ∧ AddTo S cs k L ∧ (k = 8 ∨ curveFl cs k = [])
def CurveNone (S : List (Int × Int) → List (Int × Int) → Int → List (Int × Int) → Prop) (cs : List (List (Int × Int))) : Prop := curveFl cs 0 = [] ∨ (curveFl cs 0 ≠ [] ∧ ∃ k M code L, 1 ≤ k ∧ k < 8 ∧ AddTo S cs k M ∧ curveFl cs k ≠ [] ∧ S M (curveFl cs k) code L ∧ code ≠ 0)
structure SumWay (S : List (Int × Int) → List (Int × Int) → Int → List (Int × Int) → Prop) : Prop where
 ok : ∀ la lb L, okCurve la → okCurve lb → S la lb 0 L → okCurve L
 num : ∀ la lb c L, S la lb c L → 0 ≤ c ∧ c ≤ 9
 one : ∀ la lb c L c' L', okCurve la → okCurve lb → S la lb c L → S la lb c' L' → c = c' ∧ L = L'
theorem addTo_ok {S : List (Int × Int) → List (Int × Int) → Int → List (Int × Int) → Prop} (hS : SumWay S) {cs : List (List (Int × Int))} (hc : CurvesOk (curveFl cs)) (h0 : curveFl cs 0 ≠ []) : ∀ k L, k ≤ 8 → AddTo S cs k L → okCurve L
 | 0, L, _, h => h.elim
 | 1, L, _, h => by
  have h : L = curveFl cs 0 := h
  rcases hc 0 (by decide) with e | e
  · exact absurd e h0
  · rw [h]; exact e
 | k + 2, L, hk, ⟨M, h1, h2, h3⟩ => by
  rcases hc (k + 1) (by omega) with e | e
  · exact absurd e h2
  · exact hS.ok M _ L (addTo_ok hS hc h0 (k + 1) M (by omega) h1) e h3
theorem addTo_one {S : List (Int × Int) → List (Int × Int) → Int → List (Int × Int) → Prop} (hS : SumWay S) {cs : List (List (Int × Int))} (hc : CurvesOk (curveFl cs)) (h0 : curveFl cs 0 ≠ []) : ∀ k L L', k ≤ 8 → AddTo S cs k L → AddTo S cs k L' → L = L'
 | 0, L, L', _, h, _ => h.elim
 | 1, L, L', _, h, h' => by
  have h : L = curveFl cs 0 := h
  have h' : L' = curveFl cs 0 := h'
  rw [h, h']
 | k + 2, L, L', hk, ⟨M, h1, h2, h3⟩, ⟨M', g1, g2, g3⟩ => by
  obtain rfl := addTo_one hS hc h0 (k + 1) M M' (by omega) h1 g1
  rcases hc (k + 1) (by omega) with e | e
  · exact absurd e h2
  · exact (hS.one M _ 0 L 0 L' (addTo_ok hS hc h0 (k + 1) M (by omega) h1) e h3 g3).2
theorem addTo_some {S : List (Int × Int) → List (Int × Int) → Int → List (Int × Int) → Prop} {cs : List (List (Int × Int))} : ∀ k L, AddTo S cs k L → ∀ j, 1 ≤ j → j < k → curveFl cs j ≠ []
 | 0, L, h, _, _, _ => h.elim
 | 1, L, _, j, h1, h2 => by omega
 | k + 2, L, ⟨M, h1, h2, h3⟩, j, g1, g2 => by
  by_cases e : j = k + 1
  · rw [e]; exact h2
  · exact addTo_some (k + 1) M h1 j g1 (by omega)
theorem addTo_down {S : List (Int × Int) → List (Int × Int) → Int → List (Int × Int) → Prop} {cs : List (List (Int × Int))} : ∀ k L, AddTo S cs k L → ∀ j, 1 ≤ j → j ≤ k → ∃ M, AddTo S cs j M
 | 0, L, h, _, _, _ => h.elim
 | 1, L, h, j, h1, h2 => by
  obtain rfl : j = 1 := by omega
  exact ⟨L, h⟩
 | k + 2, L, h, j, g1, g2 => by
  by_cases e : j = k + 2
  · subst e; exact ⟨L, h⟩
  ·
   obtain ⟨M, h1, -, -⟩ := h
   exact addTo_down (k + 1) M h1 j g1 (by omega)
theorem addTo_step {S : List (Int × Int) → List (Int × Int) → Int → List (Int × Int) → Prop} {cs : List (List (Int × Int))} {k : Nat} {L : List (Int × Int)} (h : AddTo S cs (k + 1) L) (hk : 1 ≤ k) : ∃ M, AddTo S cs k M ∧ S M (curveFl cs k) 0 L := by
 cases k with
 | zero => omega
 | succ k =>
  obtain ⟨M, h1, -, h3⟩ := h
  exact ⟨M, h1, h3⟩
theorem CurveAll.one {S : List (Int × Int) → List (Int × Int) → Int → List (Int × Int) → Prop} (hS : SumWay S) {cs : List (List (Int × Int))} (hc : CurvesOk (curveFl cs)) {L L' : List (Int × Int)} (h : CurveAll S cs L) (h' : CurveAll S cs L') : L = L' := by
 obtain ⟨h0, k, k1, k8, hk, he⟩ := h
 obtain ⟨-, j, j1, j8, hj, hf⟩ := h'
 have e : k = j := by
  rcases Nat.lt_trichotomy k j with h | h | h
  ·
   rcases he with e | e
   · omega
   · exact absurd e (addTo_some j L' hj k k1 h)
  · exact h
  ·
   rcases hf with e | e
   · omega
   · exact absurd e (addTo_some k L hk j j1 h)
 subst e
 exact addTo_one hS hc h0 k L L' k8 hk hj
theorem CurveAll.no {S : List (Int × Int) → List (Int × Int) → Int → List (Int × Int) → Prop} (hS : SumWay S) {cs : List (List (Int × Int))} (hc : CurvesOk (curveFl cs)) {L : List (Int × Int)} (h : CurveAll S cs L) : ¬ CurveNone S cs := by
 obtain ⟨h0, k, k1, k8, hk, he⟩ := h
 rintro (h | ⟨-, j, M, code, N, j1, j8, hj, hne, hs, hcode⟩)
 · exact h0 h
 ·
  have hjk : j < k := by
   rcases Nat.lt_trichotomy k j with h | h | h
   ·
    rcases he with e | e
    · omega
    · exact absurd e (addTo_some j M hj k k1 h)
   ·
    subst h
    rcases he with e | e
    · omega
    · exact absurd e hne
   · exact h
  obtain ⟨N', hN⟩ := addTo_down k L hk (j + 1) (by omega) (by omega)
  obtain ⟨M', hM, hs'⟩ := addTo_step hN j1
  obtain rfl := addTo_one hS hc h0 j M M' (by omega) hj hM
  rcases hc j j8 with e | e
  · exact hne e
  · exact hcode (hS.one M _ code N 0 N' (addTo_ok hS hc h0 j M (by omega) hj) e hs hs').1
def AllEnd (S : List (Int × Int) → List (Int × Int) → Int → List (Int × Int) → Prop) (cs : List (List (Int × Int))) (w : World) (e : Ending) (w' : World) : Prop :=
 Below w.heap.size w w' ∧ ((CurveNone S cs ∧ e = .returned (.tuple #[.slice none 0 0, .bool false])) ∨ ∃ a cap L, CurveAll S cs L ∧ okCurve L ∧ e = .returned (.tuple #[.slice a L.length cap, .bool true]) ∧ Lies w' a L ∧ L.length ≤ cap ∧ cap ≤ maxLen)
end Go.Proofs.YtibhkijaafdkoaaGreatDoor

namespace Go.Proofs.YtibhkijaafdkoaaGreatDoor
open Go.RowKit
set_option maxRecDepth 100000 in
set_option maxHeartbeats 4000000 in
theorem refCurveOf_by (S : List (Int × Int) → List (Int × Int) → Int → List (Int × Int) → Prop) (hS : SumWay S)
  (HSum : ∀ (a1 a2 : Option Addr) (cap1 cap2 : Nat) (la lb : List (Int × Int)) (w : World), Lies w a1 la → Lies w a2 lb → okCurve la → okCurve lb → Calls Tryz.prog 42 #[.slice a1 la.length cap1, .slice a2 lb.length cap2] w fun e w' => ∃ a cap code L, e = .returned (.tuple #[.slice a L.length cap, .int .i64 code]) ∧ S la lb code L ∧ Lies w' a L ∧ L.length ≤ cap ∧ cap ≤ maxLen ∧ Below w.heap.size w w')
  (ca : Option Addr) (ccap : Nat) (cs : List (List (Int × Int))) (kb : ByteArray) (per : Int) (na : Option Addr) (r ncap : Nat) (w : World) (hc : LiesC w ca cs) (hlen : cs.length = 8) (hto : CurvesTo cs 8) :
  Calls Tryz.prog 15 #[.agg #[.slice ca cs.length ccap, .string kb, .int .i64 per, .slice na r ncap]] w fun e w' => AllEnd S cs w e w' := by
 have HH : Hid (SumWay S ∧ CurvesOk (curveFl cs)) := ⟨hS, hto.ok⟩
 have HSu : Hid (∀ (a1 a2 : Option Addr) (cap1 cap2 : Nat) (la lb : List (Int × Int)) (w : World), Lies w a1 la → Lies w a2 lb → okCurve la → okCurve lb → Calls Tryz.prog 42 #[.slice a1 la.length cap1, .slice a2 lb.length cap2] w fun e w' => ∃ a cap code L, e = .returned (.tuple #[.slice a L.length cap, .int .i64 code]) ∧ S la lb code L ∧ Lies w' a L ∧ L.length ≤ cap ∧ cap ≤ maxLen ∧ Below w.heap.size w w') := HSum
 obtain ⟨b, off, rfl, -, hcc⟩ := hc.place (by omega)
 have HC : Hid (∀ (i : Nat), i < 8 → ∃ a' cap, w.cell? ⟨b, off + i, none⟩ = some (.slice a' (curveFl cs i).length cap) ∧ Lies w a' (curveFl cs i) ∧ (curveFl cs i).length ≤ cap ∧ cap ≤ maxLen) := fun i hi => by
  obtain ⟨ls, hls, -⟩ := get_some cs i (by omega)
  obtain ⟨a', cap, h1, h2, h3, h4, -⟩ := hcc i ls hls
  rw [curveFl_get hls]
  exact ⟨a', cap, h1, h2, h3, h4⟩
 have hb1 : Below w.heap.size w (w.alloc (.cells #[.slice (some ⟨b, off, none⟩) 8 ccap, .string kb, .int .i64 per, .slice na r ncap] 25)) := (Below.refl _ _).alloc (Nat.le_refl _) _
 have hga := gateAt_new w (.slice (some ⟨b, off, none⟩) 8 ccap) kb per (.slice na r ncap) 25
 obtain ⟨V, hV⟩ : ∃ V, w.alloc (.cells #[.slice (some ⟨b, off, none⟩) 8 ccap, .string kb, .int .i64 per, .slice na r ncap] 25) = V := ⟨_, rfl⟩
 rw [hV] at hb1 hga
 have HV : Hid (Below w.heap.size w V ∧ GateAt V w.heap.size (.slice (some ⟨b, off, none⟩) 8 ccap) kb per (.slice na r ncap)) := ⟨hb1, hga⟩
 have y0 := hga.c0
 obtain ⟨a0, cap0, c0, l0, k0, k0'⟩ := HC.out 0 (by decide)
 have c0' := cell_later hb1 c0
 rw [Nat.add_zero] at c0'
 have HL0 : Hid (Lies V a0 (curveFl cs 0) ∧ (curveFl cs 0).length ≤ cap0 ∧ cap0 ≤ maxLen) := ⟨l0.below hb1, k0, k0'⟩
 rw [hlen]
 obtain ⟨q, hq⟩ : ∃ q, (curveFl cs 0).length = q := ⟨_, rfl⟩
 have HQ : Hid ((curveFl cs 0).length = q) := hq
 have hqm : q ≤ 9223372036854775807 := by have := Nat.le_trans k0 k0'; unfold maxLen at this; omega
 rw [hq] at c0'
 clear hS HSum hc hlen hto hcc hb1 hga c0 l0 k0 k0' hq
 go_enter Tryz.func15, Tryz.ntmps15
 by_cases hq0 : q = 0
 ·
  subst hq0
  have HE : Hid (AllEnd S cs w (.returned (.tuple #[.slice none 0 0, .bool false])) V) := ⟨HV.out.1, .inl ⟨.inl (List.length_eq_zero_iff.1 HQ.out), rfl⟩⟩
  go_wp2_with fail
  go_ret2
  exact HE.out
 ·
  have hq1 : decide ((q : Int) = 0) = false := decide_eq_false (by omega)
  have hq2 : ((q : Int) == 0) = false := by simp; omega
  have H0 : Hid (curveFl cs 0 ≠ []) := fun e => hq0 (by rw [← HQ.out, e]; rfl)
  go_wp2_with fail
  go_loopw [4, 5] (fun v i wr => ∃ (k : Nat) (a : Option Addr) (cap : Nat) (L : List (Int × Int)), 1 ≤ k ∧ k ≤ 8 ∧ i = .int .i64 k ∧ v = .slice a L.length cap ∧ AddTo S cs k L ∧ Lies wr a L ∧ L.length ≤ cap ∧ cap ≤ maxLen ∧ Below V.heap.size V wr) (fun _ i _ => 8 - (intOf i).toNat)
  case atStart => exact ⟨1, a0, cap0, curveFl cs 0, by omega, by omega, rfl, by rw [HQ.out], rfl, HL0.out.1, HL0.out.2.1, HL0.out.2.2, Below.refl _ _⟩
  case round =>
   obtain ⟨k, a, cap, L, hk1, hk8, rfl, rfl, hadd, hlies, hlc, hlm, hb⟩ := hrel
   have HR : Hid (AddTo S cs k L ∧ Lies wr a L ∧ L.length ≤ cap ∧ cap ≤ maxLen ∧ Below w.heap.size w wr ∧ okCurve L) := ⟨hadd, hlies, hlc, hlm, HV.out.1.trans (hb.mono HV.out.1.size), addTo_ok HH.out.1 HH.out.2 H0.out k L hk8 hadd⟩
   have HRb : Hid (Below V.heap.size V wr) := hb
   have x0 := cell_later hb HV.out.2.c0
   obtain ⟨m, hm⟩ : ∃ m, L.length = m := ⟨_, rfl⟩
   have HM : Hid (L.length = m) := hm
   rw [hm]
   clear hadd hlies hlc hlm hb c0' y0 hm
   by_cases hk : k < 8
   ·
    obtain ⟨a2, cap2, ck, lk, kk, kk'⟩ := HC.out k hk
    have ck' := cell_later HR.out.2.2.2.2.1 ck
    have HLk : Hid (Lies wr a2 (curveFl cs k)) := lk.below HR.out.2.2.2.2.1
    obtain ⟨t, ht⟩ : ∃ t, (curveFl cs k).length = t := ⟨_, rfl⟩
    have HT : Hid ((curveFl cs k).length = t) := ht
    have htm : t ≤ 9223372036854775807 := by have := Nat.le_trans kk kk'; unfold maxLen at this; omega
    rw [ht] at ck'
    clear ck lk kk kk' ht
    by_cases ht0 : t = 0
    ·
     subst ht0
     have HE : Hid (AllEnd S cs w (.returned (.tuple #[.slice a m cap, .bool true])) wr) := ⟨HR.out.2.2.2.2.1, .inr ⟨a, cap, L, ⟨H0.out, k, hk1, hk8, HR.out.1, .inr (List.length_eq_zero_iff.1 HT.out)⟩, HR.out.2.2.2.2.2, by rw [HM.out], HR.out.2.1, HR.out.2.2.1, HR.out.2.2.2.1⟩⟩
     go_wp2_with fail
     go_ret2
     exact HE.out
    ·
     have ht1 : decide (0 < (t : Int)) = true := decide_eq_true (by omega)
     have ht2 : decide (0 < t) = true := decide_eq_true (by omega)
     have HNe : Hid (curveFl cs k ≠ []) := fun e => ht0 (by rw [← HT.out, e]; rfl)
     have HGo : Hid (Calls Tryz.prog 42 #[.slice a m cap, .slice a2 t cap2] wr fun e w' => ∃ a cap code L', e = .returned (.tuple #[.slice a L'.length cap, .int .i64 code]) ∧ S L (curveFl cs k) code L' ∧ Lies w' a L' ∧ L'.length ≤ cap ∧ cap ≤ maxLen ∧ Below wr.heap.size wr w') := by
      have hkc : okCurve (curveFl cs k) := by
       rcases HH.out.2 k hk with e | e
       · exact absurd e HNe.out
       · exact e
      have := HSu.out a a2 cap cap2 L (curveFl cs k) wr HR.out.2.1 HLk.out HR.out.2.2.2.2.2 hkc
      rwa [HM.out, HT.out] at this
     go_wp2_with fail
     refine HGo.out.mono ?_
     rintro e w5 ⟨a5, cap5, code, L5, rfl, hs5, hl5, hc5, hm5, hb5⟩
     obtain ⟨n1, n2⟩ := HH.out.1.num _ _ _ _ hs5
     have H5 : Hid (S L (curveFl cs k) code L5 ∧ Lies w5 a5 L5 ∧ L5.length ≤ cap5 ∧ cap5 ≤ maxLen ∧ Below w.heap.size w w5 ∧ Below V.heap.size V w5) := ⟨hs5, hl5, hc5, hm5, HR.out.2.2.2.2.1.trans (hb5.mono HR.out.2.2.2.2.1.size), HRb.out.trans (hb5.mono HRb.out.size)⟩
     obtain ⟨m5, hm5'⟩ : ∃ m5, L5.length = m5 := ⟨_, rfl⟩
     have HM5 : Hid (L5.length = m5) := hm5'
     rw [hm5']
     clear hs5 hl5 hc5 hm5 hb5 hm5' x0 ck'
     by_cases hcode : code = 0
     ·
      subst hcode
      go_wp2_with fail
      go_roundw
      case rel => exact ⟨k + 1, a5, cap5, L5, by omega, by omega, by go_num, by rw [HM5.out], addTo_next HR.out.1 HNe.out H5.out.1, H5.out.2.1, H5.out.2.2.1, H5.out.2.2.2.1, H5.out.2.2.2.2.2⟩
      case measure => simp [intOf]; omega
     ·
      have hcd : decide (0 < code) = true := decide_eq_true (by omega)
      have HE : Hid (AllEnd S cs w (.returned (.tuple #[.slice none 0 0, .bool false])) w5) := ⟨H5.out.2.2.2.2.1, .inl ⟨.inr ⟨H0.out, k, L, code, L5, hk1, hk, HR.out.1, HNe.out, H5.out.1, hcode⟩, rfl⟩⟩
      go_wp2_with fail
      go_ret2
      exact HE.out
   ·
    obtain rfl : k = 8 := by omega
    have HE : Hid (AllEnd S cs w (.returned (.tuple #[.slice a m cap, .bool true])) wr) := ⟨HR.out.2.2.2.2.1, .inr ⟨a, cap, L, ⟨H0.out, 8, hk1, hk8, HR.out.1, .inl rfl⟩, HR.out.2.2.2.2.2, by rw [HM.out], HR.out.2.1, HR.out.2.2.1, HR.out.2.2.2.1⟩⟩
    go_wp2_with fail
    go_ret2
    exact HE.out
end Go.Proofs.YtibhkijaafdkoaaGreatDoor

namespace Go.Proofs.YtibhkijaafdkoaaGreatDoor
open Go.RowKit
theorem coded_yes (E : Value) (code : Int) (w : World) (h : CodeIs w E code (-1)) :
  Calls Tryz.prog 16 #[E, .int .i64 code] w fun e w' => e = .returned (.bool true) ∧ Below w.heap.size w w' := by
 have HC : Hid (CodeIs w E code (-1)) := h
 clear h
 go_enter Tryz.func16, Tryz.ntmps16
 go_wp2_with fail
 refine (HC.out w (Below.refl _ _)).mono ?_
 rintro e w1 ⟨rfl, hb⟩
 go_wp2_with fail
 go_ret
 exact ⟨rfl, hb⟩
end Go.Proofs.YtibhkijaafdkoaaGreatDoor
