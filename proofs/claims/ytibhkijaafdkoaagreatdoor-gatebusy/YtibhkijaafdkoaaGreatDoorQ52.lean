/- Own facts, put together: no statement of its own. -/
import Derived.Test.YtibhkijaafdkoaaGreatDoorQ51
namespace Go.Proofs.YtibhkijaafdkoaaGreatDoor
open Go.RowKit
theorem Own2.at2 {w : World} {B : Nat} {a : Option Addr} {n cap : Nat} {ls : List (Int × Int)} (h : Own2 w B (.slice a n cap) ls) (h0 : 0 < ls.length) : ∃ g, a = some ⟨g, 0, none⟩ ∧ ∀ i x y, ls[i]? = some (x, y) → w.cell? ⟨g, i * 2, none⟩ = some (.int .i64 x) ∧ w.cell? ⟨g, i * 2 + 1, none⟩ = some (.int .i64 y) := by
 obtain ⟨g, cap', hv, -, -, -, -, hc, -⟩ := h.place h0
 injection hv with h1 h2 h3
 exact ⟨g, h1, hc⟩
section
variable (ca : Option Addr) (ccap : Nat) (cs : List (List (Int × Int))) (kb : ByteArray) (per : Int) (na : Option Addr) (ncap : Nat) (ns : List Int) (ma : Option Addr) (mcap : Nat) (nn : List (List Int)) (pa : Option Addr) (pcap : Nat) (ps : List Pk) (w : World) (ad : Nat → Addr)
set_option maxRecDepth 100000 in
set_option maxHeartbeats 8000000 in
theorem gateBusy_main (GW : GateWalks) (he : Errs9 w ad) (hg : GateLies w ca ccap cs na ncap ns) (hmm : LiesM w ma nn) (hp : PksLie w pa pcap ps) (hfit : ps.length ≤ 100 ∨ ps.length = 301) (hn10 : nn.length ≤ 10) :
  Calls Tryz.prog 5 #[.agg #[.slice ca cs.length ccap, .string kb, .int .i64 per, .slice na ns.length ncap], .slice ma nn.length mcap, .slice pa ps.length pcap] w fun e w' => e = .returned (.bool true) ∧ Below w.heap.size w w' := by
 have HOp : Hid (∀ W, Below w.heap.size w W → Calls Tryz.prog 9 #[] W fun e w' => e = .returned (.bool true) ∧ Below W.heap.size W w') := fun W hb => opens_by GW W ad (he.below hb)
 have HWi : Hid (∀ W, Below w.heap.size w W → Calls Tryz.prog 10 #[.agg #[.slice ca cs.length ccap, .string kb, .int .i64 per, .slice na ns.length ncap]] W fun e w' => WideEnd cs ns W e w') := fun W hb => wide_any ca ccap cs kb per na ncap ns W (hg.curves.below hb) hg.cfit hg.cmax hg.nfit hg.nmax
 have HFit : Hid (∀ w', Calls Tryz.prog 19 #[.slice pa ps.length pcap, .int .i64 100] w' fun e w'' => e = .returned (.bool true) ∧ w'' = w') := fun w' => fitPkts_yes pa ps.length pcap 100 w' (Nat.le_trans hp.cap hp.max) (by omega)
 have HOg : Hid (∀ W kb' na' ncap' (ns' : List Int), Below w.heap.size w W → LiesN W na' ns' → (na' = none → ns' = [] ∧ ncap' = 0) → ns'.length ≤ 30 → Calls Tryz.prog 12 #[.agg #[.slice ca cs.length ccap, .string kb', .int .i64 per, .slice na' ns'.length ncap']] W fun e w' => ∃ c6 k6 n6 m6, e = .returned (.agg #[.slice c6 cs.length k6, .string kb', .int .i64 per, .slice n6 ns'.length m6]) ∧ GateLies w' c6 k6 cs n6 m6 ns' ∧ Below W.heap.size W w') := fun W kb' na' ncap' ns' hb hl hnn h30 => by
  have hs : Slim cs ns' := ⟨hg.slim.curves, h30, hg.slim.each⟩
  exact (ownGate_any ca ccap cs kb' per na' ncap' ns' W (hg.curves.below hb) hl hnn hs).mono fun e w' ⟨c6, k6, n6, m6, h1, h2, h3, h4, h5, h6, h7, h8, h9⟩ => ⟨c6, k6, n6, m6, h1, ⟨h2, h3, h4, h5, h6, h7, h8, hs⟩, h9⟩
 have HOp2 : Hid (∀ W, Below w.heap.size w W → Calls Tryz.prog 21 #[.slice pa ps.length pcap] W fun e w' => ∃ a' cap', e = .returned (.slice a' ps.length cap') ∧ PksLie w' a' cap' ps ∧ Below W.heap.size W w') := fun W hb => (ownPackets_any pa pcap ps W (hp.pks.below hb) (by omega) hp.none_).mono fun e w' ⟨v, h1, h2, h3⟩ => by
  obtain ⟨a', cap', rfl, g1, g2, g3, -, g5⟩ := OwnP.open h2
  exact ⟨a', cap', h1, ⟨g3, g1, g2, g5⟩, h3⟩
 have HRun : Hid (∀ W kb' c6 k6 n6 m6 (ns' : List Int) a7 k7, Below w.heap.size w W → GateLies W c6 k6 cs n6 m6 ns' → PksLie W a7 k7 ps → Calls Tryz.prog 20 #[.agg #[.slice c6 cs.length k6, .string kb', .int .i64 per, .slice n6 ns'.length m6], .slice a7 ps.length k7] W fun e w' => RunB cs per ps ps.length W e w') := fun W kb' c6 k6 n6 m6 ns' a7 k7 hb h1 h2 => runB GW c6 k6 cs kb' per n6 m6 ns' a7 k7 ps W ad (he.below hb) h1 h2
 have HNN : Hid (∀ (i : Nat), i < nn.length → ∃ b off ns' a' cap, ma = some ⟨b, off, none⟩ ∧ w.cell? ⟨b, off + i, none⟩ = some (.slice a' ns'.length cap) ∧ LiesN w a' ns' ∧ ns'.length ≤ cap ∧ cap ≤ maxLen ∧ (a' = none → ns' = [] ∧ cap = 0)) := fun i hi => by
  obtain ⟨b, off, e, -, hc⟩ := hmm.place (by omega)
  obtain ⟨a', cap, h⟩ := hc i nn[i] (List.getElem?_eq_getElem hi)
  exact ⟨b, off, nn[i], a', cap, e, h⟩
 have hb1 : Below w.heap.size w (w.alloc (.cells #[.slice ca cs.length ccap, .string kb, .int .i64 per, .slice na ns.length ncap] 25)) := (Below.refl _ _).alloc (Nat.le_refl _) _
 have hga := gateAt_new w (.slice ca cs.length ccap) kb per (.slice na ns.length ncap) 25
 obtain ⟨V, hV⟩ : ∃ V, w.alloc (.cells #[.slice ca cs.length ccap, .string kb, .int .i64 per, .slice na ns.length ncap] 25) = V := ⟨_, rfl⟩
 rw [hV] at hb1 hga
 have HV : Hid (Below w.heap.size w V ∧ GateAt V w.heap.size (.slice ca cs.length ccap) kb per (.slice na ns.length ncap)) := ⟨hb1, hga⟩
 obtain ⟨m, hm⟩ : ∃ m, cs.length = m := ⟨_, rfl⟩
 obtain ⟨r, hr⟩ : ∃ r, ns.length = r := ⟨_, rfl⟩
 obtain ⟨n, hn⟩ : ∃ n, ps.length = n := ⟨_, rfl⟩
 obtain ⟨y, hy⟩ : ∃ y, nn.length = y := ⟨_, rfl⟩
 rw [hm, hr] at HWi HV hV
 rw [hm] at HOg
 rw [hn] at HFit HOp2
 rw [hm, hn] at HRun
 rw [hy] at HNN hn10
 rw [hm, hr, hn, hy]
 clear he hg hmm hp hfit hb1 hga hm hr hn hy GW
 have hy1 : decide ((10 : Int) < (y : Int)) = false := decide_eq_false (by omega)
 have hy2 : decide (10 < y) = false := decide_eq_false (by omega)
 go_enter Tryz.func5, Tryz.ntmps5
 go_wp2_with fail
 refine (HOp.out _ HV.out.1).mono ?_
 rintro e w1 ⟨rfl, hb⟩
 have HB1 : Hid (Below w.heap.size w w1) := HV.out.1.trans (hb.mono HV.out.1.size)
 obtain ⟨x0, x1, x2, x3⟩ := HV.out.2.later hb
 have HX1 : Hid (GateAt w1 w.heap.size (.slice ca m ccap) kb per (.slice na r ncap)) := HV.out.2.later hb
 clear hb hV
 go_wp2_with fail
 refine (HWi.out _ HB1.out).mono ?_
 rintro e w2 ⟨rfl | ⟨rfl, -⟩, hb⟩
 ·
  have HB2 : Hid (Below w.heap.size w w2) := HB1.out.trans (hb.mono HB1.out.size)
  clear hb
  go_wp2_with fail
  go_ret
  exact ⟨rfl, HB2.out⟩
 have HB2 : Hid (Below w.heap.size w w2) := HB1.out.trans (hb.mono HB1.out.size)
 have HX2 : Hid (GateAt w2 w.heap.size (.slice ca m ccap) kb per (.slice na r ncap)) := HX1.out.later hb
 clear hb x0 x1 x2 x3
 go_wp2_with fail
 refine (HFit.out _).mono ?_
 rintro e w3 ⟨rfl, rfl⟩
 go_wp2_with fail
 have hbK : Below w3.heap.size w3 (w3.alloc (.cells #[.string ⟨#[102, 105, 102, 111]⟩, .string ⟨#[114, 97, 110, 107]⟩, .string ⟨#[100, 117, 101]⟩, .string ⟨#[114, 111, 117, 110, 100]⟩, .string ⟨#[102, 97, 105, 114]⟩] 9)) := (Below.refl _ _).alloc (Nat.le_refl _) _
 have HW0 : Hid (Below w.heap.size w (w3.alloc (.cells #[.string ⟨#[102, 105, 102, 111]⟩, .string ⟨#[114, 97, 110, 107]⟩, .string ⟨#[100, 117, 101]⟩, .string ⟨#[114, 111, 117, 110, 100]⟩, .string ⟨#[102, 97, 105, 114]⟩] 9)) ∧ GateAt (w3.alloc (.cells #[.string ⟨#[102, 105, 102, 111]⟩, .string ⟨#[114, 97, 110, 107]⟩, .string ⟨#[100, 117, 101]⟩, .string ⟨#[114, 111, 117, 110, 100]⟩, .string ⟨#[102, 97, 105, 114]⟩] 9)) w.heap.size (.slice ca m ccap) kb per (.slice na r ncap) ∧ (∀ i kb', kindRow[i]? = some kb' → (w3.alloc (.cells #[.string ⟨#[102, 105, 102, 111]⟩, .string ⟨#[114, 97, 110, 107]⟩, .string ⟨#[100, 117, 101]⟩, .string ⟨#[114, 111, 117, 110, 100]⟩, .string ⟨#[102, 97, 105, 114]⟩] 9)).cell? ⟨w3.heap.size, i, none⟩ = some (.string kb'))) := ⟨HB2.out.trans (hbK.mono HB2.out.size), HX2.out.later hbK, fun i kb' h => by
  match i, h with
  | 0, h => cases h; simp
  | 1, h => cases h; simp
  | 2, h => cases h; simp
  | 3, h => cases h; simp
  | 4, h => cases h; simp
  | i + 5, h => simp [kindRow] at h⟩
 obtain ⟨W0, hW0⟩ : ∃ W0, W0 = w3.alloc (.cells #[.string ⟨#[102, 105, 102, 111]⟩, .string ⟨#[114, 97, 110, 107]⟩, .string ⟨#[100, 117, 101]⟩, .string ⟨#[114, 111, 117, 110, 100]⟩, .string ⟨#[102, 97, 105, 114]⟩] 9) := ⟨_, rfl⟩
 obtain ⟨K, hK⟩ : ∃ K, K = w3.heap.size := ⟨_, rfl⟩
 rw [← hW0, ← hK] at HW0
 rw [← hW0, ← hK]
 clear hW0 hK hbK HB1 HB2 HX1 HX2 HFit HOp HWi HV
 go_loopw [9, 10, 11] (fun v9 v10 v11 wr => ∃ (i : Nat) (fd : Bool), i ≤ 5 ∧ v11 = .int .i64 i ∧ v10 = .bool fd ∧ Below W0.heap.size W0 wr ∧ (fd = false → v9 = .slice none 0 0) ∧ (fd = true → ∃ B F, Own2 wr B v9 F ∧ GoodBusy cs per ps F)) (fun _ _ v11 _ => 5 - (intOf v11).toNat)
 case atStart => exact ⟨0, false, Nat.zero_le _, rfl, rfl, Below.refl _ _, fun _ => rfl, fun h => by cases h⟩
 case round =>
  obtain ⟨i, fd, hi, rfl, rfl, hb, h9, hF⟩ := hrel
  obtain ⟨W1, hW1⟩ : ∃ W, W = wr := ⟨_, rfl⟩
  subst hW1
  obtain ⟨v9, hv9⟩ : ∃ v, v = u9 := ⟨_, rfl⟩
  subst hv9
  have HR : Hid (Below w.heap.size w W1 ∧ Below W0.heap.size W0 W1 ∧ GateAt W1 w.heap.size (.slice ca m ccap) kb per (.slice na r ncap)) := ⟨HW0.out.1.trans (hb.mono HW0.out.1.size), hb, HW0.out.2.1.later hb⟩
  have HFd : Hid ((fd = false → v9 = .slice none 0 0) ∧ (fd = true → ∃ B F, Own2 W1 B v9 F ∧ GoodBusy cs per ps F)) := ⟨h9, hF⟩
  clear h9 hF
  by_cases hi5 : i < 5
  ·
   obtain ⟨kb', hkb, -⟩ := get_some kindRow i hi5
   have ck := cell_later hb (HW0.out.2.2 i kb' hkb)
   obtain ⟨x0, x1, x2, x3⟩ := HR.out.2.2
   have hbA : Below W1.heap.size W1 (W1.alloc (.cells #[.slice ca m ccap, .string kb, .int .i64 per, .slice na r ncap] 25)) := (Below.refl _ _).alloc (Nat.le_refl _) _
   have hgA := gateAt_new W1 (.slice ca m ccap) kb per (.slice na r ncap) 25
   have hzA : ∀ o, (W1.alloc (.cells #[.slice ca m ccap, .string kb, .int .i64 per, .slice na r ncap] 25)).frozen? ⟨W1.heap.size, o, none⟩ = false := fun o => World.frozen?_alloc_new W1 _ _ o
   have ck2 := cell_later hbA ck
   obtain ⟨A, hA⟩ : ∃ A, W1.alloc (.cells #[.slice ca m ccap, .string kb, .int .i64 per, .slice na r ncap] 25) = A := ⟨_, rfl⟩
   obtain ⟨X, hX⟩ : ∃ X, W1.heap.size = X := ⟨_, rfl⟩
   rw [hA] at hbA hgA hzA ck2
   rw [hX] at hgA hzA
   have ne : ∀ o p : Nat, o ≠ p → (⟨X, o, none⟩ : Addr) ≠ ⟨X, p, none⟩ := fun o p h e => by injection e with e1 e2; exact h e2
   have c3' : (A.setCell ⟨X, 1, none⟩ (.string kb')).cell? ⟨X, 3, none⟩ = some (.slice na r ncap) := by rw [World.cell?_setCell_other _ _ _ _ (ne 1 3 (by decide))]; exact hgA.c3
   have z1 := hzA 1
   have z3 : (A.setCell ⟨X, 1, none⟩ (.string kb')).frozen? ⟨X, 3, none⟩ = false := by rw [World.frozen?_setCell]; exact hzA 3
   have hg2 : GateAt ((A.setCell ⟨X, 1, none⟩ (.string kb')).setCell ⟨X, 3, none⟩ (.slice none 0 0)) X (.slice ca m ccap) kb' per (.slice none 0 0) := ⟨by rw [World.cell?_setCell_other _ _ _ _ (ne 3 0 (by decide)), World.cell?_setCell_other _ _ _ _ (ne 1 0 (by decide))]; exact hgA.c0, by rw [World.cell?_setCell_other _ _ _ _ (ne 3 1 (by decide))]; exact World.cell?_setCell_same' _ _ _ (by rw [hgA.c1]; rfl), by rw [World.cell?_setCell_other _ _ _ _ (ne 3 2 (by decide)), World.cell?_setCell_other _ _ _ _ (ne 1 2 (by decide))]; exact hgA.c2, World.cell?_setCell_same' _ _ _ (by rw [c3']; rfl)⟩
   have hbut : But (fun k => k = X) A ((A.setCell ⟨X, 1, none⟩ (.string kb')).setCell ⟨X, 3, none⟩ (.slice none 0 0)) := But.setCell (S := fun k => k = X) (But.setCell (S := fun k => k = X) (But.refl _ A) (p := ⟨X, 1, none⟩) rfl _) (p := ⟨X, 3, none⟩) rfl _
   have hb2 : Below W1.heap.size W1 ((A.setCell ⟨X, 1, none⟩ (.string kb')).setCell ⟨X, 3, none⟩ (.slice none 0 0)) := hbA.trans (hbut.below hbA.size fun k hk => by rw [hX]; omega)
   have hz2 : ((A.setCell ⟨X, 1, none⟩ (.string kb')).setCell ⟨X, 3, none⟩ (.slice none 0 0)).frozen? ⟨X, 3, none⟩ = false := by rw [World.frozen?_setCell]; exact z3
   have a1 := hgA.c1
   obtain ⟨D, hD⟩ : ∃ D, ((A.setCell ⟨X, 1, none⟩ (.string kb')).setCell ⟨X, 3, none⟩ (.slice none 0 0)) = D := ⟨_, rfl⟩
   rw [hD] at hg2 hb2 hz2
   have HD : Hid (GateAt D X (.slice ca m ccap) kb' per (.slice none 0 0) ∧ Below W1.heap.size W1 D ∧ D.frozen? ⟨X, 3, none⟩ = false ∧ W1.heap.size = X) := ⟨hg2, hb2, hz2, hX⟩
   obtain ⟨y0, y1, y2, y3⟩ := hg2
   have HTr : Hid (∀ W, Below D.heap.size D W → Below w.heap.size w W ∧ Below W0.heap.size W0 W ∧ Below W1.heap.size W1 W) := fun W hW => by
    have h1 := hb2.trans (hW.mono hb2.size)
    exact ⟨HR.out.1.trans (h1.mono HR.out.1.size), HR.out.2.1.trans (h1.mono HR.out.2.1.size), h1⟩
   clear hb hkb hbA hgA hzA ne hbut hb2 hz2
   by_cases hrow : 0 < i ∧ i ≤ y
   ·
    obtain ⟨hr1, hr2⟩ := hrow
    obtain ⟨b, off, ns', a', cap, rfl, cr, lr, hr3, hr4, hr5⟩ := HNN.out (i - 1) (by omega)
    have crD := cell_later (HTr.out D (Below.refl _ _)).1 cr
    obtain ⟨q, hq⟩ : ∃ q, ns'.length = q := ⟨_, rfl⟩
    have HRw : Hid (LiesN w a' ns' ∧ (a' = none → ns' = [] ∧ cap = 0) ∧ ns'.length = q) := ⟨lr, hr5, hq⟩
    have hqm : q ≤ 9223372036854775807 := by rw [← hq]; have := Nat.le_trans hr3 hr4; unfold maxLen at this; omega
    rw [hq] at crD
    have hd1 : decide (0 < (i : Int)) = true := decide_eq_true (by omega)
    have hd2 : decide ((i : Int) ≤ (y : Int)) = true := decide_eq_true (by omega)
    clear cr lr hr3 hr4 hr5 hq
    by_cases h30 : q ≤ 30
    ·
     have hq30 : decide ((30 : Int) < (q : Int)) = false := decide_eq_false (by omega)
     have ne : ∀ o : Nat, o ≠ 3 → (⟨X, 3, none⟩ : Addr) ≠ ⟨X, o, none⟩ := fun o h e => by injection e with e1 e2; exact h e2.symm
     have hg3 : GateAt (D.setCell ⟨X, 3, none⟩ (.slice a' q cap)) X (.slice ca m ccap) kb' per (.slice a' q cap) := ⟨by rw [World.cell?_setCell_other _ _ _ _ (ne 0 (by decide))]; exact y0, by rw [World.cell?_setCell_other _ _ _ _ (ne 1 (by decide))]; exact y1, by rw [World.cell?_setCell_other _ _ _ _ (ne 2 (by decide))]; exact y2, World.cell?_setCell_same' _ _ _ (by rw [y3]; rfl)⟩
     have hbut : But (fun k => k = X) D (D.setCell ⟨X, 3, none⟩ (.slice a' q cap)) := But.setCell (S := fun k => k = X) (But.refl _ D) (p := ⟨X, 3, none⟩) rfl _
     have hb3 : Below W1.heap.size W1 (D.setCell ⟨X, 3, none⟩ (.slice a' q cap)) := HD.out.2.1.trans (hbut.below HD.out.2.1.size fun k hk => by have := HD.out.2.2.2; omega)
     have zD := HD.out.2.2.1
     obtain ⟨D3, hD3⟩ : ∃ D3, (D.setCell ⟨X, 3, none⟩ (.slice a' q cap)) = D3 := ⟨_, rfl⟩
     rw [hD3] at hg3 hb3
     have HTr3 : Hid (∀ W, Below D3.heap.size D3 W → Below w.heap.size w W ∧ Below W0.heap.size W0 W ∧ Below W1.heap.size W1 W) := fun W hW => by
      have h1 := hb3.trans (hW.mono hb3.size)
      exact ⟨HR.out.1.trans (h1.mono HR.out.1.size), HR.out.2.1.trans (h1.mono HR.out.2.1.size), h1⟩
     have HGo3 : Hid (Calls Tryz.prog 12 #[.agg #[.slice ca m ccap, .string kb', .int .i64 per, .slice a' q cap]] D3 fun e w' => ∃ c6 k6 n6 m6, e = .returned (.agg #[.slice c6 m k6, .string kb', .int .i64 per, .slice n6 q m6]) ∧ GateLies w' c6 k6 cs n6 m6 ns' ∧ Below D3.heap.size D3 w') := by
      have hbD := (HTr3.out D3 (Below.refl _ _)).1
      have := HOg.out D3 kb' a' cap ns' hbD (HRw.out.1.below hbD) HRw.out.2.1 (by rw [HRw.out.2.2]; exact h30)
      rwa [HRw.out.2.2] at this
     obtain ⟨t0, t1, t2, t3⟩ := hg3
     clear ne hbut hb3
     go_wp2_with fail
     refine (HGo3.out).mono ?_
     rintro e w6 ⟨c6, k6, n6, m6, rfl, hg6, hb6⟩
     have HB6 : Hid (Below D3.heap.size D3 w6 ∧ GateLies w6 c6 k6 cs n6 m6 ns') := ⟨hb6, hg6⟩
     clear hg6 hb6 t0 t1 t2 t3
     go_wp2_with fail
     refine (HOp2.out _ (HTr3.out _ HB6.out.1).1).mono ?_
     rintro e w7 ⟨a7, k7, rfl, hp7, hb7⟩
     have HB7 : Hid (Below D3.heap.size D3 w7 ∧ GateLies w7 c6 k6 cs n6 m6 ns' ∧ PksLie w7 a7 k7 ps) := ⟨HB6.out.1.trans (hb7.mono HB6.out.1.size), HB6.out.2.below hb7, hp7⟩
     clear hp7 hb7
     have HRn : Hid (Calls Tryz.prog 20 #[.agg #[.slice c6 m k6, .string kb', .int .i64 per, .slice n6 q m6], .slice a7 n k7] w7 fun e w' => RunB cs per ps n w7 e w') := by
      have := HRun.out w7 kb' c6 k6 n6 m6 ns' a7 k7 (HTr3.out _ HB7.out.1).1 HB7.out.2.1 HB7.out.2.2
      rwa [HRw.out.2.2] at this
     go_wp2_with fail
     refine HRn.out.mono ?_
     rintro e w8 ⟨hb8, q1, q2, E, rfl, ⟨ty, v, rfl⟩ | ⟨rfl, la, lcap, l, rfl, hl, hll, hn3, hgb⟩⟩
     ·
      have HB8 : Hid (Below w.heap.size w w8 ∧ Below W0.heap.size W0 w8 ∧ Below W1.heap.size W1 w8) := HTr3.out _ (HB7.out.1.trans (hb8.mono HB7.out.1.size))
      clear hb8
      go_wp2_with fail
      go_roundw
      case rel => exact ⟨i + 1, fd, by omega, by go_num, rfl, HB8.out.2.1, HFd.out.1, fun h => by obtain ⟨B, F, h1, h2⟩ := HFd.out.2 h; exact ⟨B, F, h1.later HB8.out.2.2, h2⟩⟩
      case measure => simp [intOf]; omega
     ·
      have HB8 : Hid (Below D3.heap.size D3 w8 ∧ LiesS w8 la l ∧ l.length = n ∧ n ≤ 300 ∧ GoodBusy cs per ps (busyL l)) := ⟨HB7.out.1.trans (hb8.mono HB7.out.1.size), hl, hll, hn3, hgb⟩
      have HBz : Hid (Calls Tryz.prog 25 #[.slice la n lcap] w8 fun e w' => BusyEnd l w8 e w') := by
       have := busy_any la lcap l w8 hl (by omega)
       rwa [hll] at this
      clear hb8 hl hll hn3 hgb
      go_wp2_with fail
      refine HBz.out.mono ?_
      rintro e w9 ⟨v16, rfl, ho16, hb9⟩
      have HB9 : Hid (Below D3.heap.size D3 w9 ∧ Own2 w9 w8.heap.size v16 (busyL l)) := ⟨HB8.out.1.trans (hb9.mono HB8.out.1.size), ho16⟩
      clear ho16 hb9
      obtain ⟨a16, k16, rfl, h161, h162⟩ := HB9.out.2.form
      obtain ⟨f, hf⟩ : ∃ f, (busyL l).length = f := ⟨_, rfl⟩
      have HFl : Hid ((busyL l).length = f) := hf
      rw [hf] at h161 HB9 ⊢
      unfold maxLen at h162
      clear hf
      cases fd with
      | false =>
       go_wp2_with fail
       go_loopw [17] (fun v wr => ∃ u : Nat, u ≤ f ∧ v = .int .i64 u ∧ Below w9.heap.size w9 wr) (fun v _ => f - (intOf v).toNat)
       case atStart => exact ⟨0, Nat.zero_le _, rfl, Below.refl _ _⟩
       case round =>
        obtain ⟨u, hu, rfl, hbu⟩ := hrel
        have HBR : Hid (Below w9.heap.size w9 wr) := hbu
        by_cases huf : u < f
        ·
         obtain ⟨⟨xx, yy⟩, hxy, -⟩ := get_some (busyL l) u (by rw [HFl.out]; exact huf)
         obtain ⟨g4, rfl, hc4⟩ := HB9.out.2.at2 (by rw [HFl.out]; omega)
         have d1 := cell_later hbu (hc4 u xx yy hxy).1
         have d2 := cell_later hbu (hc4 u xx yy hxy).2
         clear hc4
         have q1 := Tryz.neqArr2
         have g1 := fun (w : World) op x y xs ys => run_eqGuard_agg (P := Tryz.prog) w op 60 x y xs ys Tryz.arr2Guard
         clear hxy hbu
         go_wp2_with fail
         go_quiet (fail)
         go_wp2_with fail
         go_roundw
         case rel => exact ⟨u + 1, by omega, by go_num, below_drewN HBR.out _⟩
         case measure => simp [intOf]; omega
        ·
         obtain rfl : u = f := by omega
         have HNx : Hid (Below W0.heap.size W0 wr ∧ Own2 wr w8.heap.size (.slice a16 u k16) (busyL l) ∧ GoodBusy cs per ps (busyL l)) := ⟨(HTr3.out _ (HB9.out.1.trans (hbu.mono HB9.out.1.size))).2.1, HB9.out.2.later hbu, HB8.out.2.2.2.2⟩
         clear hbu
         go_wp2_with fail
         go_roundw
         case rel => exact ⟨i + 1, true, by omega, by go_num, rfl, HNx.out.1, (fun h => by cases h), fun _ => ⟨_, _, HNx.out.2.1, HNx.out.2.2⟩⟩
         case measure => simp [intOf]; omega
      | true =>
       obtain ⟨B9, F9, o9, g9⟩ := HFd.out.2 rfl
       obtain rfl := g9.one HB8.out.2.2.2.2
       have HO9 : Hid (Own2 w9 B9 v9 (busyL l)) := o9.later (HTr3.out _ HB9.out.1).2.2
       clear o9 g9
       obtain ⟨a9, k9, rfl, h91, h92⟩ := HO9.out.form
       rw [HFl.out] at h91 HO9 ⊢
       unfold maxLen at h92
       go_wp2_with fail
       go_loopw [17] (fun v wr => ∃ u : Nat, u ≤ f ∧ v = .int .i64 u ∧ Below w9.heap.size w9 wr) (fun v _ => f - (intOf v).toNat)
       case atStart => exact ⟨0, Nat.zero_le _, rfl, Below.refl _ _⟩
       case round =>
        obtain ⟨u, hu, rfl, hbu⟩ := hrel
        have HBR : Hid (Below w9.heap.size w9 wr) := hbu
        by_cases huf : u < f
        ·
         obtain ⟨⟨xx, yy⟩, hxy, -⟩ := get_some (busyL l) u (by rw [HFl.out]; exact huf)
         obtain ⟨g4, rfl, hc4⟩ := HO9.out.at2 (by rw [HFl.out]; omega)
         have d1 := cell_later hbu (hc4 u xx yy hxy).1
         have d2 := cell_later hbu (hc4 u xx yy hxy).2
         clear hc4
         obtain ⟨g5, rfl, hc5⟩ := HB9.out.2.at2 (by rw [HFl.out]; omega)
         have d3 := cell_later hbu (hc5 u xx yy hxy).1
         have d4 := cell_later hbu (hc5 u xx yy hxy).2
         clear hc5
         have q1 := Tryz.neqArr2
         have g1 := fun (w : World) op x y xs ys => run_eqGuard_agg (P := Tryz.prog) w op 60 x y xs ys Tryz.arr2Guard
         clear hxy hbu
         go_wp2_with fail
         go_quiet (fail)
         go_wp2_with fail
         go_roundw
         case rel => exact ⟨u + 1, by omega, by go_num, below_drewN HBR.out _⟩
         case measure => simp [intOf]; omega
        ·
         obtain rfl : u = f := by omega
         have HNx : Hid (Below W0.heap.size W0 wr ∧ Own2 wr B9 (.slice a9 u k9) (busyL l) ∧ GoodBusy cs per ps (busyL l)) := ⟨(HTr3.out _ (HB9.out.1.trans (hbu.mono HB9.out.1.size))).2.1, HO9.out.later hbu, HB8.out.2.2.2.2⟩
         clear hbu
         go_wp2_with fail
         go_roundw
         case rel => exact ⟨i + 1, true, by omega, by go_num, rfl, HNx.out.1, (fun h => by cases h), fun _ => ⟨_, _, HNx.out.2.1, HNx.out.2.2⟩⟩
         case measure => simp [intOf]; omega
    ·
     have hq30 : decide ((30 : Int) < (q : Int)) = true := decide_eq_true (by omega)
     have HBD : Hid (Below w.heap.size w D) := (HTr.out D (Below.refl _ _)).1
     go_wp2_with fail
     go_ret
     exact ⟨rfl, HBD.out⟩
   ·
    have HGo : Hid (Calls Tryz.prog 12 #[.agg #[.slice ca m ccap, .string kb', .int .i64 per, .slice none 0 0]] D fun e w' => ∃ c6 k6 n6 m6, e = .returned (.agg #[.slice c6 m k6, .string kb', .int .i64 per, .slice n6 0 m6]) ∧ GateLies w' c6 k6 cs n6 m6 [] ∧ Below D.heap.size D w') := HOg.out D kb' none 0 [] (HTr.out D (Below.refl _ _)).1 (.inl rfl) (fun _ => ⟨rfl, rfl⟩) (by decide)
    have hi1 : i = 0 ∨ ¬ i ≤ y := by omega
    rcases hi1 with hi0 | hiy0
    ·
     have hi0d : decide (0 < (i : Int)) = false := decide_eq_false (by omega)
     have hi0n : decide (0 < i) = false := decide_eq_false (by omega)
     clear hi0 hrow
     go_wp2_with fail
     refine (HGo.out).mono ?_
     rintro e w6 ⟨c6, k6, n6, m6, rfl, hg6, hb6⟩
     have HB6 : Hid (Below D.heap.size D w6 ∧ GateLies w6 c6 k6 cs n6 m6 []) := ⟨hb6, hg6⟩
     clear hg6 hb6 y0 y1 y2 y3
     go_wp2_with fail
     refine (HOp2.out _ (HTr.out _ HB6.out.1).1).mono ?_
     rintro e w7 ⟨a7, k7, rfl, hp7, hb7⟩
     have HB7 : Hid (Below D.heap.size D w7 ∧ GateLies w7 c6 k6 cs n6 m6 [] ∧ PksLie w7 a7 k7 ps) := ⟨HB6.out.1.trans (hb7.mono HB6.out.1.size), HB6.out.2.below hb7, hp7⟩
     clear hp7 hb7
     go_wp2_with fail
     refine (HRun.out w7 kb' c6 k6 n6 m6 [] a7 k7 (HTr.out _ HB7.out.1).1 HB7.out.2.1 HB7.out.2.2).mono ?_
     rintro e w8 ⟨hb8, q1, q2, E, rfl, ⟨ty, v, rfl⟩ | ⟨rfl, la, lcap, l, rfl, hl, hll, hn3, hgb⟩⟩
     ·
      have HB8 : Hid (Below w.heap.size w w8 ∧ Below W0.heap.size W0 w8 ∧ Below W1.heap.size W1 w8) := HTr.out _ (HB7.out.1.trans (hb8.mono HB7.out.1.size))
      clear hb8
      go_wp2_with fail
      go_roundw
      case rel => exact ⟨i + 1, fd, by omega, by go_num, rfl, HB8.out.2.1, HFd.out.1, fun h => by obtain ⟨B, F, h1, h2⟩ := HFd.out.2 h; exact ⟨B, F, h1.later HB8.out.2.2, h2⟩⟩
      case measure => simp [intOf]; omega
     ·
      have HB8 : Hid (Below D.heap.size D w8 ∧ LiesS w8 la l ∧ l.length = n ∧ n ≤ 300 ∧ GoodBusy cs per ps (busyL l)) := ⟨HB7.out.1.trans (hb8.mono HB7.out.1.size), hl, hll, hn3, hgb⟩
      have HBz : Hid (Calls Tryz.prog 25 #[.slice la n lcap] w8 fun e w' => BusyEnd l w8 e w') := by
       have := busy_any la lcap l w8 hl (by omega)
       rwa [hll] at this
      clear hb8 hl hll hn3 hgb
      go_wp2_with fail
      refine HBz.out.mono ?_
      rintro e w9 ⟨v16, rfl, ho16, hb9⟩
      have HB9 : Hid (Below D.heap.size D w9 ∧ Own2 w9 w8.heap.size v16 (busyL l)) := ⟨HB8.out.1.trans (hb9.mono HB8.out.1.size), ho16⟩
      clear ho16 hb9
      obtain ⟨a16, k16, rfl, h161, h162⟩ := HB9.out.2.form
      obtain ⟨f, hf⟩ : ∃ f, (busyL l).length = f := ⟨_, rfl⟩
      have HFl : Hid ((busyL l).length = f) := hf
      rw [hf] at h161 HB9 ⊢
      unfold maxLen at h162
      clear hf
      cases fd with
      | false =>
       go_wp2_with fail
       go_loopw [17] (fun v wr => ∃ u : Nat, u ≤ f ∧ v = .int .i64 u ∧ Below w9.heap.size w9 wr) (fun v _ => f - (intOf v).toNat)
       case atStart => exact ⟨0, Nat.zero_le _, rfl, Below.refl _ _⟩
       case round =>
        obtain ⟨u, hu, rfl, hbu⟩ := hrel
        have HBR : Hid (Below w9.heap.size w9 wr) := hbu
        by_cases huf : u < f
        ·
         obtain ⟨⟨xx, yy⟩, hxy, -⟩ := get_some (busyL l) u (by rw [HFl.out]; exact huf)
         obtain ⟨g4, rfl, hc4⟩ := HB9.out.2.at2 (by rw [HFl.out]; omega)
         have d1 := cell_later hbu (hc4 u xx yy hxy).1
         have d2 := cell_later hbu (hc4 u xx yy hxy).2
         clear hc4
         have q1 := Tryz.neqArr2
         have g1 := fun (w : World) op x y xs ys => run_eqGuard_agg (P := Tryz.prog) w op 60 x y xs ys Tryz.arr2Guard
         clear hxy hbu
         go_wp2_with fail
         go_quiet (fail)
         go_wp2_with fail
         go_roundw
         case rel => exact ⟨u + 1, by omega, by go_num, below_drewN HBR.out _⟩
         case measure => simp [intOf]; omega
        ·
         obtain rfl : u = f := by omega
         have HNx : Hid (Below W0.heap.size W0 wr ∧ Own2 wr w8.heap.size (.slice a16 u k16) (busyL l) ∧ GoodBusy cs per ps (busyL l)) := ⟨(HTr.out _ (HB9.out.1.trans (hbu.mono HB9.out.1.size))).2.1, HB9.out.2.later hbu, HB8.out.2.2.2.2⟩
         clear hbu
         go_wp2_with fail
         go_roundw
         case rel => exact ⟨i + 1, true, by omega, by go_num, rfl, HNx.out.1, (fun h => by cases h), fun _ => ⟨_, _, HNx.out.2.1, HNx.out.2.2⟩⟩
         case measure => simp [intOf]; omega
      | true =>
       obtain ⟨B9, F9, o9, g9⟩ := HFd.out.2 rfl
       obtain rfl := g9.one HB8.out.2.2.2.2
       have HO9 : Hid (Own2 w9 B9 v9 (busyL l)) := o9.later (HTr.out _ HB9.out.1).2.2
       clear o9 g9
       obtain ⟨a9, k9, rfl, h91, h92⟩ := HO9.out.form
       rw [HFl.out] at h91 HO9 ⊢
       unfold maxLen at h92
       go_wp2_with fail
       go_loopw [17] (fun v wr => ∃ u : Nat, u ≤ f ∧ v = .int .i64 u ∧ Below w9.heap.size w9 wr) (fun v _ => f - (intOf v).toNat)
       case atStart => exact ⟨0, Nat.zero_le _, rfl, Below.refl _ _⟩
       case round =>
        obtain ⟨u, hu, rfl, hbu⟩ := hrel
        have HBR : Hid (Below w9.heap.size w9 wr) := hbu
        by_cases huf : u < f
        ·
         obtain ⟨⟨xx, yy⟩, hxy, -⟩ := get_some (busyL l) u (by rw [HFl.out]; exact huf)
         obtain ⟨g4, rfl, hc4⟩ := HO9.out.at2 (by rw [HFl.out]; omega)
         have d1 := cell_later hbu (hc4 u xx yy hxy).1
         have d2 := cell_later hbu (hc4 u xx yy hxy).2
         clear hc4
         obtain ⟨g5, rfl, hc5⟩ := HB9.out.2.at2 (by rw [HFl.out]; omega)
         have d3 := cell_later hbu (hc5 u xx yy hxy).1
         have d4 := cell_later hbu (hc5 u xx yy hxy).2
         clear hc5
         have q1 := Tryz.neqArr2
         have g1 := fun (w : World) op x y xs ys => run_eqGuard_agg (P := Tryz.prog) w op 60 x y xs ys Tryz.arr2Guard
         clear hxy hbu
         go_wp2_with fail
         go_quiet (fail)
         go_wp2_with fail
         go_roundw
         case rel => exact ⟨u + 1, by omega, by go_num, below_drewN HBR.out _⟩
         case measure => simp [intOf]; omega
        ·
         obtain rfl : u = f := by omega
         have HNx : Hid (Below W0.heap.size W0 wr ∧ Own2 wr B9 (.slice a9 u k9) (busyL l) ∧ GoodBusy cs per ps (busyL l)) := ⟨(HTr.out _ (HB9.out.1.trans (hbu.mono HB9.out.1.size))).2.1, HO9.out.later hbu, HB8.out.2.2.2.2⟩
         clear hbu
         go_wp2_with fail
         go_roundw
         case rel => exact ⟨i + 1, true, by omega, by go_num, rfl, HNx.out.1, (fun h => by cases h), fun _ => ⟨_, _, HNx.out.2.1, HNx.out.2.2⟩⟩
         case measure => simp [intOf]; omega
    ·
     have hiy : decide ((i : Int) ≤ (y : Int)) = false := decide_eq_false (by omega)
     clear hrow
     go_wp2_with fail
     refine (HGo.out).mono ?_
     rintro e w6 ⟨c6, k6, n6, m6, rfl, hg6, hb6⟩
     have HB6 : Hid (Below D.heap.size D w6 ∧ GateLies w6 c6 k6 cs n6 m6 []) := ⟨hb6, hg6⟩
     clear hg6 hb6 y0 y1 y2 y3
     go_wp2_with fail
     refine (HOp2.out _ (HTr.out _ HB6.out.1).1).mono ?_
     rintro e w7 ⟨a7, k7, rfl, hp7, hb7⟩
     have HB7 : Hid (Below D.heap.size D w7 ∧ GateLies w7 c6 k6 cs n6 m6 [] ∧ PksLie w7 a7 k7 ps) := ⟨HB6.out.1.trans (hb7.mono HB6.out.1.size), HB6.out.2.below hb7, hp7⟩
     clear hp7 hb7
     go_wp2_with fail
     refine (HRun.out w7 kb' c6 k6 n6 m6 [] a7 k7 (HTr.out _ HB7.out.1).1 HB7.out.2.1 HB7.out.2.2).mono ?_
     rintro e w8 ⟨hb8, q1, q2, E, rfl, ⟨ty, v, rfl⟩ | ⟨rfl, la, lcap, l, rfl, hl, hll, hn3, hgb⟩⟩
     ·
      have HB8 : Hid (Below w.heap.size w w8 ∧ Below W0.heap.size W0 w8 ∧ Below W1.heap.size W1 w8) := HTr.out _ (HB7.out.1.trans (hb8.mono HB7.out.1.size))
      clear hb8
      go_wp2_with fail
      go_roundw
      case rel => exact ⟨i + 1, fd, by omega, by go_num, rfl, HB8.out.2.1, HFd.out.1, fun h => by obtain ⟨B, F, h1, h2⟩ := HFd.out.2 h; exact ⟨B, F, h1.later HB8.out.2.2, h2⟩⟩
      case measure => simp [intOf]; omega
     ·
      have HB8 : Hid (Below D.heap.size D w8 ∧ LiesS w8 la l ∧ l.length = n ∧ n ≤ 300 ∧ GoodBusy cs per ps (busyL l)) := ⟨HB7.out.1.trans (hb8.mono HB7.out.1.size), hl, hll, hn3, hgb⟩
      have HBz : Hid (Calls Tryz.prog 25 #[.slice la n lcap] w8 fun e w' => BusyEnd l w8 e w') := by
       have := busy_any la lcap l w8 hl (by omega)
       rwa [hll] at this
      clear hb8 hl hll hn3 hgb
      go_wp2_with fail
      refine HBz.out.mono ?_
      rintro e w9 ⟨v16, rfl, ho16, hb9⟩
      have HB9 : Hid (Below D.heap.size D w9 ∧ Own2 w9 w8.heap.size v16 (busyL l)) := ⟨HB8.out.1.trans (hb9.mono HB8.out.1.size), ho16⟩
      clear ho16 hb9
      obtain ⟨a16, k16, rfl, h161, h162⟩ := HB9.out.2.form
      obtain ⟨f, hf⟩ : ∃ f, (busyL l).length = f := ⟨_, rfl⟩
      have HFl : Hid ((busyL l).length = f) := hf
      rw [hf] at h161 HB9 ⊢
      unfold maxLen at h162
      clear hf
      cases fd with
      | false =>
       go_wp2_with fail
       go_loopw [17] (fun v wr => ∃ u : Nat, u ≤ f ∧ v = .int .i64 u ∧ Below w9.heap.size w9 wr) (fun v _ => f - (intOf v).toNat)
       case atStart => exact ⟨0, Nat.zero_le _, rfl, Below.refl _ _⟩
       case round =>
        obtain ⟨u, hu, rfl, hbu⟩ := hrel
        have HBR : Hid (Below w9.heap.size w9 wr) := hbu
        by_cases huf : u < f
        ·
         obtain ⟨⟨xx, yy⟩, hxy, -⟩ := get_some (busyL l) u (by rw [HFl.out]; exact huf)
         obtain ⟨g4, rfl, hc4⟩ := HB9.out.2.at2 (by rw [HFl.out]; omega)
         have d1 := cell_later hbu (hc4 u xx yy hxy).1
         have d2 := cell_later hbu (hc4 u xx yy hxy).2
         clear hc4
         have q1 := Tryz.neqArr2
         have g1 := fun (w : World) op x y xs ys => run_eqGuard_agg (P := Tryz.prog) w op 60 x y xs ys Tryz.arr2Guard
         clear hxy hbu
         go_wp2_with fail
         go_quiet (fail)
         go_wp2_with fail
         go_roundw
         case rel => exact ⟨u + 1, by omega, by go_num, below_drewN HBR.out _⟩
         case measure => simp [intOf]; omega
        ·
         obtain rfl : u = f := by omega
         have HNx : Hid (Below W0.heap.size W0 wr ∧ Own2 wr w8.heap.size (.slice a16 u k16) (busyL l) ∧ GoodBusy cs per ps (busyL l)) := ⟨(HTr.out _ (HB9.out.1.trans (hbu.mono HB9.out.1.size))).2.1, HB9.out.2.later hbu, HB8.out.2.2.2.2⟩
         clear hbu
         go_wp2_with fail
         go_roundw
         case rel => exact ⟨i + 1, true, by omega, by go_num, rfl, HNx.out.1, (fun h => by cases h), fun _ => ⟨_, _, HNx.out.2.1, HNx.out.2.2⟩⟩
         case measure => simp [intOf]; omega
      | true =>
       obtain ⟨B9, F9, o9, g9⟩ := HFd.out.2 rfl
       obtain rfl := g9.one HB8.out.2.2.2.2
       have HO9 : Hid (Own2 w9 B9 v9 (busyL l)) := o9.later (HTr.out _ HB9.out.1).2.2
       clear o9 g9
       obtain ⟨a9, k9, rfl, h91, h92⟩ := HO9.out.form
       rw [HFl.out] at h91 HO9 ⊢
       unfold maxLen at h92
       go_wp2_with fail
       go_loopw [17] (fun v wr => ∃ u : Nat, u ≤ f ∧ v = .int .i64 u ∧ Below w9.heap.size w9 wr) (fun v _ => f - (intOf v).toNat)
       case atStart => exact ⟨0, Nat.zero_le _, rfl, Below.refl _ _⟩
       case round =>
        obtain ⟨u, hu, rfl, hbu⟩ := hrel
        have HBR : Hid (Below w9.heap.size w9 wr) := hbu
        by_cases huf : u < f
        ·
         obtain ⟨⟨xx, yy⟩, hxy, -⟩ := get_some (busyL l) u (by rw [HFl.out]; exact huf)
         obtain ⟨g4, rfl, hc4⟩ := HO9.out.at2 (by rw [HFl.out]; omega)
         have d1 := cell_later hbu (hc4 u xx yy hxy).1
         have d2 := cell_later hbu (hc4 u xx yy hxy).2
         clear hc4
         obtain ⟨g5, rfl, hc5⟩ := HB9.out.2.at2 (by rw [HFl.out]; omega)
         have d3 := cell_later hbu (hc5 u xx yy hxy).1
         have d4 := cell_later hbu (hc5 u xx yy hxy).2
         clear hc5
         have q1 := Tryz.neqArr2
         have g1 := fun (w : World) op x y xs ys => run_eqGuard_agg (P := Tryz.prog) w op 60 x y xs ys Tryz.arr2Guard
         clear hxy hbu
         go_wp2_with fail
         go_quiet (fail)
         go_wp2_with fail
         go_roundw
         case rel => exact ⟨u + 1, by omega, by go_num, below_drewN HBR.out _⟩
         case measure => simp [intOf]; omega
        ·
         obtain rfl : u = f := by omega
         have HNx : Hid (Below W0.heap.size W0 wr ∧ Own2 wr B9 (.slice a9 u k9) (busyL l) ∧ GoodBusy cs per ps (busyL l)) := ⟨(HTr.out _ (HB9.out.1.trans (hbu.mono HB9.out.1.size))).2.1, HO9.out.later hbu, HB8.out.2.2.2.2⟩
         clear hbu
         go_wp2_with fail
         go_roundw
         case rel => exact ⟨i + 1, true, by omega, by go_num, rfl, HNx.out.1, (fun h => by cases h), fun _ => ⟨_, _, HNx.out.2.1, HNx.out.2.2⟩⟩
         case measure => simp [intOf]; omega
  ·
   obtain rfl : i = 5 := by omega
   clear hb
   go_wp2_with fail
   go_ret
   exact ⟨rfl, HR.out.1⟩
end
end Go.Proofs.YtibhkijaafdkoaaGreatDoor
