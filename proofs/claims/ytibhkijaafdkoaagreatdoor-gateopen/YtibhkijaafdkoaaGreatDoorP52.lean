/- Own facts, put together: no statement of its own. -/
import Derived.Test.YtibhkijaafdkoaaGreatDoorP51
namespace Go.Proofs.YtibhkijaafdkoaaGreatDoor
open Go.RowKit
section
variable (pa : Option Addr) (pcap : Nat) (ps : List Pk) (per : Int) (na : Option Addr) (ncap : Nat) (ns : List Int) (w : World) (ad : Nat → Addr)
theorem openRun_bad (GW : GateWalks) (he : Errs9 w ad) (hn30 : ns.length ≤ 30) (hno : ¬ (OkPks ps ∧ 1 ≤ per ∧ per ≤ 1000 ∧ NumsOk 1 3000 ns)) (cb : Nat) (a5 : Option Addr) (k5 : Nat) (a7 : Option Addr) (k7 : Nat) (hc : LiesC w (some ⟨cb, 0, none⟩) bare8) (hn : LiesN w a5 ns) (h1 : ns.length ≤ k5) (h2 : k5 ≤ maxLen) (h3 : a5 = none → ns = [] ∧ k5 = 0) (hp : PksLie w a7 k7 ps) :
  Calls Tryz.prog 20 #[.agg #[.slice (some ⟨cb, 0, none⟩) 8 8, .string ⟨#[114, 111, 117, 110, 100]⟩, .int .i64 per, .slice a5 ns.length k5], .slice a7 ps.length k7] w fun e w' => ∃ s9 s10 s11, e = .returned (.tuple #[s9, s10, s11]) ∧ OpenBad w s9 s10 s11 w' := by
 obtain ⟨c, p, hri⟩ := runIs_is bare8 (k := 4) (by decide) per ns ps
 have hc0 := bare_no hri hno
 refine (GW.bad (some ⟨cb, 0, none⟩) 8 bare8 ⟨#[114, 111, 117, 110, 100]⟩ per a5 k5 ns a7 k7 ps w ad c p he ⟨hc, by decide, by decide, hn, h1, h2, h3, slim_bare ns hn30⟩ hp (by rw [kind_round]; exact hri) hc0).mono ?_
 rintro e w' ⟨qa, qcap, la, lcap, E, rfl, hE, hb⟩
 obtain ⟨ty, v, rfl⟩ := hE.some_ (by omega)
 exact ⟨_, _, _, rfl, qa, qcap, la, lcap, ty, v, rfl, rfl, rfl, hb⟩
theorem openRun_good (GW : GateWalks) (he : Errs9 w ad) (hn30 : ns.length ≤ 30) (ho : OkPks ps) (hp1 : 1 ≤ per) (hp2 : per ≤ 1000) (hns : NumsOk 1 3000 ns) (cb : Nat) (a5 : Option Addr) (k5 : Nat) (a7 : Option Addr) (k7 : Nat) (hc : LiesC w (some ⟨cb, 0, none⟩) bare8) (hn : LiesN w a5 ns) (h1 : ns.length ≤ k5) (h2 : k5 ≤ maxLen) (h3 : a5 = none → ns = [] ∧ k5 = 0) (hp : PksLie w a7 k7 ps) :
  Calls Tryz.prog 20 #[.agg #[.slice (some ⟨cb, 0, none⟩) 8 8, .string ⟨#[114, 111, 117, 110, 100]⟩, .int .i64 per, .slice a5 ns.length k5], .slice a7 ps.length k7] w fun e w' => ∃ s9 s10 s11, e = .returned (.tuple #[s9, s10, s11]) ∧ OpenGood per ps ns w s9 s10 s11 w' := by
 refine (GW.good (some ⟨cb, 0, none⟩) 8 bare8 ⟨#[114, 111, 117, 110, 100]⟩ per a5 k5 ns a7 k7 ps w ad he ⟨hc, by decide, by decide, hn, h1, h2, h3, slim_bare ns hn30⟩ hp (by rw [kind_round]; exact bare_round hp1 hp2 hns) ho (never_bare _)).mono ?_
 rintro e w' ⟨qa, qcap, la, lcap, qs, l, rfl, g1, g2, g3, hb⟩
 rw [kind_round] at g3
 obtain ⟨rfl, h5⟩ := run_bare ho g3
 have hrs : RoundSent per qs ns l := by
  rcases h5 with ⟨e, -⟩ | ⟨e, -⟩ | ⟨e, -⟩ | ⟨-, h⟩ | ⟨e, -⟩
  case inr.inr.inr.inl => exact h
  all_goals omega
 exact ⟨_, _, _, rfl, qa, qcap, la, lcap, l, rfl, rfl, rfl, g1.pks, g2.sent, hrs, hb⟩
set_option maxRecDepth 100000 in
set_option maxHeartbeats 4000000 in
theorem gateOpen_bad (GW : GateWalks) (he : Errs9 w ad) (hp : PksLie w pa pcap ps) (hn : LiesN w na ns) (hnn : na = none → ns = [] ∧ ncap = 0) (hn30 : ns.length ≤ 30) (hfit : ps.length ≤ 80 ∨ ps.length = 301) (hno : ¬ (OkPks ps ∧ 1 ≤ per ∧ per ≤ 1000 ∧ NumsOk 1 3000 ns)) :
  Calls Tryz.prog 6 #[.slice pa ps.length pcap, .int .i64 per, .slice na ns.length ncap] w fun e w' => e = .returned (.bool true) ∧ Below w.heap.size w w' := by
 have HOp : Hid (∀ W, Below w.heap.size w W → Calls Tryz.prog 9 #[] W fun e w' => e = .returned (.bool true) ∧ Below W.heap.size W w') := fun W hb => opens_by GW W ad (he.below hb)
 have HFit : Hid (∀ w', Calls Tryz.prog 19 #[.slice pa ps.length pcap, .int .i64 80] w' fun e w'' => e = .returned (.bool true) ∧ w'' = w') := fun w' => fitPkts_yes pa ps.length pcap 80 w' (Nat.le_trans hp.cap hp.max) (by omega)
 have HOp2 : Hid (∀ W, Below w.heap.size w W → Calls Tryz.prog 21 #[.slice pa ps.length pcap] W fun e w' => ∃ a' cap', e = .returned (.slice a' ps.length cap') ∧ PksLie w' a' cap' ps ∧ Below W.heap.size W w') := fun W hb => (ownPackets_any pa pcap ps W (hp.pks.below hb) (by omega) hp.none_).mono fun e w' ⟨v, h1, h2, h3⟩ => by
  obtain ⟨a', cap', rfl, g1, g2, g3, -, g5⟩ := OwnP.open h2
  exact ⟨a', cap', h1, ⟨g3, g1, g2, g5⟩, h3⟩
 have HGr : Hid (∀ W cb a5 k5 a7 k7, Below w.heap.size w W → LiesC W (some ⟨cb, 0, none⟩) bare8 → LiesN W a5 ns → ns.length ≤ k5 → k5 ≤ maxLen → (a5 = none → ns = [] ∧ k5 = 0) → PksLie W a7 k7 ps → Calls Tryz.prog 20 #[.agg #[.slice (some ⟨cb, 0, none⟩) 8 8, .string ⟨#[114, 111, 117, 110, 100]⟩, .int .i64 per, .slice a5 ns.length k5], .slice a7 ps.length k7] W fun e w' => ∃ s9 s10 s11, e = .returned (.tuple #[s9, s10, s11]) ∧ OpenBad W s9 s10 s11 w') := fun W cb a5 k5 a7 k7 hb h1 h2 h3 h4 h5 h6 => openRun_bad ps per ns W ad GW (he.below hb) hn30 hno cb a5 k5 a7 k7 h1 h2 h3 h4 h5 h6
 have HRr : Hid (∀ W a7 k7, Below w.heap.size w W → PksLie W a7 k7 ps → Calls Tryz.prog 26 #[.slice a7 ps.length k7, .int .i64 per, .slice na ns.length ncap] W fun e w' => ∃ ty v, e = .returned (.tuple #[.slice none 0 0, .iface ty v]) ∧ Below W.heap.size W w') := fun W a7 k7 hb h => roundRun_bad a7 k7 ps per na ncap ns W ad (he.below hb).bo ⟨(he.below hb).c1, (he.below hb).c2⟩ h.pks h.cap h.max (hn.below hb) hno
 have HLn : Hid (∀ W, Below w.heap.size w W → LiesN W na ns) := fun W hb => hn.below hb
 have HNn : Hid (na = none → ns = [] ∧ ncap = 0) := hnn
 obtain ⟨i0, hi, hz0, hz1, hz2⟩ := info_parts Tryz.infoInt
 have hmk := make_curves
 obtain ⟨r, hr⟩ : ∃ r, ns.length = r := ⟨_, rfl⟩
 obtain ⟨n, hm⟩ : ∃ n, ps.length = n := ⟨_, rfl⟩
 have HM : Hid (ns.length = r ∧ ps.length = n) := ⟨hr, hm⟩
 rw [hr] at hn30
 rw [hm] at HFit HOp2
 rw [hr, hm] at HGr HRr
 rw [hr, hm]
 clear he hp hn hnn hfit hr hm GW hno
 go_enter Tryz.func6, Tryz.ntmps6
 go_wp2_with fail
 refine (HOp.out _ (Below.refl _ _)).mono ?_
 rintro e w1 ⟨rfl, hb⟩
 have HB1 : Hid (Below w.heap.size w w1) := hb
 clear hb
 have hr30 : decide ((30 : Int) < (r : Int)) = false := decide_eq_false (by omega)
 have hr30n : decide (30 < r) = false := decide_eq_false (by omega)
 go_wp2_with fail
 refine (HFit.out _).mono ?_
 rintro e w2 ⟨rfl, rfl⟩
 have HAfter : Hid (∀ a5 k5 w5, LiesN w5 a5 ns ∧ r ≤ k5 ∧ k5 ≤ maxLen ∧ Below ((w2.alloc (.cells (madeCells #[.slice none 0 0] 8) 38)).alloc (.cells #[.slice (some ⟨w2.heap.size, 0, none⟩) 8 8, .string ⟨#[114, 111, 117, 110, 100]⟩, .int .i64 per, .slice none 0 0] 32)).heap.size ((w2.alloc (.cells (madeCells #[.slice none 0 0] 8) 38)).alloc (.cells #[.slice (some ⟨w2.heap.size, 0, none⟩) 8 8, .string ⟨#[114, 111, 117, 110, 100]⟩, .int .i64 per, .slice none 0 0] 32)) w5 ∧ (a5 = none → ns = [] ∧ k5 = 0) ∧ (∀ ad, a5 = some ad → ((w2.alloc (.cells (madeCells #[.slice none 0 0] 8) 38)).alloc (.cells #[.slice (some ⟨w2.heap.size, 0, none⟩) 8 8, .string ⟨#[114, 111, 117, 110, 100]⟩, .int .i64 per, .slice none 0 0] 32)).heap.size ≤ ad.block) →
   w5.cell? ⟨w2.heap.size + 1, 3, none⟩ = some (.slice none 0 0) ∧ w5.frozen? ⟨w2.heap.size + 1, 3, none⟩ = false ∧ Hid (GateAt (w5.setCell ⟨w2.heap.size + 1, 3, none⟩ (.slice a5 r k5)) (w2.heap.size + 1) (.slice (some ⟨w2.heap.size, 0, none⟩) 8 8) ⟨#[114, 111, 117, 110, 100]⟩ per (.slice a5 r k5) ∧
   LiesC (w5.setCell ⟨w2.heap.size + 1, 3, none⟩ (.slice a5 r k5)) (some ⟨w2.heap.size, 0, none⟩) bare8 ∧ LiesN (w5.setCell ⟨w2.heap.size + 1, 3, none⟩ (.slice a5 r k5)) a5 ns ∧ Below w.heap.size w (w5.setCell ⟨w2.heap.size + 1, 3, none⟩ (.slice a5 r k5)) ∧ r ≤ k5 ∧ k5 ≤ maxLen ∧ (a5 = none → ns = [] ∧ k5 = 0))) := fun a5 k5 w5 ⟨g1, g2, g3, g4, g5, g6⟩ => by
  obtain ⟨f1, f2, f3, f4, f5, f6⟩ := openGate_put w2 per r ns a5 k5 w5 g1 g4 g6
  exact ⟨f1, f2, f3, f4, f5, HB1.out.trans (f6.mono HB1.out.size), g2, g3, g5⟩
 have HLV : Hid (LiesN ((w2.alloc (.cells (madeCells #[.slice none 0 0] 8) 38)).alloc (.cells #[.slice (some ⟨w2.heap.size, 0, none⟩) 8 8, .string ⟨#[114, 111, 117, 110, 100]⟩, .int .i64 per, .slice none 0 0] 32)) na ns) := HLn.out _ ((HB1.out.alloc HB1.out.size _).alloc (Nat.le_trans HB1.out.size (by simp)) _)
 go_wp2_with (at_builtin; go_must (refine wpList_append_nums _ rfl _ _ 23 rfl 3 i0 (.int .i64 0) Tryz.underlying23 hi hz0 hz1 hz2 rfl na ncap r ns HM.out.1 rfl rfl HLV.out HNn.out (by omega) ?_; rintro a5 k5 w5 h5; obtain ⟨p0, p1, HE⟩ := HAfter.out a5 k5 w5 h5; clear h5 HLV))
 obtain ⟨B, hB⟩ : ∃ B, B = w2.heap.size := ⟨_, rfl⟩
 obtain ⟨V, hV⟩ : ∃ V, V = (w5.setCell ⟨w2.heap.size + 1, 3, none⟩ (.slice a5 r k5)) := ⟨_, rfl⟩
 rw [← hV, ← hB] at HE
 rw [← hV, ← hB]
 clear hV hB p0 p1 HAfter HB1 hmk
 have HSb : Hid (∀ W, Below V.heap.size V W → W.cell? ⟨B + 1, 0, none⟩ = some (.slice (some ⟨B, 0, none⟩) 8 8) ∧ W.cell? ⟨B + 1, 1, none⟩ = some (.string ⟨#[114, 111, 117, 110, 100]⟩) ∧ W.cell? ⟨B + 1, 2, none⟩ = some (.int .i64 per) ∧ W.cell? ⟨B + 1, 3, none⟩ = some (.slice a5 r k5)) := fun W hW => ⟨cell_later hW HE.out.1.c0, cell_later hW HE.out.1.c1, cell_later hW HE.out.1.c2, cell_later hW HE.out.1.c3⟩
 have HTr : Hid (∀ W, Below V.heap.size V W → Below w.heap.size w W) := fun W hW => HE.out.2.2.2.1.trans (hW.mono HE.out.2.2.2.1.size)
 have HVV : Hid (Below V.heap.size V V) := Below.refl _ _
 have HD3 : Hid (Below V.heap.size V V.drew) := below_drewN (Below.refl _ _) 1
 have HGo : Hid (∀ W a7 k7, Below V.heap.size V W → PksLie W a7 k7 ps → Calls Tryz.prog 20 #[.agg #[.slice (some ⟨B, 0, none⟩) 8 8, .string ⟨#[114, 111, 117, 110, 100]⟩, .int .i64 per, .slice a5 r k5], .slice a7 n k7] W fun e w' => ∃ s9 s10 s11, e = .returned (.tuple #[s9, s10, s11]) ∧ OpenBad W s9 s10 s11 w') := fun W a7 k7 hb h => HGr.out W B a5 k5 a7 k7 (HTr.out W hb) (HE.out.2.1.below hb) (HE.out.2.2.1.below hb) HE.out.2.2.2.2.1 HE.out.2.2.2.2.2.1 HE.out.2.2.2.2.2.2 h
 clear HGr
 go_cut [9, 10, 11] (fun s9 s10 s11 wx => ∃ W, Below V.heap.size V W ∧ OpenBad W s9 s10 s11 wx)
 case first =>
  go_region_held3 (fun w' => w'.cell? ⟨B + 1, 0, none⟩ = some (.slice (some ⟨B, 0, none⟩) 8 8) ∧ w'.cell? ⟨B + 1, 1, none⟩ = some (.string ⟨#[114, 111, 117, 110, 100]⟩) ∧ w'.cell? ⟨B + 1, 2, none⟩ = some (.int .i64 per) ∧ w'.cell? ⟨B + 1, 3, none⟩ = some (.slice a5 r k5))
   (first | exact hS | exact HSb.out _ HD3.out | exact HSb.out _ HVV.out)
   (first
   | (go_at_call 21; refine (HOp2.out _ (HTr.out _ (by first | exact HD3.out | exact HVV.out))).mono ?_; rintro e w6 ⟨a7, k7, rfl, hp6, hb6⟩; have HB6 : Hid (Below V.heap.size V w6 ∧ PksLie w6 a7 k7 ps) := (by first | exact ⟨HD3.out.trans (hb6.mono HD3.out.size), hp6⟩ | exact ⟨HVV.out.trans (hb6.mono HVV.out.size), hp6⟩); have hS := HSb.out w6 HB6.out.1; clear hp6 hb6)
   | (go_at_call 20; refine (HGo.out _ a7 k7 HB6.out.1 HB6.out.2).mono ?_; rintro e w7 ⟨s9, s10, s11, rfl, h7⟩; have H7 : Hid (OpenBad w6 s9 s10 s11 w7) := h7; have hS := HSb.out w7 (HB6.out.1.trans (Below.mono (show Below w6.heap.size w6 w7 from (by obtain ⟨_, _, _, _, _, _, -, -, -, h⟩ := h7; exact h)) HB6.out.1.size)); clear h7))
  all_goals (go_wp2_with fail; go_meet; exact ⟨w6, HB6.out.1, H7.out⟩)
 case rest =>
 obtain ⟨W6, hW6, qa, qcap, la, lcap, ty, v, rfl, rfl, rfl, hbc⟩ := hcut
 have hb8 : Below V.heap.size V wc := hW6.trans (hbc.mono hW6.size)
 have HC : Hid (Below w.heap.size w wc) := HTr.out wc hb8
 clear hW6 hbc hb8
 go_wp2_with fail
 refine (HOp2.out _ HC.out).mono ?_
 rintro e w8 ⟨a8, k8, rfl, hp8, hb8⟩
 have HB8 : Hid (Below w.heap.size w w8 ∧ PksLie w8 a8 k8 ps) := ⟨HC.out.trans (hb8.mono HC.out.size), hp8⟩
 clear hp8 hb8
 go_wp2_with fail
 refine (HRr.out _ a8 k8 HB8.out.1 HB8.out.2).mono ?_
 rintro e w9 ⟨ty2, v2, rfl, hb9⟩
 have HB9 : Hid (Below w.heap.size w w9) := HB8.out.1.trans (hb9.mono HB8.out.1.size)
 clear hb9
 go_wp2_with fail
 go_ret
 exact ⟨rfl, HB9.out⟩
set_option maxRecDepth 100000 in
set_option maxHeartbeats 4000000 in
theorem gateOpen_good (GW : GateWalks) (he : Errs9 w ad) (hp : PksLie w pa pcap ps) (hn : LiesN w na ns) (hnn : na = none → ns = [] ∧ ncap = 0) (hn30 : ns.length ≤ 30) (hfit : ps.length ≤ 80 ∨ ps.length = 301) (ho : OkPks ps) (hp1 : 1 ≤ per) (hp2 : per ≤ 1000) (hns : NumsOk 1 3000 ns) :
  Calls Tryz.prog 6 #[.slice pa ps.length pcap, .int .i64 per, .slice na ns.length ncap] w fun e w' => e = .returned (.bool true) ∧ Below w.heap.size w w' := by
 have HOp : Hid (∀ W, Below w.heap.size w W → Calls Tryz.prog 9 #[] W fun e w' => e = .returned (.bool true) ∧ Below W.heap.size W w') := fun W hb => opens_by GW W ad (he.below hb)
 have HFit : Hid (∀ w', Calls Tryz.prog 19 #[.slice pa ps.length pcap, .int .i64 80] w' fun e w'' => e = .returned (.bool true) ∧ w'' = w') := fun w' => fitPkts_yes pa ps.length pcap 80 w' (Nat.le_trans hp.cap hp.max) (by omega)
 have HOp2 : Hid (∀ W, Below w.heap.size w W → Calls Tryz.prog 21 #[.slice pa ps.length pcap] W fun e w' => ∃ a' cap', e = .returned (.slice a' ps.length cap') ∧ PksLie w' a' cap' ps ∧ Below W.heap.size W w') := fun W hb => (ownPackets_any pa pcap ps W (hp.pks.below hb) (by omega) hp.none_).mono fun e w' ⟨v, h1, h2, h3⟩ => by
  obtain ⟨a', cap', rfl, g1, g2, g3, -, g5⟩ := OwnP.open h2
  exact ⟨a', cap', h1, ⟨g3, g1, g2, g5⟩, h3⟩
 have HGr : Hid (∀ W cb a5 k5 a7 k7, Below w.heap.size w W → LiesC W (some ⟨cb, 0, none⟩) bare8 → LiesN W a5 ns → ns.length ≤ k5 → k5 ≤ maxLen → (a5 = none → ns = [] ∧ k5 = 0) → PksLie W a7 k7 ps → Calls Tryz.prog 20 #[.agg #[.slice (some ⟨cb, 0, none⟩) 8 8, .string ⟨#[114, 111, 117, 110, 100]⟩, .int .i64 per, .slice a5 ns.length k5], .slice a7 ps.length k7] W fun e w' => ∃ s9 s10 s11, e = .returned (.tuple #[s9, s10, s11]) ∧ OpenGood per ps ns W s9 s10 s11 w') := fun W cb a5 k5 a7 k7 hb h1 h2 h3 h4 h5 h6 => openRun_good ps per ns W ad GW (he.below hb) hn30 ho hp1 hp2 hns cb a5 k5 a7 k7 h1 h2 h3 h4 h5 h6
 have HRr : Hid (∀ W a7 k7, Below w.heap.size w W → PksLie W a7 k7 ps → Calls Tryz.prog 26 #[.slice a7 ps.length k7, .int .i64 per, .slice na ns.length ncap] W fun e w' => ∃ la lcap l, e = .returned (.tuple #[.slice la l.length lcap, .nilIface]) ∧ LiesS w' la l ∧ RoundSent per ps ns l ∧ Below W.heap.size W w') := fun W a7 k7 hb h => (roundRun_ok a7 k7 ps per na ncap ns W h.pks (hn.below hb) ho hp1 hp2 hns).mono fun e w' ⟨v, h1, l, h2, h3, h4⟩ => by
  obtain ⟨la, lcap, rfl, -, -, hl, -, -⟩ := OwnS.open h2
  exact ⟨la, lcap, l, h1, hl, h3, h4⟩
 have HLp : Hid (∀ W, Below w.heap.size w W → LiesP W pa ps) := fun W hb => hp.pks.below hb
 have HFew : Hid (ps.length ≤ 1000 ∧ ∀ l, RoundSent per ps ns l → l.length ≤ 1000) := ⟨by omega, fun l h => by
  have := (h.may ho (fun f => (quOf_in hns.each (by omega) f).1) hp1).2.2
  omega⟩
 have HLn : Hid (∀ W, Below w.heap.size w W → LiesN W na ns) := fun W hb => hn.below hb
 have HNn : Hid (na = none → ns = [] ∧ ncap = 0) := hnn
 obtain ⟨i0, hi, hz0, hz1, hz2⟩ := info_parts Tryz.infoInt
 have hmk := make_curves
 obtain ⟨r, hr⟩ : ∃ r, ns.length = r := ⟨_, rfl⟩
 obtain ⟨n, hm⟩ : ∃ n, ps.length = n := ⟨_, rfl⟩
 have HM : Hid (ns.length = r ∧ ps.length = n) := ⟨hr, hm⟩
 rw [hr] at hn30
 rw [hm] at HFit HOp2
 rw [hr, hm] at HGr HRr
 rw [hr, hm]
 clear he hp hn hnn hfit hr hm GW ho hp1 hp2 hns
 go_enter Tryz.func6, Tryz.ntmps6
 go_wp2_with fail
 refine (HOp.out _ (Below.refl _ _)).mono ?_
 rintro e w1 ⟨rfl, hb⟩
 have HB1 : Hid (Below w.heap.size w w1) := hb
 clear hb
 have hr30 : decide ((30 : Int) < (r : Int)) = false := decide_eq_false (by omega)
 have hr30n : decide (30 < r) = false := decide_eq_false (by omega)
 go_wp2_with fail
 refine (HFit.out _).mono ?_
 rintro e w2 ⟨rfl, rfl⟩
 have HAfter : Hid (∀ a5 k5 w5, LiesN w5 a5 ns ∧ r ≤ k5 ∧ k5 ≤ maxLen ∧ Below ((w2.alloc (.cells (madeCells #[.slice none 0 0] 8) 38)).alloc (.cells #[.slice (some ⟨w2.heap.size, 0, none⟩) 8 8, .string ⟨#[114, 111, 117, 110, 100]⟩, .int .i64 per, .slice none 0 0] 32)).heap.size ((w2.alloc (.cells (madeCells #[.slice none 0 0] 8) 38)).alloc (.cells #[.slice (some ⟨w2.heap.size, 0, none⟩) 8 8, .string ⟨#[114, 111, 117, 110, 100]⟩, .int .i64 per, .slice none 0 0] 32)) w5 ∧ (a5 = none → ns = [] ∧ k5 = 0) ∧ (∀ ad, a5 = some ad → ((w2.alloc (.cells (madeCells #[.slice none 0 0] 8) 38)).alloc (.cells #[.slice (some ⟨w2.heap.size, 0, none⟩) 8 8, .string ⟨#[114, 111, 117, 110, 100]⟩, .int .i64 per, .slice none 0 0] 32)).heap.size ≤ ad.block) →
   w5.cell? ⟨w2.heap.size + 1, 3, none⟩ = some (.slice none 0 0) ∧ w5.frozen? ⟨w2.heap.size + 1, 3, none⟩ = false ∧ Hid (GateAt (w5.setCell ⟨w2.heap.size + 1, 3, none⟩ (.slice a5 r k5)) (w2.heap.size + 1) (.slice (some ⟨w2.heap.size, 0, none⟩) 8 8) ⟨#[114, 111, 117, 110, 100]⟩ per (.slice a5 r k5) ∧
   LiesC (w5.setCell ⟨w2.heap.size + 1, 3, none⟩ (.slice a5 r k5)) (some ⟨w2.heap.size, 0, none⟩) bare8 ∧ LiesN (w5.setCell ⟨w2.heap.size + 1, 3, none⟩ (.slice a5 r k5)) a5 ns ∧ Below w.heap.size w (w5.setCell ⟨w2.heap.size + 1, 3, none⟩ (.slice a5 r k5)) ∧ r ≤ k5 ∧ k5 ≤ maxLen ∧ (a5 = none → ns = [] ∧ k5 = 0))) := fun a5 k5 w5 ⟨g1, g2, g3, g4, g5, g6⟩ => by
  obtain ⟨f1, f2, f3, f4, f5, f6⟩ := openGate_put w2 per r ns a5 k5 w5 g1 g4 g6
  exact ⟨f1, f2, f3, f4, f5, HB1.out.trans (f6.mono HB1.out.size), g2, g3, g5⟩
 have HLV : Hid (LiesN ((w2.alloc (.cells (madeCells #[.slice none 0 0] 8) 38)).alloc (.cells #[.slice (some ⟨w2.heap.size, 0, none⟩) 8 8, .string ⟨#[114, 111, 117, 110, 100]⟩, .int .i64 per, .slice none 0 0] 32)) na ns) := HLn.out _ ((HB1.out.alloc HB1.out.size _).alloc (Nat.le_trans HB1.out.size (by simp)) _)
 go_wp2_with (at_builtin; go_must (refine wpList_append_nums _ rfl _ _ 23 rfl 3 i0 (.int .i64 0) Tryz.underlying23 hi hz0 hz1 hz2 rfl na ncap r ns HM.out.1 rfl rfl HLV.out HNn.out (by omega) ?_; rintro a5 k5 w5 h5; obtain ⟨p0, p1, HE⟩ := HAfter.out a5 k5 w5 h5; clear h5 HLV))
 obtain ⟨B, hB⟩ : ∃ B, B = w2.heap.size := ⟨_, rfl⟩
 obtain ⟨V, hV⟩ : ∃ V, V = (w5.setCell ⟨w2.heap.size + 1, 3, none⟩ (.slice a5 r k5)) := ⟨_, rfl⟩
 rw [← hV, ← hB] at HE
 rw [← hV, ← hB]
 clear hV hB p0 p1 HAfter HB1 hmk
 have HSb : Hid (∀ W, Below V.heap.size V W → W.cell? ⟨B + 1, 0, none⟩ = some (.slice (some ⟨B, 0, none⟩) 8 8) ∧ W.cell? ⟨B + 1, 1, none⟩ = some (.string ⟨#[114, 111, 117, 110, 100]⟩) ∧ W.cell? ⟨B + 1, 2, none⟩ = some (.int .i64 per) ∧ W.cell? ⟨B + 1, 3, none⟩ = some (.slice a5 r k5)) := fun W hW => ⟨cell_later hW HE.out.1.c0, cell_later hW HE.out.1.c1, cell_later hW HE.out.1.c2, cell_later hW HE.out.1.c3⟩
 have HTr : Hid (∀ W, Below V.heap.size V W → Below w.heap.size w W) := fun W hW => HE.out.2.2.2.1.trans (hW.mono HE.out.2.2.2.1.size)
 have HVV : Hid (Below V.heap.size V V) := Below.refl _ _
 have HD3 : Hid (Below V.heap.size V V.drew) := below_drewN (Below.refl _ _) 1
 have HGo : Hid (∀ W a7 k7, Below V.heap.size V W → PksLie W a7 k7 ps → Calls Tryz.prog 20 #[.agg #[.slice (some ⟨B, 0, none⟩) 8 8, .string ⟨#[114, 111, 117, 110, 100]⟩, .int .i64 per, .slice a5 r k5], .slice a7 n k7] W fun e w' => ∃ s9 s10 s11, e = .returned (.tuple #[s9, s10, s11]) ∧ OpenGood per ps ns W s9 s10 s11 w') := fun W a7 k7 hb h => HGr.out W B a5 k5 a7 k7 (HTr.out W hb) (HE.out.2.1.below hb) (HE.out.2.2.1.below hb) HE.out.2.2.2.2.1 HE.out.2.2.2.2.2.1 HE.out.2.2.2.2.2.2 h
 clear HGr
 go_cut [9, 10, 11] (fun s9 s10 s11 wx => ∃ W, Below V.heap.size V W ∧ OpenGood per ps ns W s9 s10 s11 wx)
 case first =>
  go_region_held3 (fun w' => w'.cell? ⟨B + 1, 0, none⟩ = some (.slice (some ⟨B, 0, none⟩) 8 8) ∧ w'.cell? ⟨B + 1, 1, none⟩ = some (.string ⟨#[114, 111, 117, 110, 100]⟩) ∧ w'.cell? ⟨B + 1, 2, none⟩ = some (.int .i64 per) ∧ w'.cell? ⟨B + 1, 3, none⟩ = some (.slice a5 r k5))
   (first | exact hS | exact HSb.out _ HD3.out | exact HSb.out _ HVV.out)
   (first
   | (go_at_call 21; refine (HOp2.out _ (HTr.out _ (by first | exact HD3.out | exact HVV.out))).mono ?_; rintro e w6 ⟨a7, k7, rfl, hp6, hb6⟩; have HB6 : Hid (Below V.heap.size V w6 ∧ PksLie w6 a7 k7 ps) := (by first | exact ⟨HD3.out.trans (hb6.mono HD3.out.size), hp6⟩ | exact ⟨HVV.out.trans (hb6.mono HVV.out.size), hp6⟩); have hS := HSb.out w6 HB6.out.1; clear hp6 hb6)
   | (go_at_call 20; refine (HGo.out _ a7 k7 HB6.out.1 HB6.out.2).mono ?_; rintro e w7 ⟨s9, s10, s11, rfl, h7⟩; have H7 : Hid (OpenGood per ps ns w6 s9 s10 s11 w7) := h7; have hS := HSb.out w7 (HB6.out.1.trans (Below.mono (show Below w6.heap.size w6 w7 from (by obtain ⟨_, _, _, _, _, -, -, -, -, -, -, h⟩ := h7; exact h)) HB6.out.1.size)); clear h7))
  all_goals (go_wp2_with fail; go_meet; exact ⟨w6, HB6.out.1, H7.out⟩)
 case rest =>
 obtain ⟨W6, hW6, qa, qcap, la, lcap, l, rfl, rfl, rfl, hq, hl, hrs, hbc⟩ := hcut
 have hb8 : Below V.heap.size V wc := hW6.trans (hbc.mono hW6.size)
 rw [HM.out.2]
 have HC : Hid (Below w.heap.size w wc ∧ LiesP wc qa ps ∧ LiesS wc la l ∧ RoundSent per ps ns l) := ⟨HTr.out wc hb8, hq, hl, hrs⟩
 clear hW6 hq hl hrs hbc hb8
 go_wp2_with fail
 refine (HOp2.out _ HC.out.1).mono ?_
 rintro e w8 ⟨a8, k8, rfl, hp8, hb8⟩
 have HB8 : Hid (Below w.heap.size w w8 ∧ PksLie w8 a8 k8 ps ∧ Below wc.heap.size wc w8) := ⟨HC.out.1.trans (hb8.mono HC.out.1.size), hp8, hb8⟩
 clear hp8 hb8
 go_wp2_with fail
 refine (HRr.out _ a8 k8 HB8.out.1 HB8.out.2.1).mono ?_
 rintro e w9 ⟨la2, lcap2, l2, rfl, hl2, hrs2, hb9⟩
 obtain rfl := HC.out.2.2.2.same hrs2
 have HB9 : Hid (Below w.heap.size w w9 ∧ Below wc.heap.size wc w9 ∧ LiesS w9 la2 l) := ⟨HB8.out.1.trans (hb9.mono HB8.out.1.size), HB8.out.2.2.trans (hb9.mono HB8.out.2.2.size), hl2⟩
 have HSp : Hid (Calls Tryz.prog 27 #[.slice qa n qcap, .slice pa n pcap] w9 fun e w' => e = .returned (.bool true) ∧ Below w9.heap.size w9 w') := by
  have := samePkts_any qa pa qcap pcap ps ps w9 (HC.out.2.1.below HB9.out.2.1) (HLp.out _ HB9.out.1) rfl HFew.out.1
  rwa [HM.out.2, (sameB_iff ps ps).2 rfl] at this
 have HSs : Hid (∀ W, Below w9.heap.size w9 W → Calls Tryz.prog 28 #[.slice la l.length lcap, .slice la2 l.length lcap2] W fun e w' => e = .returned (.bool true) ∧ Below W.heap.size W w') := fun W hW => sameSent_yes la la2 lcap lcap2 l W ((HC.out.2.2.1.below HB9.out.2.1).below hW) (HB9.out.2.2.below hW) (HFew.out.2 l HC.out.2.2.2)
 obtain ⟨q, hq⟩ : ∃ q, l.length = q := ⟨_, rfl⟩
 rw [hq] at HSs
 rw [hq]
 clear hl2 hrs2 hb9 hq
 go_wp2_with fail
 refine HSp.out.mono ?_
 rintro e wA ⟨rfl, hbA⟩
 have HBA : Hid (Below w9.heap.size w9 wA) := hbA
 clear hbA
 go_wp2_with fail
 refine (HSs.out _ HBA.out).mono ?_
 rintro e wB ⟨rfl, hbB⟩
 have HBB : Hid (Below w.heap.size w wB) := HB9.out.1.trans ((HBA.out.trans (hbB.mono HBA.out.size)).mono HB9.out.1.size)
 clear hbB
 go_wp2_with fail
 go_ret
 exact ⟨rfl, HBB.out⟩
set_option maxRecDepth 100000 in
set_option maxHeartbeats 4000000 in
theorem gateOpen_out (GW : GateWalks) (he : Errs9 w ad) (hpm : ps.length ≤ maxLen) (hnm : ns.length ≤ maxLen) (h : ¬ ((ps.length ≤ 80 ∨ ps.length = 301) ∧ ns.length ≤ 30)) :
  Calls Tryz.prog 6 #[.slice pa ps.length pcap, .int .i64 per, .slice na ns.length ncap] w fun e w' => e = .returned (.bool true) ∧ Below w.heap.size w w' := by
 have HOp : Hid (∀ W, Below w.heap.size w W → Calls Tryz.prog 9 #[] W fun e w' => e = .returned (.bool true) ∧ Below W.heap.size W w') := fun W hb => opens_by GW W ad (he.below hb)
 by_cases hfit : ps.length ≤ 80 ∨ ps.length = 301
 ·
  have HFit : Hid (∀ w', Calls Tryz.prog 19 #[.slice pa ps.length pcap, .int .i64 80] w' fun e w'' => e = .returned (.bool true) ∧ w'' = w') := fun w' => fitPkts_yes pa ps.length pcap 80 w' hpm (by omega)
  have hr0 : ¬ ns.length ≤ 30 := fun h' => h ⟨hfit, h'⟩
  obtain ⟨r, hr⟩ : ∃ r, ns.length = r := ⟨_, rfl⟩
  obtain ⟨n, hm⟩ : ∃ n, ps.length = n := ⟨_, rfl⟩
  rw [hr] at hnm hr0
  rw [hm] at HFit
  rw [hr, hm]
  clear he hpm h hfit hr hm GW
  unfold maxLen at hnm
  have hr30 : decide ((30 : Int) < (r : Int)) = true := decide_eq_true (by omega)
  have hr30n : decide (30 < r) = true := decide_eq_true (by omega)
  go_enter Tryz.func6, Tryz.ntmps6
  go_wp2_with fail
  refine (HOp.out _ (Below.refl _ _)).mono ?_
  rintro e w1 ⟨rfl, hb⟩
  have HB1 : Hid (Below w.heap.size w w1) := hb
  clear hb
  go_wp2_with fail
  refine (HFit.out _).mono ?_
  rintro e w2 ⟨rfl, rfl⟩
  go_wp2_with fail
  go_ret
  exact ⟨rfl, HB1.out⟩
 ·
  have HFit : Hid (∀ w', Calls Tryz.prog 19 #[.slice pa ps.length pcap, .int .i64 80] w' fun e w'' => e = .returned (.bool false) ∧ w'' = w') := fun w' => fitPkts_no pa ps.length pcap 80 w' (by omega) (by omega)
  obtain ⟨r, hr⟩ : ∃ r, ns.length = r := ⟨_, rfl⟩
  obtain ⟨n, hm⟩ : ∃ n, ps.length = n := ⟨_, rfl⟩
  rw [hm] at HFit
  rw [hr, hm]
  clear he hpm hnm h hfit hr hm GW
  go_enter Tryz.func6, Tryz.ntmps6
  go_wp2_with fail
  refine (HOp.out _ (Below.refl _ _)).mono ?_
  rintro e w1 ⟨rfl, hb⟩
  have HB1 : Hid (Below w.heap.size w w1) := hb
  clear hb
  go_wp2_with fail
  refine (HFit.out _).mono ?_
  rintro e w2 ⟨rfl, rfl⟩
  go_wp2_with fail
  go_ret
  exact ⟨rfl, HB1.out⟩
theorem gateOpen_any (GW : GateWalks) (he : Errs9 w ad) (hp : PksLie w pa pcap ps) (hn : LiesN w na ns) (hnc : ns.length ≤ ncap) (hnm : ncap ≤ maxLen) (hnn : na = none → ns = [] ∧ ncap = 0) :
  Calls Tryz.prog 6 #[.slice pa ps.length pcap, .int .i64 per, .slice na ns.length ncap] w fun e w' => e = .returned (.bool true) ∧ Below w.heap.size w w' := by
 by_cases h : (ps.length ≤ 80 ∨ ps.length = 301) ∧ ns.length ≤ 30
 ·
  by_cases hok : OkPks ps ∧ 1 ≤ per ∧ per ≤ 1000 ∧ NumsOk 1 3000 ns
  · exact gateOpen_good pa pcap ps per na ncap ns w ad GW he hp hn hnn h.2 h.1 hok.1 hok.2.1 hok.2.2.1 hok.2.2.2
  · exact gateOpen_bad pa pcap ps per na ncap ns w ad GW he hp hn hnn h.2 h.1 hok
 · exact gateOpen_out pa pcap ps per na ncap ns w ad GW he (Nat.le_trans hp.cap hp.max) (Nat.le_trans hnc hnm) h
end
end Go.Proofs.YtibhkijaafdkoaaGreatDoor
